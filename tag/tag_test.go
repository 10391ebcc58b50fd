package tag_test

import (
	"bytes"
	"crypto/sha256"
	"math"
	"slices"
	"strings"
	"testing"

	"indenture/api"
	"indenture/internal/noise"
	"indenture/sha"
	"indenture/tag"
)

// isOf holds a hash against the sum of those pieces, laid side by side, by the library and by layer 3.
func isOf(t *testing.T, what string, got api.Hash, pieces ...[]byte) {
	t.Helper()
	in := slices.Concat(pieces...)
	if want := api.Hash(sha256.Sum256(in)); got != want || got != sha.Sum(in) {
		t.Errorf("%s: %x, want %x, the sum of %.80x", what, got, want, in)
	}
}

func isBytes(t *testing.T, what string, got, want []byte) {
	t.Helper()
	if !bytes.Equal(got, want) {
		t.Errorf("%s: %.80x, want %.80x", what, got, want)
	}
}

// samples: nothing, each byte, texts that are no runes, and lengths about the ends of sha's blocks and about the limits.
func samples() [][]byte {
	l := [][]byte{nil, {}, []byte("abc"), []byte("é\x00\xff\xfe\n"), {0xed, 0xa0, 0x80}}
	for x := range 256 {
		l = append(l, []byte{byte(x)})
	}
	for n := range 140 {
		l = append(l, noise.Bytes(uint32(n), n), make([]byte, n))
	}
	for _, n := range []int{api.MaxValue - 1, api.MaxValue, api.MaxValue + 1, api.MaxRecord, api.MaxRecord + 1, 1 << 20} {
		l = append(l, noise.Bytes(uint32(n), n))
	}
	return l
}

// hashes: noughts, 255s, one bit at either end, and those that this layer tells.
func hashes() []api.Hash {
	return []api.Hash{
		{}, {0: 1}, {31: 1}, {0: 0x80}, {31: 0x80},
		api.Hash(bytes.Repeat([]byte{255}, 32)), api.Hash(noise.Bytes(1, 32)), api.Hash(noise.Bytes(2, 32)),
		tag.Empty(), tag.Nothing(), tag.Leaf(nil), tag.Key("k"), tag.Value("v"),
	}
}

func isHex(t *testing.T, what string, got api.Hash, want string) {
	t.Helper()
	if text := sha.Hex(got); text != want {
		t.Errorf("%s: %s, want %s", what, text, want)
	}
}

// P4.1

func TestNamed(t *testing.T) {
	isHex(t, "Empty", tag.Empty(), "e3b0c44298fc1c149afbf4c8996fb92427ae41e4649b934ca495991b7852b855")
	isHex(t, "Leaf of nil", tag.Leaf(nil), "6e340b9cffb37a989ca544e6bb780a2c78901d3fb33738768511a30617afa01d")
	isHex(t, "Leaf of no bytes", tag.Leaf([]byte{}), "6e340b9cffb37a989ca544e6bb780a2c78901d3fb33738768511a30617afa01d")
	isOf(t, "Empty", tag.Empty())
	isOf(t, "Nothing", tag.Nothing(), []byte{5})
	isOf(t, "Key of no text", tag.Key(""), []byte{2})
	isOf(t, "Value of no text", tag.Value(""), []byte{6})
}

func TestOfBytes(t *testing.T) {
	for _, b := range samples() {
		isOf(t, "Leaf", tag.Leaf(b), []byte{0}, b)
		isOf(t, "Key", tag.Key(string(b)), []byte{2}, b)
		isOf(t, "Value", tag.Value(string(b)), []byte{6}, b)
	}
}

func TestOfHashes(t *testing.T) {
	for _, a := range hashes() {
		for _, b := range hashes() {
			isOf(t, "Node", tag.Node(a, b), []byte{1}, a[:], b[:])
			isOf(t, "Item", tag.Item(a, b), []byte{3}, a[:], b[:])
		}
	}
}

func TestFork(t *testing.T) {
	for _, a := range hashes() {
		for _, b := range hashes() {
			for _, bit := range []int{0, 1, 127, 128, 254, 255} {
				isOf(t, "Fork", tag.Fork(bit, a, b), []byte{4, byte(bit)}, a[:], b[:])
			}
		}
	}
	a, b := api.Hash(noise.Bytes(3, 32)), api.Hash(noise.Bytes(4, 32))
	for bit := range 256 {
		isOf(t, "Fork of each bit", tag.Fork(bit, a, b), []byte{4, byte(bit)}, a[:], b[:])
	}
}

func TestForkOfOtherBits(t *testing.T) {
	a, b := api.Hash(noise.Bytes(3, 32)), api.Hash(noise.Bytes(4, 32))
	for _, c := range []struct {
		bit    int
		lowest byte
	}{
		{256, 0}, {257, 1}, {511, 255}, {512, 0}, {65535, 255}, {65536 + 77, 77}, {1 << 32, 0}, {1<<40 + 200, 200},
		{-1, 255}, {-2, 254}, {-128, 128}, {-255, 1}, {-256, 0}, {-257, 255}, {-1 << 40, 0},
		{math.MaxInt, 255}, {math.MaxInt - 1, 254}, {math.MinInt, 0}, {math.MinInt + 1, 1},
	} {
		isOf(t, "Fork of a bit that is no byte", tag.Fork(c.bit, a, b), []byte{4, c.lowest}, a[:], b[:])
	}
}

func TestBytes(t *testing.T) {
	for x := range 256 {
		kind := byte(x)
		isBytes(t, "no pieces", tag.Bytes(kind), []byte{kind})
		isBytes(t, "a list of none", tag.Bytes(kind, [][]byte{}...), []byte{kind})
		isBytes(t, "nil for a list", tag.Bytes(kind, [][]byte(nil)...), []byte{kind})
		isBytes(t, "pieces of no bytes", tag.Bytes(kind, nil, []byte{}, nil), []byte{kind})
		isBytes(t, "pieces", tag.Bytes(kind, []byte("a"), nil, []byte("bc"), []byte{}), []byte{kind, 97, 98, 99})
	}
	for _, b := range samples() {
		isBytes(t, "one piece", tag.Bytes(7, b), slices.Concat([]byte{7}, b))
		isBytes(t, "a piece twice", tag.Bytes(7, b, b), slices.Concat([]byte{7}, b, b))
		isBytes(t, "pieces of a sample", tag.Bytes(0, []byte{9}, b, []byte{8}), slices.Concat([]byte{0, 9}, b, []byte{8}))
	}
	l := samples()
	isBytes(t, "all samples", tag.Bytes(3, l...), slices.Concat([]byte{3}, slices.Concat(l...)))
}

// Pieces are laid in time that grows as they do: one that copied all for each piece would not end here.
func TestBytesOfManyPieces(t *testing.T) {
	l := slices.Repeat([][]byte{[]byte("abc"), nil, []byte("d")}, 1<<18)
	isBytes(t, "many pieces", tag.Bytes(1, l...), append([]byte{1}, bytes.Repeat([]byte("abcd"), 1<<18)...))
}

// A hash is of what Bytes lays side by side, so that whoever has the pieces has the input.
func TestHashesAreOfBytes(t *testing.T) {
	a, b := api.Hash(noise.Bytes(5, 32)), api.Hash(noise.Bytes(6, 32))
	isOf(t, "Leaf", tag.Leaf([]byte("abc")), tag.Bytes(0, []byte("abc")))
	isOf(t, "Node", tag.Node(a, b), tag.Bytes(1, a[:], b[:]))
	isOf(t, "Key", tag.Key("abc"), tag.Bytes(2, []byte("abc")))
	isOf(t, "Item", tag.Item(a, b), tag.Bytes(3, a[:], b[:]))
	isOf(t, "Fork", tag.Fork(9, a, b), tag.Bytes(4, []byte{9}, a[:], b[:]))
	isOf(t, "Nothing", tag.Nothing(), tag.Bytes(5))
	isOf(t, "Value", tag.Value("abc"), tag.Bytes(6, []byte("abc")))
}

// R3

func TestBytesTellsNewMemory(t *testing.T) {
	for _, n := range []int{0, 1, 7, 8, 31, 32, 100} {
		room := bytes.Repeat([]byte{77}, 256)
		untouched := bytes.Clone(room)
		list := [][]byte{room[:n], room[:n], []byte("behind")}
		want := slices.Concat([]byte{1}, room[:2*n])
		first, second, single := tag.Bytes(1, list[:2]...), tag.Bytes(1, list[:2]...), tag.Bytes(1, room[:n])
		if len(list[0]) != n || len(list[1]) != n || string(list[2]) != "behind" {
			t.Errorf("the list of pieces has changed: %q", list)
		}
		isBytes(t, "what was handed in, and its room", room, untouched)
		clear(first[:cap(first)])
		isBytes(t, "what was handed in, behind a changed answer", room, untouched)
		clear(room)
		isBytes(t, "behind changed pieces, and another changed answer", second, want)
		isBytes(t, "one piece, behind changed pieces", single, want[:1+n])
	}
}

func TestLeafChangesNothing(t *testing.T) {
	room := bytes.Repeat([]byte{77}, 256)
	for _, n := range []int{0, 1, 55, 63, 64, 130} {
		was := tag.Leaf(room[:n])
		isBytes(t, "what was handed in, and its room", room, bytes.Repeat([]byte{77}, 256))
		isOf(t, "a part of its room", was, []byte{0}, room[:n])
	}
	pieces := []api.Hash{{1}, {2}}
	tag.Node(pieces[0], pieces[1])
	tag.Item(pieces[0], pieces[1])
	tag.Fork(3, pieces[0], pieces[1])
	if pieces[0] != (api.Hash{1}) || pieces[1] != (api.Hash{2}) {
		t.Errorf("hashes that were handed in have changed: %x", pieces)
	}
}

// R4

func TestAskedAgain(t *testing.T) {
	first := things()
	for range 3 {
		for i, k := range things() {
			if k != first[i] {
				t.Errorf("%s asked again: %x, was %x", k.what, k.hash, first[i].hash)
			}
		}
	}
}

// thing is one of a kind, with its hash.
type thing struct {
	what string
	hash api.Hash
}

// things: no two of them are the same, though what stands behind their kinds' bytes often is.
func things() []thing {
	l := []thing{{"Empty", tag.Empty()}, {"Nothing", tag.Nothing()}}
	seen := map[string]int{}
	texts := func(b []byte) {
		if seen[string(b)]++; seen[string(b)] > 1 {
			return
		}
		l = append(l,
			thing{"Leaf of " + string(b), tag.Leaf(b)},
			thing{"Key of " + string(b), tag.Key(string(b))},
			thing{"Value of " + string(b), tag.Value(string(b))})
	}
	for _, b := range samples() {
		texts(b)
	}
	for _, a := range hashes() {
		for _, b := range hashes() {
			pair := slices.Concat(a[:], b[:])
			l = append(l, thing{"Node of " + string(pair), tag.Node(a, b)}, thing{"Item of " + string(pair), tag.Item(a, b)})
			for _, bit := range []int{0, 1, 3, 4, 128, 255} {
				l = append(l, thing{"Fork of " + string([]byte{byte(bit)}) + string(pair), tag.Fork(bit, a, b)})
				texts(slices.Concat([]byte{byte(bit)}, pair))
				texts(slices.Concat([]byte{4, byte(bit)}, pair))
			}
			texts(pair)
			texts(slices.Concat([]byte{0}, pair))
			texts(slices.Concat([]byte{1}, pair))
			texts(slices.Concat([]byte{3}, pair))
		}
	}
	return l
}

// P4.2

func TestKindsAreApart(t *testing.T) {
	seen := map[api.Hash]string{}
	for _, k := range things() {
		if other, ok := seen[k.hash]; ok {
			t.Errorf("%.80q and %.80q have one hash", k.what, other)
		}
		seen[k.hash] = k.what
	}
}

func TestSidesAreApart(t *testing.T) {
	for _, a := range hashes() {
		for _, b := range hashes() {
			if a == b {
				continue
			}
			if tag.Node(a, b) == tag.Node(b, a) || tag.Item(a, b) == tag.Item(b, a) || tag.Fork(7, a, b) == tag.Fork(7, b, a) {
				t.Errorf("%x and %x: one hash, whichever is left", a, b)
			}
		}
	}
}

func TestBitsAreApart(t *testing.T) {
	a, b := tag.Key("a"), tag.Key("b")
	seen := map[api.Hash]int{}
	for bit := range 256 {
		h := tag.Fork(bit, a, b)
		if other, ok := seen[h]; ok {
			t.Errorf("Fork of bits %d and %d: one hash", other, bit)
		}
		seen[h] = bit
	}
}

// No text, and no leaf, is one of noughts more or fewer, or one that begins like it.
func TestLengthsAreApart(t *testing.T) {
	seen := map[api.Hash]int{}
	for n := range 300 {
		b := make([]byte, n)
		for _, h := range []api.Hash{tag.Leaf(b), tag.Key(string(b)), tag.Value(string(b)), tag.Value(strings.Repeat("x", n+1))} {
			if other, ok := seen[h]; ok {
				t.Errorf("things of %d and of %d bytes have one hash", other, n)
			}
			seen[h] = n
		}
	}
}
