package sha_test

import (
	"bytes"
	"crypto/sha256"
	"encoding"
	"encoding/binary"
	"hash"
	"slices"
	"strings"
	"testing"

	"indenture/api"
	"indenture/internal/noise"
	"indenture/sha"
)

func isHash(t *testing.T, what string, got, want api.Hash) {
	t.Helper()
	if got != want {
		t.Errorf("%s: %x, want %x", what, got, want)
	}
}

func isHex(t *testing.T, what string, got api.Hash, want string) {
	t.Helper()
	if text := sha.Hex(got); text != strings.ReplaceAll(want, " ", "") {
		t.Errorf("%s: %s, want %s", what, text, want)
	}
}

// has holds a State against the bytes that were written to it.
func has(t *testing.T, what string, s *sha.State, b []byte) {
	t.Helper()
	isHash(t, what, s.Sum(), sha256.Sum256(b))
	if s.Len() != len(b) {
		t.Errorf("%s: Len %d, want %d", what, s.Len(), len(b))
	}
}

func write(t *testing.T, s *sha.State, b []byte) {
	t.Helper()
	if !s.Write(b) {
		t.Fatalf("Write of %d bytes behind %d: false", len(b), s.Len())
	}
}

// written: a State of those pieces.
func written(t *testing.T, pieces ...[]byte) *sha.State {
	t.Helper()
	s := sha.New()
	for _, p := range pieces {
		write(t, s, p)
	}
	return s
}

// lengths: about the ends of blocks, and about where the count no longer has room in one.
func lengths() []int {
	l := []int{0, 1, 2, 3, 31, 32, 33}
	for block := 64; block <= 256; block += 64 {
		l = append(l, block-10, block-9, block-8, block-7, block-2, block-1, block, block+1)
	}
	return append(l, 8191, 8192, 8193)
}

// P3.1

func TestSumNamed(t *testing.T) {
	isHex(t, "abc", sha.Sum([]byte("abc")), "ba7816bf 8f01cfea 414140de 5dae2223 b00361a3 96177a9c b410ff61 f20015ad")
	none := "e3b0c442 98fc1c14 9afbf4c8 996fb924 27ae41e4 649b934c a495991b 7852b855"
	isHex(t, "nil", sha.Sum(nil), none)
	isHex(t, "an empty list", sha.Sum([]byte{}), none)
	isHex(t, "nothing written", sha.New().Sum(), none)
	// Those of FIPS 180's examples: the count has no room in the first block of the one, and in that of the other there are two whole blocks nearly.
	isHex(t, "56 bytes", sha.Sum([]byte("abcdbcdecdefdefgefghfghighijhijkijkljklmklmnlmnomnopnopq")),
		"248d6a61 d20638b8 e5c02693 0c3e6039 a33ce459 64ff2167 f6ecedd4 19db06c1")
	isHex(t, "112 bytes", sha.Sum([]byte("abcdefghbcdefghicdefghijdefghijkefghijklfghijklmghijklmnhijklmnoijklmnopjklmnopqklmnopqrlmnopqrsmnopqrstnopqrstu")),
		"cf5b16a7 78af8380 036ce59e 7b049237 0b249b11 e8f07a51 afac4503 7afee9d1")
	isHex(t, "a million times a", sha.Sum(bytes.Repeat([]byte("a"), 1000000)),
		"cdc76e5c 9914fb92 81a1c7e2 84d73e67 f1809a48 a497200e 046d39cc c7112cd0")
}

func TestSumOfLengths(t *testing.T) {
	for n := range 300 {
		b := noise.Bytes(uint32(n), n)
		isHash(t, "noise", sha.Sum(b), sha256.Sum256(b))
		isHash(t, "noughts", sha.Sum(make([]byte, n)), sha256.Sum256(make([]byte, n)))
	}
	for _, n := range lengths() {
		b := bytes.Repeat([]byte{255}, n)
		isHash(t, "255s", sha.Sum(b), sha256.Sum256(b))
		has(t, "written", written(t, b), b)
	}
	b := noise.Bytes(1, 1<<20+7)
	isHash(t, "a mebibyte", sha.Sum(b), sha256.Sum256(b))
}

func TestSumOfEachBit(t *testing.T) {
	for bit := range 8 * 128 {
		b := make([]byte, 128)
		b[bit/8] = 1 << (bit % 8)
		isHash(t, "one bit", sha.Sum(b), sha256.Sum256(b))
	}
}

func TestNew(t *testing.T) {
	a, b := sha.New(), sha.New()
	has(t, "New", a, nil)
	write(t, a, []byte("abc"))
	has(t, "another one", b, nil)
	has(t, "one made behind", sha.New(), nil)
	has(t, "abc", a, []byte("abc"))
}

func TestSumChangesNothing(t *testing.T) {
	for _, n := range lengths() {
		b := noise.Bytes(2, n)
		s := written(t, b)
		for range 3 {
			has(t, "asked again", s, b)
		}
		more := noise.Bytes(3, 70)
		write(t, s, more)
		has(t, "gone on behind Sum", s, slices.Concat(b, more))
	}
	s := sha.New()
	var all []byte
	for i := range 200 {
		b := []byte{byte(i)}
		all = append(all, b...)
		write(t, s, b)
		has(t, "asked behind each byte", s, all)
	}
}

func TestWriteOfNothing(t *testing.T) {
	for _, n := range lengths() {
		b := noise.Bytes(4, n)
		s := sha.New()
		write(t, s, nil)
		write(t, s, b)
		write(t, s, []byte{})
		write(t, s, nil)
		has(t, "nothing ahead and behind", s, b)
	}
}

// beyond is a sum of the library's, as if length bytes had gone ahead of which nothing but the count is left.
func beyond(t *testing.T, length uint64) hash.Hash {
	t.Helper()
	h := sha256.New()
	state, err := h.(encoding.BinaryMarshaler).MarshalBinary()
	if err != nil {
		t.Fatal(err)
	}
	binary.BigEndian.PutUint64(state[len(state)-8:], length)
	if err := h.(encoding.BinaryUnmarshaler).UnmarshalBinary(state); err != nil {
		t.Fatal(err)
	}
	return h
}

// The count at the end has more than four bytes, where there are many.
func TestSumFar(t *testing.T) {
	for _, length := range []uint64{1 << 28, 1<<29 - 64, 1 << 29, 1<<32 - 64, 1 << 32, 1 << 36, 1<<40 - 128} {
		for _, n := range []int{0, 1, 55, 56, 64, 128} {
			b := noise.Bytes(5, n)
			s, want := sha.Far(length), beyond(t, length)
			write(t, s, b)
			want.Write(b)
			isHash(t, "far", s.Sum(), api.Hash(want.Sum(nil)))
			if s.Len() != int(length)+n {
				t.Errorf("far: Len %d, want %d", s.Len(), int(length)+n)
			}
		}
	}
}

func TestWriteTooMany(t *testing.T) {
	const limit = 1 << 40
	s := sha.Far(limit - 64)
	write(t, s, make([]byte, 60))
	was := s.Sum()
	for _, n := range []int{5, 6, 64, 65, 1 << 16} {
		if s.Write(make([]byte, n)) {
			t.Fatalf("Write of %d bytes where there is room for 4: true", n)
		}
		if s.Len() != limit-4 || s.Sum() != was {
			t.Fatalf("what was refused has changed the State: Len %d", s.Len())
		}
	}
	write(t, s, make([]byte, 4))
	if s.Len() != limit {
		t.Errorf("Len %d, want 2^40", s.Len())
	}
	want := beyond(t, limit-64)
	want.Write(make([]byte, 64))
	isHash(t, "at the limit", s.Sum(), api.Hash(want.Sum(nil)))
	write(t, s, nil)
	write(t, s, []byte{})
	if s.Write([]byte{0}) || s.Copy().Write([]byte{0}) {
		t.Error("Write of a byte past the limit: true")
	}
}

func TestCopyGoesItsOwnWay(t *testing.T) {
	for _, n := range lengths() {
		b := noise.Bytes(6, n)
		s := written(t, b)
		c := s.Copy()
		if c == s {
			t.Fatal("Copy tells the State itself")
		}
		has(t, "a Copy", c, b)
		left, right := noise.Bytes(7, 100), noise.Bytes(8, 33)
		write(t, s, left)
		has(t, "a Copy, the other one gone on", c, b)
		write(t, c, right)
		has(t, "the other one, a Copy gone on", s, slices.Concat(b, left))
		has(t, "a Copy gone on", c, slices.Concat(b, right))
		again := c.Copy()
		write(t, again, left)
		has(t, "a Copy of a Copy", again, slices.Concat(b, right, left))
		has(t, "what was copied twice", c, slices.Concat(b, right))
	}
}

// R5

func TestStateThatNoCallMade(t *testing.T) {
	var zero sha.State
	for _, s := range []*sha.State{nil, {}, &zero, new(sha.State)} {
		for range 2 {
			for _, b := range [][]byte{nil, {}, []byte("abc"), make([]byte, 64)} {
				if s.Write(b) {
					t.Errorf("Write of %d bytes: true", len(b))
				}
			}
			isHash(t, "Sum", s.Sum(), api.Hash{})
			if s.Len() != 0 {
				t.Errorf("Len: %d", s.Len())
			}
			if s.Copy() != nil {
				t.Error("Copy: not nil")
			}
		}
	}
	if zero != (sha.State{}) {
		t.Error("calls have changed a State that no call made")
	}
}

// P3.3

func TestPiecesOfTwoAndThree(t *testing.T) {
	whole := noise.Bytes(9, 200)
	want := sha.Sum(whole)
	isHash(t, "the whole", want, sha256.Sum256(whole))
	for i := range len(whole) + 1 {
		isHash(t, "two pieces", written(t, whole[:i], whole[i:]).Sum(), want)
		for j := i; j <= len(whole); j++ {
			isHash(t, "three pieces", written(t, whole[:i], whole[i:j], whole[j:]).Sum(), want)
		}
	}
}

func TestPiecesOfOneSize(t *testing.T) {
	whole := noise.Bytes(10, 1000)
	for size := 1; size < 140; size++ {
		s := sha.New()
		for piece := range slices.Chunk(whole, size) {
			write(t, s, piece)
			write(t, s, nil)
		}
		has(t, "pieces of one size", s, whole)
	}
}

func TestPiecesOfAnySizes(t *testing.T) {
	for i := range 300 {
		cuts := noise.Bytes(uint32(i), 60)
		whole := noise.Bytes(uint32(i)+1000, 4000)
		s := sha.New()
		rest := whole
		for _, c := range cuts {
			n := min(int(c), len(rest))
			write(t, s, rest[:n])
			rest = rest[n:]
			if c%8 == 0 {
				s = s.Copy()
			}
			if c%8 == 1 {
				has(t, "on the way", s, whole[:len(whole)-len(rest)])
			}
		}
		write(t, s, rest)
		has(t, "any pieces", s, whole)
	}
}

// R3

func TestMemory(t *testing.T) {
	room := bytes.Repeat([]byte{77}, 256)
	for _, n := range []int{0, 1, 55, 56, 63, 64, 65, 130} {
		b := room[:n]
		want := sha256.Sum256(b)
		isHash(t, "Sum", sha.Sum(b), want)
		s := written(t, b)
		s.Sum()
		if !bytes.Equal(room, bytes.Repeat([]byte{77}, 256)) {
			t.Fatalf("what was handed in has changed: %v", room)
		}
		clear(b)
		isHash(t, "what was written, behind changed bytes", s.Sum(), want)
		copy(b, bytes.Repeat([]byte{77}, n))
	}
}

// FuzzPieces goes over its seeds in an ordinary run, and on from them by go test -fuzz.
func FuzzPieces(f *testing.F) {
	for _, n := range lengths() {
		f.Add(noise.Bytes(11, n), uint16(n/2), uint16(n/3))
	}
	f.Fuzz(func(t *testing.T, b []byte, i, j uint16) {
		first := min(int(i), len(b))
		second := first + min(int(j), len(b)-first)
		has(t, "pieces", written(t, b[:first], b[first:second], b[second:]), b)
		isHash(t, "the whole", sha.Sum(b), sha256.Sum256(b))
	})
}
