package mountain_test

import (
	"encoding/binary"
	"math"
	"slices"
	"testing"

	"indenture/internal/noise"
	"indenture/mountain"
)

// P9.3

func TestOfsRootIsRoot(t *testing.T) {
	l := anyHashes(11, 1025)
	for n := range 301 {
		isRoot(t, mountain.Of(l[:n]), mountain.Root(l[:n]))
	}
	for _, n := range sizes() {
		isRoot(t, mountain.Of(l[:n]), mountain.Root(l[:n]))
		isRoot(t, mountain.Of(make([]Hash, n)), mountain.Root(make([]Hash, n)))
	}
}

// Both take time that grows as the leaves do: one that went over all of them for each leaf would not end here.
func TestManyLeaves(t *testing.T) {
	l := make([]Hash, 1<<17+3)
	for i := range l {
		binary.BigEndian.PutUint64(l[i][:], uint64(i))
	}
	p := mountain.Of(l)
	isGood(t, p, true)
	isRoot(t, p, mountain.Root(l))
	isRoot(t, p, rootByLevels(l))
}

// Peaks that are kept stay as they were when others grow from them.
func TestTwoAddsBehindOne(t *testing.T) {
	l := anyHashes(12, 70)
	for n := range 64 {
		p := mountain.Of(l[:n])
		first := adds(t, p, l[n], peaksByWords(l[:n+1]))
		other := append(slices.Clone(l[:n]), Hash{7})
		second := adds(t, p, Hash{7}, peaksByWords(other))
		isPeaks(t, "the first one", first, peaksByWords(l[:n+1]))
		isPeaks(t, "the second one", second, peaksByWords(other))
		isPeaks(t, "what both grew from", p, peaksByWords(l[:n]))
	}
}

// R3

// roomy is l at the begin of a longer list, all of which is told, too.
func roomy(l []Hash) ([]Hash, []Hash) {
	room := append(slices.Clone(l), slices.Repeat([]Hash{{77}}, 8)...)
	return room[:len(l)], room
}

func spoil[T any](l []T, with T) {
	for i := range l[:cap(l)] {
		l[:cap(l)][i] = with
	}
}

func isUntouched(t *testing.T, what string, room, was []Hash) {
	t.Helper()
	if !slices.Equal(room, was) {
		t.Errorf("%s: what was handed in, or its room, has changed", what)
	}
}

func addTo(p Peaks) Peaks {
	out, _ := p.Add(Hash{1})
	return out
}

// handed: Peaks that grow with and without joining, and those that are refused.
func handed() []Peaks {
	l := wrong()
	for n := range 20 {
		l = append(l, mountain.Of(anyHashes(13, n)))
	}
	return append(l, Peaks{Size: greatest - 1, Tops: anyHashes(14, 40)}, Peaks{Size: greatest - 2, Tops: anyHashes(14, 39)})
}

func TestAddTellsNewMemory(t *testing.T) {
	for _, plain := range handed() {
		want := addTo(plain)
		want.Tops = slices.Clone(want.Tops)
		tops, room := roomy(plain.Tops)
		was := slices.Clone(room)
		p := Peaks{Size: plain.Size, Tops: tops}
		first, second := addTo(p), addTo(p)
		isPeaks(t, "Add where there is room", first, want)
		isUntouched(t, "Add", room, was)
		spoil(first.Tops, Hash{66})
		isUntouched(t, "behind a changed answer", room, was)
		isPeaks(t, "Add, behind another changed answer", second, want)
		spoil(room, Hash{55})
		isPeaks(t, "Add, behind changed Tops that were handed in", second, want)
	}
}

func TestOfTellsNewMemory(t *testing.T) {
	for n := range 20 {
		plain := anyHashes(15, n)
		want := peaksByWords(plain)
		l, room := roomy(plain)
		was := slices.Clone(room)
		first, second := mountain.Of(l), mountain.Of(l)
		isUntouched(t, "Of", room, was)
		spoil(first.Tops, Hash{66})
		isUntouched(t, "Of, behind a changed answer", room, was)
		isPeaks(t, "Of, behind another changed answer", second, want)
		spoil(room, Hash{55})
		isPeaks(t, "Of, behind changed leaves", second, want)
	}
}

func TestRootsChangeNothing(t *testing.T) {
	for n := range 20 {
		l, room := roomy(anyHashes(16, n))
		was := slices.Clone(room)
		mountain.Root(l)
		isUntouched(t, "Root", room, was)
	}
	for _, plain := range handed() {
		tops, room := roomy(plain.Tops)
		was := slices.Clone(room)
		p := Peaks{Size: plain.Size, Tops: tops}
		p.Good()
		p.Root()
		isUntouched(t, "Good and Root of Peaks", room, was)
	}
}

func TestBitsTellsNewMemory(t *testing.T) {
	for _, n := range []int{1, 2, 6, 1023, math.MaxInt} {
		first, second := mountain.Bits(n), mountain.Bits(n)
		spoil(first, -1)
		if !slices.Equal(second, bitsByWords(n)) {
			t.Errorf("Bits(%d) behind a changed answer: %d", n, second)
		}
		isBits(t, n, bitsByWords(n)...)
	}
}

// R1, R4

// agrees holds all calls against the words, at one Size, those Tops and a leaf.
func agrees(t *testing.T, p Peaks, h Hash) {
	t.Helper()
	good := p.Size >= 0 && p.Size <= greatest && len(p.Tops) == len(bitsByWords(p.Size))
	isGood(t, p, good)
	isSplit(t, p.Size, splitByWords(p.Size))
	isBits(t, p.Size, bitsByWords(p.Size)...)
	if good && p.Size > 0 {
		isRoot(t, p, joinedByWords(p.Tops))
	} else {
		isRoot(t, p, empty())
	}
	if good && p.Size < greatest {
		adds(t, p, h, addedByWords(p, h))
	} else {
		refuses(t, p, h)
	}
	isHash(t, "Root of any leaves", mountain.Root(p.Tops), rootByWords(p.Tops))
	isPeaks(t, "Of any leaves", mountain.Of(p.Tops), peaksByWords(p.Tops))
}

// anyOf: Peaks and a leaf from bytes. One of two has as many Tops as its Size asks for.
func anyOf(b []byte) (Peaks, Hash) {
	var head [16]byte
	b = b[copy(head[:], b):]
	size := int(binary.BigEndian.Uint64(head[:]) >> (head[8] % 64))
	if head[9]%8 == 0 {
		size = -size
	}
	count := int(head[10]) % 65
	if head[11]%2 == 0 {
		count = len(bitsByWords(size))
	}
	tops := anyHashes(uint32(head[12]), count)
	for i := range tops {
		b = b[copy(tops[i][:], b):]
	}
	return Peaks{Size: size, Tops: tops}, Hash{head[13], 31: head[14]}
}

func TestAnyPeaks(t *testing.T) {
	good := 0
	for seed := range 3000 {
		p, h := anyOf(noise.Bytes(uint32(seed)*7919+3, 16+seed%200))
		if p.Good() {
			good++
		}
		agrees(t, p, h)
	}
	if good < 300 || good > 2700 {
		t.Errorf("%d of 3000 are Good: the others are too few to tell, or these", good)
	}
}

func TestAskedAgain(t *testing.T) {
	for range 3 {
		for _, p := range handed() {
			agrees(t, p, Hash{8})
		}
	}
}

// FuzzCalls goes over its seeds in an ordinary run, and on from them by go test -fuzz.
func FuzzCalls(f *testing.F) {
	f.Add([]byte(nil))
	for seed := range 10 {
		f.Add(noise.Bytes(uint32(seed)+2000, 16+20*seed))
	}
	f.Fuzz(func(t *testing.T, b []byte) {
		p, h := anyOf(b)
		agrees(t, p, h)
	})
}
