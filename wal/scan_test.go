package wal_test

import (
	"bytes"
	"slices"
	"testing"

	"indenture/api"
	"indenture/internal/noise"
	"indenture/pack"
	"indenture/sum"
	"indenture/wal"
)

const sectorSize = api.SectorSize

// laid: the frames of those byte strings as they lie on a disk by the chapter's words, nought by nought.
func laid(texts ...[]byte) []byte {
	var b []byte
	for _, text := range texts {
		b = append(b, sum.Frame(text)...)
		for len(b)%sectorSize > 0 {
			b = append(b, 0)
		}
	}
	return b
}

// plainScan is Scan by the chapter's words alone.
func plainScan(b []byte) ([][]byte, int) {
	var told [][]byte
	at := 0
	for {
		text, size, ok := sum.Open(b[at:])
		if !ok {
			return told, at
		}
		end := at + size
		for ; end%sectorSize > 0; end++ {
			if end == len(b) || b[end] != 0 {
				return told, at
			}
		}
		told = append(told, text)
		at = end
	}
}

// framed: a frame of b by its chapter's words, of any length.
func framed(b []byte) []byte {
	f := append(pack.Num(nil, uint64(len(b))), b...)
	s := sum.Of(f)
	return append(f, byte(s>>24), byte(s>>16), byte(s>>8), byte(s))
}

// lengths: of what is framed, with frames that end just with a sector, a byte ahead of that and a byte behind, where the count's bytes change, and at the limit.
func lengths() []int {
	return []int{0, 1, 2, 10, 25, 26, 27, 28, 29, 57, 58, 59, 60, 61, 91, 123, 246, 247, 248, 249, 255, 256, 257, 1000, api.MaxRecord - 1, api.MaxRecord}
}

// some: seven byte strings, of one sector and of more.
func some() [][]byte {
	return [][]byte{[]byte("ab"), nil, noise.Bytes(1, 27), noise.Bytes(2, 26), noise.Bytes(3, 28), make([]byte, 60), noise.Bytes(4, 100)}
}

func sameTexts(a, b [][]byte) bool {
	return slices.EqualFunc(a, b, bytes.Equal)
}

func tells(t *testing.T, what string, b []byte, want [][]byte, place int) {
	t.Helper()
	got, end := wal.Scan(b)
	if !sameTexts(got, want) || end != place {
		t.Errorf("%s: %.40x up to %d, want %.40x up to %d", what, got, end, want, place)
	}
}

// ends: the places where each of those begins, and the end of the last.
func ends(texts [][]byte) []int {
	l := []int{0}
	for i := range texts {
		l = append(l, len(laid(texts[:i+1]...)))
	}
	return l
}

// P6.1

func TestScanOfNone(t *testing.T) {
	tells(t, "nil", nil, nil, 0)
	tells(t, "no bytes", []byte{}, nil, 0)
	for n := range 100 {
		tells(t, "noughts", make([]byte, n), nil, 0)
		tells(t, "noise", noise.Bytes(uint32(n), n), nil, 0)
	}
	for ahead := 1; ahead <= 2*sectorSize; ahead++ {
		tells(t, "a frame that is not at the begin", slices.Concat(make([]byte, ahead), laid([]byte("ab"))), nil, 0)
	}
}

func TestScanOfOne(t *testing.T) {
	for _, n := range lengths() {
		for _, text := range [][]byte{noise.Bytes(uint32(n), n), make([]byte, n), bytes.Repeat([]byte{255}, n)} {
			b := laid(text)
			if len(b)%sectorSize != 0 || len(b)-len(sum.Frame(text)) >= sectorSize {
				t.Fatalf("%d bytes lie on %d", n, len(b))
			}
			want := [][]byte{text}
			tells(t, "alone", b, want, len(b))
			tells(t, "with noughts behind", slices.Concat(b, make([]byte, 75)), want, len(b))
			tells(t, "with noise behind", slices.Concat(b, bytes.Repeat([]byte{77}, 75)), want, len(b))
			tells(t, "with a frame behind a sector of noughts", slices.Concat(b, make([]byte, sectorSize), b), want, len(b))
			tells(t, "twice", slices.Concat(b, b), [][]byte{text, text}, 2*len(b))
		}
	}
}

func TestScanOfTooLong(t *testing.T) {
	for _, n := range []int{api.MaxRecord + 1, api.MaxRecord + 2, 2 * api.MaxRecord} {
		f := framed(make([]byte, n))
		b := slices.Concat(laid([]byte("ab")), f, make([]byte, 2*sectorSize-len(f)%sectorSize))
		tells(t, "a frame of too many", b, [][]byte{[]byte("ab")}, sectorSize)
	}
}

// Of any first bytes those frames are told whose noughts are all there, whatever lies in the list's room.
func TestScanCutOff(t *testing.T) {
	texts := some()
	b, places := laid(texts...), ends(texts)
	for cut := range len(b) + 1 {
		whole := 0
		for whole < len(texts) && places[whole+1] <= cut {
			whole++
		}
		tells(t, "cut off", b[:cut], texts[:whole], places[whole])
		tells(t, "cut off, with no room", b[:cut:cut], texts[:whole], places[whole])
	}
}

func TestScanOfChanged(t *testing.T) {
	texts := some()
	b, places := laid(texts...), ends(texts)
	for at := range b {
		number := 0
		for places[number+1] <= at {
			number++
		}
		for _, turn := range []byte{1, 2, 128, 255} {
			b[at] ^= turn
			tells(t, "a byte that is changed", b, texts[:number], places[number])
			b[at] ^= turn
		}
	}
}

// Every nought behind a frame counts: the last one, too, and those of a frame that ends a byte ahead of a sector.
func TestScanOfNoughtsThatAreNone(t *testing.T) {
	for _, n := range lengths() {
		text := noise.Bytes(uint32(n), n)
		b, size := laid(text), len(sum.Frame(text))
		for at := size; at < len(b); at++ {
			for _, x := range []byte{1, 128, 255} {
				b[at] = x
				tells(t, "one that is none", b, nil, 0)
				tells(t, "one that is none, and more behind", slices.Concat(b, laid(text)), nil, 0)
			}
			b[at] = 0
		}
		for end := size; end < len(b); end++ {
			tells(t, "not all there", b[:end], nil, 0)
		}
		if size%sectorSize > 0 {
			tells(t, "a frame close behind", slices.Concat(b[:size], sum.Frame(text), make([]byte, 64)), nil, 0)
		}
	}
}

func TestScanOfAFramedFrame(t *testing.T) {
	inner := laid([]byte("inner"), []byte("other"))
	tells(t, "frames in a frame", laid(inner, nil), [][]byte{inner, {}}, len(laid(inner, nil)))
	// What is framed in one that is none is not looked for, though it begins with a sector.
	b := laid(slices.Concat(make([]byte, sectorSize-1), inner))
	if _, _, ok := sum.Open(b[sectorSize:]); !ok {
		t.Fatal("the inner frame does not begin with a sector")
	}
	b[1] ^= 1
	tells(t, "frames in one that is none", b, nil, 0)
}

// Many frames, in time that grows as they do.
func TestScanOfMany(t *testing.T) {
	texts := make([][]byte, 1<<16)
	for i := range texts {
		texts[i] = []byte{byte(i), byte(i >> 8)}
	}
	tells(t, "many", laid(texts...), texts, sectorSize*len(texts))
}

// R3

func TestScanTellsNewMemory(t *testing.T) {
	texts := some()
	room := slices.Concat(laid(texts...), bytes.Repeat([]byte{77}, 100))
	was := bytes.Clone(room)
	b := room[:len(room)-100]
	first, _ := wal.Scan(b)
	second, _ := wal.Scan(b)
	for i, text := range first {
		clear(text[:cap(text)])
		for j, other := range first[i+1:] {
			if !bytes.Equal(other, texts[i+1+j]) {
				t.Errorf("%d changed %d", i, i+1+j)
			}
		}
		_ = append(text, 9, 9, 9, 9, 9, 9, 9, 9)
	}
	clear(first[:cap(first)])
	if !bytes.Equal(room, was) {
		t.Error("what was scanned has changed, or its room")
	}
	clear(room)
	if !sameTexts(second, texts) {
		t.Errorf("told ahead of changed bytes: %.40x", second)
	}
}

// FuzzScan goes over its seeds in an ordinary run, and on from them by go test -fuzz.
func FuzzScan(f *testing.F) {
	b := laid(some()...)
	for cut := 0; cut <= len(b); cut += 13 {
		f.Add(b[:cut])
		f.Add(slices.Concat(b[:cut], []byte{1}, b[cut:]))
	}
	f.Fuzz(func(t *testing.T, b []byte) {
		want, place := plainScan(b)
		tells(t, "any bytes", b, want, place)
		if again := laid(want...); !bytes.Equal(again, b[:place]) {
			t.Errorf("what is told lies as %.40x, not %.40x", again, b[:place])
		}
		if len(b) <= api.MaxRecord {
			tells(t, "framed", laid(b, b), [][]byte{b, b}, len(laid(b, b)))
		}
	})
}
