package pack_test

import (
	"bytes"
	"encoding/binary"
	"math"
	"slices"
	"strings"
	"testing"

	"indenture/pack"
)

// wantNum is THE NUMBER, written from the document by another road than the program's.
func wantNum(n uint64) []byte {
	if n < 248 {
		return []byte{byte(n)}
	}
	var eight [8]byte
	binary.BigEndian.PutUint64(eight[:], n)
	tail := bytes.TrimLeft(eight[:], "\x00")
	return append([]byte{byte(247 + len(tail))}, tail...)
}

// edgeNums: small ones, and around every place where the count of bytes changes.
func edgeNums() []uint64 {
	var l []uint64
	for n := range uint64(700) {
		l = append(l, n)
	}
	for shift := 10; shift < 64; shift++ {
		n := uint64(1) << shift
		l = append(l, n-1, n, n+1, n|n>>3, n|0xff)
	}
	l = append(l, math.MaxInt64, math.MaxUint64-1, math.MaxUint64)
	slices.Sort(l)
	return slices.Compact(l)
}

// begin is what a test that fails tells of a list that may be long.
func begin[T any](l []T) []T { return l[:min(len(l), 20)] }

func noNum(t *testing.T, b []byte) {
	t.Helper()
	if n, size, ok := pack.GetNum(b); n != 0 || size != 0 || ok {
		t.Errorf("GetNum(%v): %d %d %v, want 0 0 false", b, n, size, ok)
	}
}

func noStr(t *testing.T, b []byte, most int) {
	t.Helper()
	if s, size, ok := pack.GetStr(b, most); s != "" || size != 0 || ok {
		t.Errorf("GetStr(%v, %d): %q %d %v, want nothing 0 false", b, most, s, size, ok)
	}
}

func noFlag(t *testing.T, b []byte) {
	t.Helper()
	if f, size, ok := pack.GetFlag(b); f || size != 0 || ok {
		t.Errorf("GetFlag(%v): %v %d %v, want false 0 false", b, f, size, ok)
	}
}

func noList(t *testing.T, b []byte, count, most int) {
	t.Helper()
	if l, size, ok := pack.GetList(b, count, most); len(l) != 0 || size != 0 || ok {
		t.Errorf("GetList(%v, %d, %d): %q %d %v, want nothing 0 false", begin(b), count, most, begin(l), size, ok)
	}
}

func isStr(t *testing.T, b []byte, most int, want string, wantSize int) {
	t.Helper()
	if s, size, ok := pack.GetStr(b, most); s != want || size != wantSize || !ok {
		t.Errorf("GetStr(%v, %d): %q %d %v, want %q %d true", b, most, s, size, ok, want, wantSize)
	}
}

func isList(t *testing.T, b []byte, count, most int, want []string, wantSize int) {
	t.Helper()
	if l, size, ok := pack.GetList(b, count, most); !slices.Equal(l, want) || size != wantSize || !ok {
		t.Errorf("GetList(%v, %d, %d): %q %d %v, want %q %d true", begin(b), count, most, begin(l), size, ok, begin(want), wantSize)
	}
}

func isBytes(t *testing.T, what string, got, want []byte) {
	t.Helper()
	if !bytes.Equal(got, want) {
		t.Errorf("%s: %v (%d), want %v (%d)", what, begin(got), len(got), begin(want), len(want))
	}
}

// P1.1

func TestNumExamples(t *testing.T) {
	for _, c := range []struct {
		n    uint64
		want []byte
	}{
		{0, []byte{0}},
		{5, []byte{5}},
		{247, []byte{247}},
		{248, []byte{248, 248}},
		{255, []byte{248, 255}},
		{256, []byte{249, 1, 0}},
		{1<<16 - 1, []byte{249, 255, 255}},
		{1 << 16, []byte{250, 1, 0, 0}},
		{1 << 24, []byte{251, 1, 0, 0, 0}},
		{1 << 32, []byte{252, 1, 0, 0, 0, 0}},
		{1 << 40, []byte{253, 1, 0, 0, 0, 0, 0}},
		{1 << 48, []byte{254, 1, 0, 0, 0, 0, 0, 0}},
		{1<<56 - 1, []byte{254, 255, 255, 255, 255, 255, 255, 255}},
		{1 << 56, []byte{255, 1, 0, 0, 0, 0, 0, 0, 0}},
		{0x0102030405060708, []byte{255, 1, 2, 3, 4, 5, 6, 7, 8}},
		{math.MaxUint64, []byte{255, 255, 255, 255, 255, 255, 255, 255, 255}},
	} {
		isBytes(t, "Num", pack.Num(nil, c.n), c.want)
		isBytes(t, "Num behind", pack.Num([]byte{9, 8}, c.n), append([]byte{9, 8}, c.want...))
	}
}

func TestNumAndGetNumAtEdges(t *testing.T) {
	for _, n := range edgeNums() {
		b := pack.Num(nil, n)
		isBytes(t, "Num", b, wantNum(n))
		if got, size, ok := pack.GetNum(b); got != n || size != len(b) || !ok {
			t.Errorf("GetNum(%v): %d %d %v, want %d %d true", b, got, size, ok, n, len(b))
		}
	}
}

func TestGetNumTooFewBytes(t *testing.T) {
	noNum(t, nil)
	noNum(t, []byte{})
	for count := 1; count <= 8; count++ {
		whole := append([]byte{byte(247 + count)}, bytes.Repeat([]byte{255}, count)...)
		for end := 1; end <= count; end++ {
			noNum(t, whole[:end])
		}
	}
	// What lies in the room behind a list's end is none of its bytes.
	noNum(t, []byte{249, 1, 0}[:2])
}

func TestGetNumNotAsNumWrites(t *testing.T) {
	for small := range 248 {
		noNum(t, []byte{248, byte(small)})
	}
	for count := 1; count <= 8; count++ {
		b := append([]byte{byte(247 + count), 0}, bytes.Repeat([]byte{255}, count-1)...)
		noNum(t, b)
		noNum(t, append(b, 1, 2, 3))
		noNum(t, append([]byte{byte(247 + count)}, make([]byte, count)...))
	}
	noNum(t, []byte{249, 0, 248})
	noNum(t, []byte{255, 0, 0, 0, 0, 0, 0, 0, 5})
}

// P1.2

func TestStr(t *testing.T) {
	isBytes(t, "Str", pack.Str(nil, "ab"), []byte{2, 97, 98})
	isBytes(t, "Str", pack.Str(nil, ""), []byte{0})
	isBytes(t, "Str", pack.Str([]byte{7}, "\x00\xff"), []byte{7, 2, 0, 255})
	for _, n := range []int{1, 247, 248, 255, 256, 65535, 65536} {
		s := strings.Repeat("x", n)
		isBytes(t, "Str", pack.Str([]byte{1}, s), slices.Concat([]byte{1}, wantNum(uint64(n)), []byte(s)))
	}
}

func TestGetStr(t *testing.T) {
	ab := []byte{2, 97, 98}
	isStr(t, ab, 2, "ab", 3)
	isStr(t, ab, math.MaxInt, "ab", 3)
	isStr(t, []byte{2, 97, 98, 99}, 2, "ab", 3)
	noStr(t, ab, 1)
	noStr(t, ab, 0)
	noStr(t, ab, -1)
	noStr(t, ab, math.MinInt)
	for _, most := range []int{0, -1, math.MinInt, 5} {
		isStr(t, []byte{0}, most, "", 1)
		isStr(t, []byte{0, 9}, most, "", 1)
	}
	for _, n := range []int{247, 248, 256, 65536} {
		b := pack.Str(nil, strings.Repeat("x", n))
		isStr(t, b, n, strings.Repeat("x", n), len(b))
		noStr(t, b, n-1)
		noStr(t, b[:len(b)-1], n)
	}
}

func TestGetStrWrong(t *testing.T) {
	noStr(t, nil, 10)
	noStr(t, []byte{}, 10)
	noStr(t, []byte{1}, 10)
	noStr(t, []byte{2, 97}, 10)
	noStr(t, []byte{2, 97, 98}[:2], 10)
	noStr(t, []byte{248, 2, 97, 98}, 10)
	noStr(t, []byte{249, 0, 2, 97, 98}, 10)
	noStr(t, []byte{248}, math.MaxInt)
	noStr(t, pack.Num(nil, math.MaxInt64), math.MaxInt)
	noStr(t, pack.Num(nil, 1<<63), math.MaxInt)
	noStr(t, pack.Num(nil, math.MaxUint64), math.MaxInt)
	noStr(t, pack.Num(nil, math.MaxUint64), -1)
	noStr(t, append(pack.Num(nil, math.MaxUint64-1), 97, 98), math.MaxInt)
}

func TestFlag(t *testing.T) {
	isBytes(t, "Flag", pack.Flag(nil, true), []byte{1})
	isBytes(t, "Flag", pack.Flag(nil, false), []byte{0})
	isBytes(t, "Flag", pack.Flag([]byte{4}, true), []byte{4, 1})
	isBytes(t, "Flag", pack.Flag([]byte{4}, false), []byte{4, 0})
	for _, tail := range [][]byte{nil, {7}} {
		if f, size, ok := pack.GetFlag(append([]byte{1}, tail...)); !f || size != 1 || !ok {
			t.Errorf("GetFlag(1): %v %d %v", f, size, ok)
		}
		if f, size, ok := pack.GetFlag(append([]byte{0}, tail...)); f || size != 1 || !ok {
			t.Errorf("GetFlag(0): %v %d %v", f, size, ok)
		}
	}
	noFlag(t, nil)
	noFlag(t, []byte{})
	for x := 2; x < 256; x++ {
		noFlag(t, []byte{byte(x), 1})
	}
}

func TestList(t *testing.T) {
	isBytes(t, "List", pack.List(nil, nil), []byte{0})
	isBytes(t, "List", pack.List(nil, []string{}), []byte{0})
	isBytes(t, "List", pack.List([]byte{3}, nil), []byte{3, 0})
	isBytes(t, "List", pack.List(nil, []string{""}), []byte{1, 0})
	isBytes(t, "List", pack.List(nil, []string{"a", "", "bc"}), []byte{3, 1, 97, 0, 2, 98, 99})
	isBytes(t, "List", pack.List(nil, make([]string, 248)), append([]byte{248, 248}, make([]byte, 248)...))
}

func TestGetList(t *testing.T) {
	for _, count := range []int{math.MinInt, -1, 0, 1, math.MaxInt} {
		for _, most := range []int{math.MinInt, -1, 0, math.MaxInt} {
			isList(t, []byte{0}, count, most, nil, 1)
			isList(t, []byte{0, 1, 97}, count, most, nil, 1)
		}
	}
	b := []byte{3, 1, 97, 0, 2, 98, 99}
	want := []string{"a", "", "bc"}
	isList(t, b, 3, 2, want, 7)
	isList(t, b, math.MaxInt, math.MaxInt, want, 7)
	isList(t, append(slices.Clone(b), 5), 3, 2, want, 7)
	isList(t, []byte{2, 0, 0}, 2, 0, []string{"", ""}, 3)
	isList(t, []byte{2, 0, 0}, 2, -5, []string{"", ""}, 3)
	noList(t, b, 2, 2)
	noList(t, b, 0, 2)
	noList(t, b, -1, 2)
	noList(t, b, math.MinInt, 2)
	noList(t, b, 3, 1)
	noList(t, b, 3, 0)
	noList(t, b, 3, -1)
}

func TestGetListWrong(t *testing.T) {
	noList(t, nil, 5, 5)
	noList(t, []byte{}, 5, 5)
	noList(t, []byte{1}, 5, 5)
	noList(t, []byte{2, 1, 97}, 5, 5)
	noList(t, []byte{1, 2, 97}, 5, 5)
	noList(t, []byte{1, 248, 1, 97}, 5, 5)
	noList(t, []byte{248, 1, 1, 97}, 5, 5)
	noList(t, []byte{1, 1, 97}[:2], 5, 5)
	noList(t, pack.Num(nil, math.MaxUint64), math.MaxInt, math.MaxInt)
	noList(t, pack.Num(nil, math.MaxInt64), math.MaxInt, math.MaxInt)
	noList(t, append(pack.Num(nil, math.MaxInt64), make([]byte, 100)...), math.MaxInt, math.MaxInt)
}
