package pack_test

import (
	"bytes"
	"math"
	"slices"
	"strings"
	"testing"

	"indenture/pack"
)

// tails: what may stand behind a value.
func tails() [][]byte {
	return [][]byte{nil, {0}, {1}, {97, 98}, {248}, {255, 255, 255, 255, 255, 255, 255, 255, 255}}
}

// edgeStrs: unlike texts, some that look like what pack puts ahead of one.
func edgeStrs() []string {
	return []string{"", "\x00", "\x01", "a", "ab", "b", "\x00a", "\x01a", "\xf8\xf8", "\xff",
		strings.Repeat("x", 247), strings.Repeat("x", 248), strings.Repeat("x", 256), strings.Repeat("x", 70000)}
}

// edgeLists: unlike lists, some of which have the same bytes if they are laid side by side.
func edgeLists() [][]string {
	l := [][]string{nil, {""}, {"", ""}, {"ab"}, {"a", "b"}, {"", "ab"}, {"ab", ""}, {"b", "a"}, {"\x01a"}, {"\x00"}, {"\x01\x00"}, {"a", "\x01b"}}
	l = append(l, make([]string, 247), make([]string, 248), slices.Repeat([]string{"x"}, 300))
	return append(l, edgeStrs())
}

// comesBack holds what a get call told of whole (a value's bytes, with or without more behind) against the value, and of each beginning of it that there is none.
func comesBack[T any](t *testing.T, want T, put []byte, get func([]byte) (T, int, bool), same func(a, b T) bool) {
	t.Helper()
	var zero T
	for _, tail := range tails() {
		got, size, ok := get(slices.Concat(put, tail))
		if !same(got, want) || size != len(put) || !ok {
			t.Fatalf("%.40v with %v behind: %.40v %d %v, want %d bytes", want, tail, got, size, ok, len(put))
		}
	}
	for end := range put {
		if end > 400 && end < len(put)-400 {
			continue
		}
		if got, size, ok := get(put[:end]); !same(got, zero) || size != 0 || ok {
			t.Fatalf("%.40v cut off at %d: %.40v %d %v", want, end, got, size, ok)
		}
	}
}

func getStr(b []byte) (string, int, bool) { return pack.GetStr(b, math.MaxInt) }

func getList(b []byte) ([]string, int, bool) { return pack.GetList(b, math.MaxInt, math.MaxInt) }

func equal[T comparable](a, b T) bool { return a == b }

// P1.3

func TestWhatWasPutIsGot(t *testing.T) {
	for _, n := range edgeNums() {
		comesBack(t, n, pack.Num(nil, n), pack.GetNum, equal[uint64])
	}
	for _, s := range edgeStrs() {
		comesBack(t, s, pack.Str(nil, s), getStr, equal[string])
	}
	for _, f := range []bool{false, true} {
		comesBack(t, f, pack.Flag(nil, f), pack.GetFlag, equal[bool])
	}
	for _, l := range edgeLists() {
		comesBack(t, l, pack.List(nil, l), getList, slices.Equal[[]string])
	}
}

func TestUnlikeValuesHaveUnlikeBytes(t *testing.T) {
	unlike := func(what string, all [][]byte) {
		seen := map[string]int{}
		for i, b := range all {
			if j, ok := seen[string(b)]; ok {
				t.Errorf("%s: values %d and %d have the same bytes", what, j, i)
			}
			seen[string(b)] = i
		}
	}
	var nums, strs, lists [][]byte
	for _, n := range edgeNums() {
		nums = append(nums, pack.Num(nil, n))
	}
	for _, s := range edgeStrs() {
		strs = append(strs, pack.Str(nil, s))
	}
	for _, l := range edgeLists() {
		lists = append(lists, pack.List(nil, l))
	}
	unlike("Num", nums)
	unlike("Str", strs)
	unlike("List", lists)
	unlike("Flag", [][]byte{pack.Flag(nil, true), pack.Flag(nil, false)})
	isBytes(t, "List of nil and of none", pack.List(nil, nil), pack.List(nil, []string{}))
}

// oneWay: whatever is got from b is put as the very bytes that it was got from.
func oneWay(t *testing.T, b []byte) {
	t.Helper()
	if n, size, ok := pack.GetNum(b); ok && !bytes.Equal(pack.Num(nil, n), b[:size]) {
		t.Fatalf("GetNum(%v): %d, of other bytes", b, n)
	}
	if s, size, ok := getStr(b); ok && !bytes.Equal(pack.Str(nil, s), b[:size]) {
		t.Fatalf("GetStr(%v): %q, of other bytes", b, s)
	}
	if f, size, ok := pack.GetFlag(b); ok && !bytes.Equal(pack.Flag(nil, f), b[:size]) {
		t.Fatalf("GetFlag(%v): %v, of other bytes", b, f)
	}
	if l, size, ok := getList(b); ok && !bytes.Equal(pack.List(nil, l), b[:size]) {
		t.Fatalf("GetList(%v): %q, of other bytes", b, l)
	}
}

func TestBytesHaveOneValue(t *testing.T) {
	oneWay(t, nil)
	for x := range 256 {
		oneWay(t, []byte{byte(x)})
		for y := range 256 {
			oneWay(t, []byte{byte(x), byte(y)})
			oneWay(t, []byte{byte(x), byte(y), 0, 1, 0, 255, 2, 0, 0, 0, 0})
			oneWay(t, []byte{1, byte(x), byte(y), 0, 1})
			oneWay(t, []byte{2, 0, byte(x), byte(y), 255, 255, 255, 255, 255, 255, 255})
		}
	}
}

// FuzzGet goes over its seeds in an ordinary run, and on from them by go test -fuzz.
func FuzzGet(f *testing.F) {
	for _, b := range tails() {
		f.Add(b, 3, 3)
	}
	f.Add(pack.List(nil, []string{"a", "bc"}), 2, 2)
	f.Add([]byte{255, 0, 0, 0, 0, 0, 0, 0, 1}, math.MaxInt, math.MinInt)
	f.Fuzz(func(t *testing.T, b []byte, count, most int) {
		oneWay(t, b)
		if s, _, ok := pack.GetStr(b, most); ok && len(s) > max(most, 0) {
			t.Fatalf("GetStr(%v, %d): %q", b, most, s)
		}
		l, _, ok := pack.GetList(b, count, most)
		if !ok && len(l) > 0 || len(l) > max(count, 0) {
			t.Fatalf("GetList(%v, %d, %d): %q", b, count, most, l)
		}
		for _, s := range l {
			if len(s) > max(most, 0) {
				t.Fatalf("GetList(%v, %d, %d): %q", b, count, most, l)
			}
		}
	})
}
