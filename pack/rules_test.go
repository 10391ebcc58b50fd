package pack_test

import (
	"bytes"
	"slices"
	"testing"

	"indenture/pack"
)

// puts: each call that puts, of a value of its own.
func puts() map[string]func([]byte) []byte {
	return map[string]func([]byte) []byte{
		"Num":        func(b []byte) []byte { return pack.Num(b, 5) },
		"Num long":   func(b []byte) []byte { return pack.Num(b, 1<<60) },
		"Str":        func(b []byte) []byte { return pack.Str(b, "ab") },
		"Str empty":  func(b []byte) []byte { return pack.Str(b, "") },
		"Flag":       func(b []byte) []byte { return pack.Flag(b, true) },
		"Flag false": func(b []byte) []byte { return pack.Flag(b, false) },
		"List":       func(b []byte) []byte { return pack.List(b, []string{"a", "bc"}) },
		"List empty": func(b []byte) []byte { return pack.List(b, nil) },
	}
}

// R3: neither b nor the room behind it is changed, and the answer shares no memory with it.
func TestPutsIntoNewMemory(t *testing.T) {
	for name, put := range puts() {
		more := put(nil)
		room := bytes.Repeat([]byte{77}, 64)
		b := room[:3]
		first, second := put(b), put(b)
		isBytes(t, name+": b and its room", room, bytes.Repeat([]byte{77}, 64))
		want := slices.Concat([]byte{77, 77, 77}, more)
		clear(room)
		isBytes(t, name+" behind a changed b", first, want)
		clear(first[:cap(first)])
		isBytes(t, name+" behind another changed answer", second, want)
		isBytes(t, name+": b behind a changed answer", room, make([]byte, 64))
		isBytes(t, name+" of an empty b", put([]byte{}), more)
	}
}

// R3: what a get call told stays as it was when the bytes are changed, which the call itself does not.
func TestGetsNewMemory(t *testing.T) {
	b := pack.List(pack.Str(nil, "abc"), []string{"de", "fg"})
	was := slices.Clone(b)
	s, at, _ := pack.GetStr(b, 10)
	l, size, ok := pack.GetList(b[at:], 10, 10)
	isBytes(t, "what was read", b, was)
	clear(b)
	if s != "abc" || !slices.Equal(l, []string{"de", "fg"}) || at+size != len(b) || !ok {
		t.Errorf("%q %q %d %d %v", s, l, at, size, ok)
	}
	in := []string{"x", "y"}
	pack.List(nil, in[:1])
	if !slices.Equal(in, []string{"x", "y"}) {
		t.Errorf("List changed its list: %q", in)
	}
}

// A list is put and got in time that grows as it does: one that copied all for each text would not end here.
func TestLongList(t *testing.T) {
	l := slices.Repeat([]string{"abcdefg"}, 1<<19)
	b := pack.List([]byte{1}, l)
	isList(t, b[1:], len(l), 7, l, len(b)-1)
	noList(t, b[1:len(b)-1], len(l), 7)
	noList(t, b[1:], len(l)-1, 7)
}
