package sum_test

import (
	"bytes"
	"slices"
	"testing"

	"indenture/api"
	"indenture/internal/noise"
	"indenture/pack"
	"indenture/sum"
)

// isFrame holds what Open tells of b against one frame of size bytes.
func isFrame(t *testing.T, what string, b, want []byte, size int) {
	t.Helper()
	got, n, ok := sum.Open(b)
	if !bytes.Equal(got, want) || n != size || !ok {
		t.Errorf("%s: %.20x %d %v, want %.20x %d true", what, got, n, ok, want, size)
	}
}

func noFrame(t *testing.T, what string, b []byte) {
	t.Helper()
	if got, n, ok := sum.Open(b); len(got) != 0 || n != 0 || ok {
		t.Errorf("%s: %.20x %d %v, want none", what, got, n, ok)
	}
}

// sealed: b with its sum behind, whatever b is.
func sealed(b []byte) []byte {
	s := plain(b)
	return append(bytes.Clone(b), byte(s>>24), byte(s>>16), byte(s>>8), byte(s))
}

// framed: what a frame of b is by the chapter's words, of any length.
func framed(b []byte) []byte {
	return sealed(append(pack.Num(nil, uint64(len(b))), b...))
}

// contents: what may be framed, where the count's bytes change, and at the limit.
func contents() [][]byte {
	l := samples()
	for _, n := range []int{247, 248, 249, 255, 256, 257, api.MaxRecord - 1, api.MaxRecord} {
		l = append(l, noise.Bytes(uint32(n), n))
	}
	return append(l, sum.Frame([]byte("a frame in a frame")))
}

// P2.2

func TestFrameNamed(t *testing.T) {
	for _, b := range [][]byte{nil, {}} {
		if got := sum.Frame(b); !bytes.Equal(got, []byte{0, 0x52, 0x7d, 0x53, 0x51}) {
			t.Errorf("Frame of nothing: %x", got)
		}
	}
	for _, b := range contents() {
		if got := sum.Frame(b); !bytes.Equal(got, framed(b)) {
			t.Errorf("Frame of %d bytes: %.20x, want %.20x", len(b), got, framed(b))
		}
	}
}

func TestFrameTooLong(t *testing.T) {
	for _, n := range []int{api.MaxRecord + 1, api.MaxRecord + 2, 1 << 16, 1 << 20} {
		if got := sum.Frame(make([]byte, n)); len(got) != 0 {
			t.Errorf("Frame of %d bytes has %d", n, len(got))
		}
	}
	noFrame(t, "a frame of MaxRecord + 1", framed(make([]byte, api.MaxRecord+1)))
	isFrame(t, "a frame of MaxRecord", framed(make([]byte, api.MaxRecord)), make([]byte, api.MaxRecord), api.MaxRecord+7)
}

func TestOpenOfNone(t *testing.T) {
	noFrame(t, "nil", nil)
	noFrame(t, "no bytes", []byte{})
	noFrame(t, "noughts", make([]byte, 32))
	for x := range 256 {
		noFrame(t, "a byte", []byte{byte(x)})
	}
	noFrame(t, "the least first", []byte{0, 0x51, 0x53, 0x7d, 0x52})
	noFrame(t, "the sum of what is framed alone", []byte{1, 97, 0xc1, 0xd0, 0x43, 0x30})
	noFrame(t, "a number of more bytes than Num's", sealed([]byte{248, 1, 97}))
	noFrame(t, "a number with a nought ahead", sealed(append([]byte{249, 0, 250}, make([]byte, 250)...)))
	for _, n := range []uint64{1 << 31, 1<<63 - 1, 1 << 63, 1<<64 - 1, 1<<64 - 4, 1<<64 - 9} {
		noFrame(t, "a great number", sealed(pack.Num(nil, n)))
		noFrame(t, "a great number, and bytes", sealed(append(pack.Num(nil, n), 1, 2, 3)))
	}
}

func TestOpenTooShort(t *testing.T) {
	for _, b := range contents() {
		f := sum.Frame(b)
		for end := range f {
			// What stands in the list's room does not count, whether there is room or none.
			noFrame(t, "a frame cut off", f[:end])
			noFrame(t, "a frame cut off, with no room behind", f[:end:end])
		}
	}
}

// P2.3

func TestFramedIsOpened(t *testing.T) {
	for _, b := range contents() {
		f := sum.Frame(b)
		for _, tail := range [][]byte{nil, {0}, {255}, f, make([]byte, 40), noise.Bytes(9, 9000)} {
			isFrame(t, "with bytes behind", slices.Concat(f, tail), b, len(f))
		}
	}
}

func TestTurnedBit(t *testing.T) {
	for _, b := range contents() {
		f := sum.Frame(b)
		for _, tail := range [][]byte{nil, bytes.Repeat([]byte{255}, 20), noise.Bytes(8, 300)} {
			turned := slices.Concat(f, tail)
			for bit := range 8 * len(f) {
				if bit > 2000 && bit < 8*len(f)-200 && bit%97 > 0 { // a long frame's middle is gone over in great steps, for time's sake
					continue
				}
				turned[bit/8] ^= 1 << (bit % 8)
				if got, n, ok := sum.Open(turned); n == len(f) || !ok && (n != 0 || len(got) != 0) {
					t.Fatalf("%d bytes, bit %d turned: %.20x %d %v", len(b), bit, got, n, ok)
				}
				turned[bit/8] ^= 1 << (bit % 8)
			}
		}
	}
}

// R3

func TestNewMemory(t *testing.T) {
	room := bytes.Repeat([]byte{77}, 64)
	b := room[:3]
	first, second := sum.Frame(b), sum.Frame(b)
	want := bytes.Clone(first)
	if !bytes.Equal(room, bytes.Repeat([]byte{77}, 64)) {
		t.Errorf("Frame changed its bytes: %v", room)
	}
	clear(first[:cap(first)])
	clear(room)
	if !bytes.Equal(second, want) {
		t.Errorf("Frame behind changed bytes: %v, want %v", second, want)
	}
	in := append(bytes.Clone(second), 5, 6, 7, 8)
	was := bytes.Clone(in)
	got, _, _ := sum.Open(in)
	again, _, _ := sum.Open(in)
	clear(got[:cap(got)])
	if !bytes.Equal(in, was) {
		t.Errorf("what was opened has changed: %v, want %v", in, was)
	}
	clear(in)
	if !bytes.Equal(again, []byte{77, 77, 77}) {
		t.Errorf("Open behind changed bytes: %v", again)
	}
	sum.Of(was)
	sum.Add(1, was)
	isFrame(t, "behind Of and Add", was, []byte{77, 77, 77}, len(was)-4)
}

// FuzzOpen goes over its seeds in an ordinary run, and on from them by go test -fuzz: what is opened is the frame of what it says, and what is framed is opened.
func FuzzOpen(f *testing.F) {
	for _, b := range contents() {
		f.Add(b)
		f.Add(sum.Frame(b))
		f.Add(append(sum.Frame(b), 1, 2, 3))
	}
	f.Fuzz(func(t *testing.T, b []byte) {
		got, n, ok := sum.Open(b)
		if !ok {
			noFrame(t, "no frame", b)
		} else if !bytes.Equal(sum.Frame(got), b[:n]) {
			t.Fatalf("opened %v: %v, of %d bytes", b, got, n)
		}
		if len(b) <= api.MaxRecord {
			isFrame(t, "framed", append(sum.Frame(b), b...), b, len(sum.Frame(b)))
		}
	})
}
