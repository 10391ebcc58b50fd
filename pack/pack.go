// Package pack is layer 1: it puts values into bytes, one way alone, and gets them again. See shared/doc/01-pack.md.
package pack

import "bytes"

const (
	long   = 248 // the least number that does not stand in a byte of itself
	widest = 8   // bytes of the greatest number
)

// digits is a number as bytes, pushed to the array's end: the byte that counts them, if there is one, and they.
type digits [1 + widest]byte

// cut tells n's digits, and where in the array they begin.
func cut(n uint64) (digits, int) {
	var d digits
	if n < long {
		d[widest] = byte(n)
		return d, widest
	}
	at := len(d)
	for ; n > 0; n >>= 8 {
		at--
		d[at] = byte(n)
	}
	count := len(d) - at
	at--
	d[at] = byte(long - 1 + count)
	return d, at
}

// fresh copies b, with room for more bytes behind: b's own spare room is the caller's.
func fresh(b []byte, more int) []byte {
	out := make([]byte, len(b), len(b)+more)
	copy(out, b)
	return out
}

// addNum and addStr go on in memory that is this package's own already, so that a long list is not copied for each of its texts.
func addNum(own []byte, n uint64) []byte {
	d, at := cut(n)
	return append(own, d[at:]...)
}

func addStr(own []byte, s string) []byte {
	return append(addNum(own, uint64(len(s))), s...)
}

// limit is what may be at most, of a bound that a caller named.
func limit(most int) uint64 {
	return uint64(max(most, 0))
}

// Num puts n: below 248 a byte of itself, else a byte of 247 + how many bytes it has, and these, the greatest first.
func Num(b []byte, n uint64) []byte {
	return addNum(fresh(b, 1+widest), n)
}

// GetNum gets what Num put.
func GetNum(b []byte) (uint64, int, bool) {
	if len(b) == 0 {
		return 0, 0, false
	}
	if b[0] < long {
		return uint64(b[0]), 1, true
	}
	size := 1 + int(b[0]) - (long - 1)
	if len(b) < size {
		return 0, 0, false
	}
	var n uint64
	for _, x := range b[1:size] {
		n = n<<8 | uint64(x)
	}
	// Bytes that hold n in a longer way than Num's would give one value two shapes.
	if d, at := cut(n); !bytes.Equal(d[at:], b[:size]) {
		return 0, 0, false
	}
	return n, size, true
}

// Str puts how many bytes s has, and these.
func Str(b []byte, s string) []byte {
	return addStr(fresh(b, 1+widest+len(s)), s)
}

// GetStr gets what Str put, if it has at most most bytes.
func GetStr(b []byte, most int) (string, int, bool) {
	n, at, ok := GetNum(b)
	if !ok || n > limit(most) || n > uint64(len(b)-at) {
		return "", 0, false
	}
	end := at + int(n)
	return string(b[at:end]), end, true
}

// Flag puts a byte 1 or 0.
func Flag(b []byte, f bool) []byte {
	out := fresh(b, 1)
	if f {
		return append(out, 1)
	}
	return append(out, 0)
}

// GetFlag gets what Flag put.
func GetFlag(b []byte) (bool, int, bool) {
	if len(b) == 0 || b[0] > 1 {
		return false, 0, false
	}
	return b[0] == 1, 1, true
}

// List puts how many texts l has, and each of them.
func List(b []byte, l []string) []byte {
	out := addNum(fresh(b, 1+widest), uint64(len(l)))
	for _, s := range l {
		out = addStr(out, s)
	}
	return out
}

// GetList gets what List put, if it has at most count texts, and each of them at most most bytes.
func GetList(b []byte, count, most int) ([]string, int, bool) {
	n, at, ok := GetNum(b)
	if !ok || n > limit(count) {
		return nil, 0, false
	}
	next := func() (string, bool) {
		s, size, ok := GetStr(b[at:], most)
		at += size
		return s, ok
	}
	// What n says is not taken for room ahead of the texts: bytes that lack them may say any number.
	var l []string
	for range n {
		s, ok := next()
		if !ok {
			return nil, 0, false
		}
		l = append(l, s)
	}
	return l, at, true
}
