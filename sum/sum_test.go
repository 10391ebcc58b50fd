package sum_test

import (
	"bytes"
	"hash/crc32"
	"math"
	"strconv"
	"testing"

	"indenture/internal/noise"
	"indenture/sum"
)

// powers: those of x in the divisor, as the chapter names them.
func powers() []int {
	return []int{32, 28, 27, 26, 25, 23, 22, 20, 19, 18, 14, 13, 11, 10, 9, 8, 6, 0}
}

// plain is the sum by the chapter's words alone: a long division of bits, the first 32 of them turned; what is left is turned too, its first bit the lowest.
func plain(b []byte) uint32 {
	bits := make([]bool, 0, 8*len(b)+32)
	for _, x := range b {
		for i := range 8 {
			bits = append(bits, x>>i&1 == 1)
		}
	}
	bits = append(bits, make([]bool, 32)...)
	for i := range 32 {
		bits[i] = !bits[i]
	}
	for at := range 8 * len(b) {
		if !bits[at] {
			continue
		}
		for _, p := range powers() {
			bits[at+32-p] = !bits[at+32-p]
		}
	}
	var s uint32
	for i, bit := range bits[8*len(b):] {
		if !bit {
			s |= 1 << i
		}
	}
	return s
}

// samples: bytes at the edges, of one bit each, and of many lengths.
func samples() [][]byte {
	l := [][]byte{nil, {}, {0}, {255}, make([]byte, 32), bytes.Repeat([]byte{255}, 32), []byte("123456789")}
	for i := range 16 {
		b := []byte{0, 0}
		b[i/8] = 1 << (i % 8)
		l = append(l, b)
	}
	for n := range 40 {
		l = append(l, noise.Bytes(uint32(n), n))
	}
	return append(l, noise.Bytes(1, 1000), noise.Bytes(2, 8192))
}

// edgeSums: sums that bytes may have, if enough stand behind.
func edgeSums() []uint32 {
	return []uint32{0, 1, 2, 1 << 31, 1<<31 - 1, math.MaxUint32, 0xe3069283, 0x82f63b78, 0x12345678}
}

func isSum(t *testing.T, what string, got, want uint32) {
	t.Helper()
	if got != want {
		t.Errorf("%s: %08x, want %08x", what, got, want)
	}
}

// P2.1

func TestOfNamed(t *testing.T) {
	isSum(t, "nothing", sum.Of(nil), 0)
	isSum(t, "an empty list", sum.Of([]byte{}), 0)
	isSum(t, "123456789", sum.Of([]byte("123456789")), 0xe3069283)
	// Those of RFC 3720, B.4.
	isSum(t, "32 noughts", sum.Of(make([]byte, 32)), 0x8a9136aa)
	isSum(t, "32 times 255", sum.Of(bytes.Repeat([]byte{255}, 32)), 0x62a8ab43)
	up := make([]byte, 32)
	for i := range up {
		up[i] = byte(i)
	}
	isSum(t, "0 to 31", sum.Of(up), 0x46dd794e)
}

func TestOfIsTheRemainder(t *testing.T) {
	for i, b := range samples() {
		isSum(t, "sample "+strconv.Itoa(i), sum.Of(b), plain(b))
	}
	for x := range 256 {
		b := []byte{byte(x)}
		isSum(t, "a byte", sum.Of(b), plain(b))
	}
}

func TestOfLong(t *testing.T) {
	b := noise.Bytes(3, 1<<20)
	isSum(t, "a mebibyte", sum.Of(b), crc32.Checksum(b, crc32.MakeTable(crc32.Castagnoli)))
}

func TestAddGoesOn(t *testing.T) {
	whole := noise.Bytes(4, 300)
	for at := range len(whole) + 1 {
		isSum(t, "Add", sum.Add(sum.Of(whole[:at]), whole[at:]), plain(whole))
	}
	for _, s := range edgeSums() {
		isSum(t, "Add of nil", sum.Add(s, nil), s)
		isSum(t, "Add of an empty list", sum.Add(s, []byte{}), s)
		want := crc32.Update(s, crc32.MakeTable(crc32.Castagnoli), whole)
		isSum(t, "Add to any sum", sum.Add(s, whole), want)
	}
}

func TestJoinLaysSideBySide(t *testing.T) {
	for _, a := range samples() {
		for _, b := range samples() {
			whole := sum.Of(append(bytes.Clone(a), b...))
			isSum(t, "Join", sum.Join(sum.Of(a), sum.Of(b), len(b)), whole)
		}
	}
	long := noise.Bytes(5, 1<<20+3)
	for _, n := range []int{0, 1, 255, 256, 257, 65535, 65536, 1 << 20, len(long)} {
		at := len(long) - n
		isSum(t, "Join long", sum.Join(sum.Of(long[:at]), sum.Of(long[at:]), n), sum.Of(long))
	}
}

func TestJoinOfNothing(t *testing.T) {
	for _, a := range edgeSums() {
		for _, n := range []int{0, -1, -2, -8, -1 << 31, math.MinInt} {
			isSum(t, "nothing behind", sum.Join(a, 0, n), a)
			for _, b := range edgeSums() {
				isSum(t, "n below 0", sum.Join(a, b, n), sum.Join(a, b, 0))
			}
		}
		isSum(t, "nothing ahead", sum.Join(0, a, 5), a)
	}
}

// Counts past what memory holds: a sum of parts is the same however they are put together.
func TestJoinFar(t *testing.T) {
	var doubled [62]uint32 // of 1, 2, 4, .. noughts
	doubled[0] = sum.Of([]byte{0})
	for i := 1; i < len(doubled); i++ {
		doubled[i] = sum.Join(doubled[i-1], doubled[i-1], 1<<(i-1))
		if n := 1 << i; n <= 1<<20 {
			isSum(t, "doubled noughts", doubled[i], sum.Of(make([]byte, n)))
		}
	}
	a := sum.Of([]byte("ahead"))
	all, byOne := doubled[0], sum.Join(a, doubled[0], 1)
	for i := 1; i < len(doubled); i++ {
		all = sum.Join(all, doubled[i], 1<<i)
		byOne = sum.Join(byOne, doubled[i], 1<<i)
	}
	isSum(t, "2^62 - 1 noughts behind", sum.Join(a, all, 1<<62-1), byOne)
	rest := sum.Join(all, doubled[61], 1<<61)
	rest = sum.Join(rest, doubled[61], 1<<61)
	isSum(t, "2^63 - 1 noughts behind", sum.Join(a, rest, math.MaxInt), sum.Join(sum.Join(byOne, doubled[61], 1<<61), doubled[61], 1<<61))
}
