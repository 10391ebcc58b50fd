package receipt_test

import (
	"bytes"
	"fmt"
	"math"
	"slices"
	"testing"

	"indenture/api"
	"indenture/receipt"
)

// P17.2

// Bytes that are written out, so that nothing hangs on the model alone.
func TestBytes(t *testing.T) {
	h := func(x byte) Hash { return Hash(bytes.Repeat([]byte{x}, 32)) }
	for what, x := range map[string]struct {
		receipt Receipt
		want    [][]byte
	}{
		"the chapter's": {
			Receipt{Record: Record{Session: 1, Writes: []Pair{put("a", "1")}}, Digest: Digest{Size: 1, Log: h(7), Map: h(9)}},
			[][]byte{{10, 1, 0, 0, 0, 1, 1, 97, 0, 1, 49}, {0, 1}, bytes.Repeat([]byte{7}, 32), bytes.Repeat([]byte{9}, 32), {0}},
		},
		"with hashes": {
			Receipt{At: 246, Record: Record{Session: 8, Snap: 246}, Path: []Hash{h(1), h(3), h(2)}, Digest: Digest{Size: 247, Log: h(255)}},
			[][]byte{{5, 8, 246, 0, 0, 0}, {246, 247}, bytes.Repeat([]byte{255}, 32), make([]byte, 32), {3}, bytes.Repeat([]byte{1}, 32), bytes.Repeat([]byte{3}, 32), bytes.Repeat([]byte{2}, 32)},
		},
		"of longer numbers": {
			Receipt{At: 247, Record: Record{Session: 2}, Digest: Digest{Size: 248}},
			[][]byte{{5, 2, 0, 0, 0, 0}, {247, 248, 248}, make([]byte, 64), {0}},
		},
		"of numbers still longer": {
			Receipt{At: 255, Record: Record{Session: 2}, Digest: Digest{Size: 256}},
			[][]byte{{5, 2, 0, 0, 0, 0}, {248, 255, 249, 1, 0}, make([]byte, 64), {0}},
		},
		"of the greatest numbers": {
			Receipt{At: greatestAt, Record: Record{Session: 2}, Digest: Digest{Size: greatestAt + 1}},
			[][]byte{{5, 2, 0, 0, 0, 0}, {253, 1, 0, 0, 0, 0, 0, 253, 1, 0, 0, 0, 0, 1}, make([]byte, 64), {0}},
		},
		"of as many hashes as may be": {
			Receipt{Record: Record{Session: 2}, Path: slices.Repeat([]Hash{h(5)}, 64), Digest: Digest{Size: 1}},
			[][]byte{{5, 2, 0, 0, 0, 0}, {0, 1}, make([]byte, 64), {64}, bytes.Repeat([]byte{5}, 64*32)},
		},
		"of a hash whose bytes differ": {
			Receipt{At: 1, Record: Record{Session: 2}, Path: []Hash{{1, 2, 3, 31: 4}}, Digest: Digest{Size: 2, Log: Hash{5, 31: 6}, Map: Hash{7, 31: 8}}},
			[][]byte{{5, 2, 0, 0, 0, 0}, {1, 2}, {5}, make([]byte, 30), {6, 7}, make([]byte, 30), {8, 1}, {1, 2, 3}, make([]byte, 28), {4}},
		},
	} {
		want := bytes.Join(x.want, nil)
		if got := receipt.Bytes(x.receipt); !bytes.Equal(got, want) {
			t.Errorf("%s: Bytes are %s, want %s", what, brief(got), brief(want))
		}
		reads(t, what, want, x.receipt, api.OK)
		is(t, what, x.receipt, model{}.kind(x.receipt))
	}
}

// What is Good may be put, accepted or not.
func TestBytesOfWhatIsRefused(t *testing.T) {
	l := ledgerOf(9)
	r := l.receipt(8)
	r.Digest.Log[0]++
	if len(receipt.Bytes(r)) == 0 {
		t.Error("no Bytes of a receipt that is Good")
	}
	is(t, "another Log", r, good)
}

func TestBytesOfMaxRecord(t *testing.T) {
	for n := api.MaxRecord - 2; n <= api.MaxRecord+2; n++ {
		r := Receipt{Record: sized(t, n), Path: hashes(1, mostHashes), Digest: Digest{Size: 1}}
		want := good
		if n > api.MaxRecord {
			want = bad
		}
		is(t, fmt.Sprint("a record of ", n), r, want)
	}
}

// around tells bytes of a Good receipt whose pieces are replaced.
func around(record, at, size, log, digest, count, path []byte) []byte {
	return slices.Concat(record, at, size, log, digest, count, path)
}

// What is read of bytes that no Good receipt has, one place after the other.
func TestReadOfWrongBytes(t *testing.T) {
	own, h := []byte{5, 1, 0, 0, 0, 0}, bytes.Repeat([]byte{3}, 32)
	at, size := []byte{2}, []byte{3}
	right := around(own, at, size, h, h, []byte{2}, slices.Concat(h, h))
	reads(t, "right ones", right, Receipt{At: 2, Record: Record{Session: 1}, Path: []Hash{Hash(h), Hash(h)}, Digest: Digest{Size: 3, Log: Hash(h), Map: Hash(h)}}, api.OK)
	for what, b := range map[string][]byte{
		"nothing":                       nil,
		"a record alone":                own,
		"a record without its length":   right[1:],
		"no record":                     around(nil, at, size, h, h, []byte{0}, nil),
		"an empty record":               around([]byte{0}, at, size, h, h, []byte{0}, nil),
		"a longer length of the record": around([]byte{248, 5, 1, 0, 0, 0, 0}, at, size, h, h, []byte{0}, nil),
		"a record that ends early":      around([]byte{4, 1, 0, 0, 0}, at, size, h, h, []byte{0}, nil),
		"bytes behind the record":       around([]byte{6, 1, 0, 0, 0, 0, 0}, at, size, h, h, []byte{0}, nil),
		"a record of session 0":         around([]byte{5, 0, 0, 0, 0, 0}, at, size, h, h, []byte{0}, nil),
		"a record of session 9":         around([]byte{5, 9, 0, 0, 0, 0}, at, size, h, h, []byte{0}, nil),
		"a record with a flag of 2":     around([]byte{5, 1, 0, 2, 0, 0}, at, size, h, h, []byte{0}, nil),
		"a record's own longer number":  around([]byte{6, 1, 248, 2, 0, 0, 0}, at, size, h, h, []byte{0}, nil),
		"a record of a later snapshot":  around([]byte{5, 1, 3, 0, 0, 0}, at, size, h, h, []byte{0}, nil),
		"a record of 2^64 - 1":          around([]byte{255, 255, 255, 255, 255, 255, 255, 255, 255, 1, 0, 0, 0, 0}, at, size, h, h, []byte{0}, nil),
		"a record of 2^63 + 5":          around([]byte{255, 128, 0, 0, 0, 0, 0, 0, 5, 1, 0, 0, 0, 0}, at, size, h, h, []byte{0}, nil),
		"a record of 2^32 + 5":          around([]byte{252, 1, 0, 0, 0, 5, 1, 0, 0, 0, 0}, at, size, h, h, []byte{0}, nil),

		"a longer place":           around(own, []byte{248, 2}, size, h, h, []byte{0}, nil),
		"a place still longer":     around(own, []byte{249, 0, 2}, size, h, h, []byte{0}, nil),
		"a place 2^40 + 1":         around(own, []byte{253, 1, 0, 0, 0, 0, 1}, []byte{253, 1, 0, 0, 0, 0, 2}, h, h, []byte{0}, nil),
		"a place 2^63":             around(own, []byte{255, 128, 0, 0, 0, 0, 0, 0, 0}, []byte{255, 128, 0, 0, 0, 0, 0, 0, 1}, h, h, []byte{0}, nil),
		"a place 2^64 - 1":         around(own, []byte{255, 255, 255, 255, 255, 255, 255, 255, 255}, []byte{0}, h, h, []byte{0}, nil),
		"a place 2^32 + 2":         around(own, []byte{252, 1, 0, 0, 0, 2}, size, h, h, []byte{0}, nil),
		"no place":                 around(own, nil, size, h, h, []byte{0}, nil),
		"a longer size":            around(own, at, []byte{248, 3}, h, h, []byte{0}, nil),
		"the place as size":        around(own, at, at, h, h, []byte{0}, nil),
		"a size 1 too great":       around(own, at, []byte{4}, h, h, []byte{0}, nil),
		"a size 0":                 around(own, []byte{0}, []byte{0}, h, h, []byte{0}, nil),
		"a size 2^64 - 1":          around(own, at, []byte{255, 255, 255, 255, 255, 255, 255, 255, 255}, h, h, []byte{0}, nil),
		"a size 2^40 + 2":          around(own, []byte{253, 1, 0, 0, 0, 0, 0}, []byte{253, 1, 0, 0, 0, 0, 2}, h, h, []byte{0}, nil),
		"no size":                  around(own, at, nil, h, h, []byte{0}, nil),
		"no roots":                 around(own, at, size, nil, nil, []byte{0}, nil),
		"one root":                 around(own, at, size, h, nil, []byte{0}, nil),
		"a root too short":         around(own, at, size, h, h[:31], []byte{0}, nil),
		"a root too long":          around(own, at, size, h, append(slices.Clone(h), 3), []byte{0}, nil),
		"three roots":              around(own, at, size, h, slices.Concat(h, h), []byte{0}, nil),
		"no count":                 around(own, at, size, h, h, nil, nil),
		"a longer count":           around(own, at, size, h, h, []byte{248, 0}, nil),
		"a longer count of one":    around(own, at, size, h, h, []byte{248, 1}, h),
		"a count of 2^64 - 1":      around(own, at, size, h, h, []byte{255, 255, 255, 255, 255, 255, 255, 255, 255}, h),
		"a count of 2^63":          around(own, at, size, h, h, []byte{255, 128, 0, 0, 0, 0, 0, 0, 0}, nil),
		"a count of 2^32 + 1":      around(own, at, size, h, h, []byte{252, 1, 0, 0, 0, 1}, h),
		"one hash, and none":       around(own, at, size, h, h, []byte{1}, nil),
		"one hash too short":       around(own, at, size, h, h, []byte{1}, h[:31]),
		"two hashes, and one":      around(own, at, size, h, h, []byte{2}, h),
		"two hashes, one short":    around(own, at, size, h, h, []byte{2}, slices.Concat(h, h[:31])),
		"no hashes, and one":       around(own, at, size, h, h, []byte{0}, h),
		"one hash, and two":        around(own, at, size, h, h, []byte{1}, slices.Concat(h, h)),
		"a byte behind":            append(slices.Clone(right), 0),
		"a receipt behind":         slices.Concat(right, right),
		"a byte ahead":             append([]byte{0}, right...),
		"many bytes behind":        append(slices.Clone(right), make([]byte, 1<<20)...),
		"many noughts":             make([]byte, 1<<20),
		"many bytes of the record": append([]byte{250, 1, 0, 0}, make([]byte, 1<<17)...),
	} {
		reads(t, what, b, Receipt{}, api.ErrBad)
		isRead(t, what, b)
	}
}

// How many hashes, in bytes alone.
func TestReadOfManyHashes(t *testing.T) {
	for n := 60; n <= 70; n++ {
		r := Receipt{At: 7, Record: Record{Session: 1}, Path: hashes(4, n), Digest: Digest{Size: 8}}
		if n <= mostHashes {
			reads(t, fmt.Sprint(n, " hashes"), model{}.bytes(r), r, api.OK)
		} else {
			reads(t, fmt.Sprint(n, " hashes"), model{}.bytes(r), Receipt{}, api.ErrBad)
		}
		short := model{}.bytes(r)
		reads(t, fmt.Sprint(n, " hashes, a byte less"), short[:len(short)-1], Receipt{}, api.ErrBad)
	}
}

// samples are Good receipts.
func samples() []Receipt {
	l := ledgerOf(14)
	return []Receipt{
		{Record: Record{Session: 1}, Digest: Digest{Size: 1}},
		l.receipt(0),
		l.receipt(3),
		l.receipt(13),
		{At: 248, Record: Record{Session: 8, Snap: 248, Strict: true}, Path: hashes(3, 2), Digest: Digest{Size: 249}},
		{At: greatestAt, Record: Record{Session: 3, Snap: 300, Writes: []Pair{drop("a"), put("b", "")}}, Path: hashes(2, 1), Digest: Digest{Size: greatestAt + 1, Log: Hash{5}, Map: Hash{31: 6}}},
	}
}

// Each byte that is another one, one more anywhere, one less, and each end.
func TestReadOfChangedBytes(t *testing.T) {
	answered := map[api.Errno]int{}
	for i, r := range samples() {
		b := receipt.Bytes(r)
		reads(t, "a sample", b, r, api.OK)
		for at := range len(b) + 1 {
			what := fmt.Sprint("sample ", i, ", byte ", at)
			if e := isRead(t, what+", cut off", b[:at]); (e == api.OK) != (at == len(b)) {
				t.Errorf("%s, cut off: %v", what, e)
			}
			for _, x := range []byte{0, 1, 2, 3, 31, 32, 33, 64, 65, 97, 127, 128, 247, 248, 249, 253, 255} {
				answered[isRead(t, what+", one more", slices.Insert(slices.Clone(b), at, x))]++
				if at < len(b) {
					changed := slices.Clone(b)
					changed[at] = x
					answered[isRead(t, what+", changed", changed)]++
				}
			}
			if at < len(b) {
				for bit := range 8 {
					changed := slices.Clone(b)
					changed[at] ^= 1 << bit
					answered[isRead(t, what+", a bit changed", changed)]++
				}
				answered[isRead(t, what+", one less", slices.Delete(slices.Clone(b), at, at+1))]++
			}
			endIfFailed(t)
		}
	}
	if answered[api.OK] < 1000 || answered[api.ErrBad] < 1000 {
		t.Errorf("%v: these bytes are too few", answered)
	}
}

// numbers are n, written as it is and in each longer way, and numbers beside it, and the greatest.
func numbers(n uint64) [][]byte {
	var l [][]byte
	for size := 1; size <= 8; size++ {
		b := []byte{byte(247 + size)}
		for i := size - 1; i >= 0; i-- {
			b = append(b, byte(n>>(8*i)))
		}
		l = append(l, b)
	}
	for _, x := range []uint64{0, 1, 2, n - 1, n, n + 1, 64, 65, 1 << 32, 1<<32 + n, 1 << 63, 1<<63 + n, math.MaxUint64} {
		l = append(l, model{}.num(x))
	}
	return l
}

// Each number of a receipt written otherwise.
func TestReadOfOtherNumbers(t *testing.T) {
	answered := map[api.Errno]int{}
	for i, r := range samples() {
		all := model{}.pieces(r)
		for at, p := range all {
			if !p.isNumber {
				continue
			}
			for _, by := range numbers(p.n) {
				var b []byte
				for j, q := range all {
					if j == at {
						q.bytes = by
					}
					b = append(b, q.bytes...)
				}
				answered[isRead(t, fmt.Sprint("sample ", i, ", piece ", at), b)]++
			}
		}
		endIfFailed(t)
	}
	if answered[api.OK] < 24 || answered[api.ErrBad] < 400 {
		t.Errorf("%v: these bytes are too few", answered)
	}
}

// Pieces that change places, or lack, or stand twice.
func TestReadOfOtherOrders(t *testing.T) {
	join := func(l []piece) []byte {
		var b []byte
		for _, p := range l {
			b = append(b, p.bytes...)
		}
		return b
	}
	for i, r := range samples() {
		all := model{}.pieces(r)
		for at := range all {
			for other := range at {
				l := slices.Clone(all)
				l[at], l[other] = l[other], l[at]
				isRead(t, fmt.Sprint("sample ", i, ", pieces ", at, " and ", other), join(l))
			}
			isRead(t, fmt.Sprint("sample ", i, ", without piece ", at), join(slices.Delete(slices.Clone(all), at, at+1)))
			isRead(t, fmt.Sprint("sample ", i, ", piece ", at, " twice"), join(slices.Insert(slices.Clone(all), at, all[at])))
		}
	}
}

// What lies in the room behind the bytes' end is not read.
func TestReadLooksAtNoRoom(t *testing.T) {
	for _, r := range samples() {
		b := receipt.Bytes(r)
		room := slices.Concat(b, b)
		reads(t, "bytes with more in their room", room[:len(b)], r, api.OK)
		for end := range b {
			reads(t, "bytes whose end is in their room", b[:end], Receipt{}, api.ErrBad)
			reads(t, "bytes without their end", slices.Clip(b[:end]), Receipt{}, api.ErrBad)
		}
	}
}
