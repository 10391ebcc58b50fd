package record_test

import (
	"bytes"
	"fmt"
	"math"
	"slices"
	"testing"

	"indenture/api"
	"indenture/record"
)

// isBytes holds a Good record against its bytes, both ways. These are written out, so that nothing hangs on the model alone.
func isBytes(t *testing.T, what string, r Record, want ...byte) {
	t.Helper()
	is(t, what, r, good)
	if got := record.Bytes(r); !bytes.Equal(got, want) {
		t.Errorf("%s: %s, want %s", what, brief(got), brief(want))
	}
	reads(t, what, want, r, api.OK)
	if got := record.Leaf(r); got != leaf(want) {
		t.Errorf("%s: Leaf is %x", what, got)
	}
}

// P16.2

func TestBytes(t *testing.T) {
	isBytes(t, "the chapter's", Record{Session: 1, Writes: []Pair{put("a", "1")}}, 1, 0, 0, 0, 1, 1, 97, 0, 1, 49)
	isBytes(t, "of nothing", Record{Session: 8}, 8, 0, 0, 0, 0)
	isBytes(t, "strict", Record{Session: 2, Snap: 5, Strict: true}, 2, 5, 1, 0, 0)
	isBytes(t, "a drop", writing(drop("a")), 1, 0, 0, 0, 1, 1, 97, 1)
	isBytes(t, "an empty value", writing(put("a", "")), 1, 0, 0, 0, 1, 1, 97, 0, 0)
	isBytes(t, "drops and puts", writing(drop("a"), put("bc", "x"), drop("d")), 1, 0, 0, 0, 3, 1, 97, 1, 2, 98, 99, 0, 1, 120, 1, 100, 1)
	isBytes(t, "a read of nothing", reading(one("a")), 1, 0, 0, 1, 0, 1, 97, 0, 0)
	isBytes(t, "a read", reading(one("a", put("a", "1"))), 1, 0, 0, 1, 0, 1, 97, 1, 1, 97, 1, 49, 0)
	isBytes(t, "a read of an empty value", reading(one("a", put("a", ""))), 1, 0, 0, 1, 0, 1, 97, 1, 1, 97, 0, 0)
	isBytes(t, "a scan of nothing", reading(scan("a", "c")), 1, 0, 0, 1, 1, 1, 97, 1, 99, 0, 0)
	isBytes(t, "a scan of no keys", reading(scan("", "")), 1, 0, 0, 1, 1, 0, 0, 0, 0)
	isBytes(t, "a scan", reading(scan("", "c", put("a", ""), put("b", "2"))), 1, 0, 0, 1, 1, 0, 1, 99, 2, 1, 97, 0, 1, 98, 1, 50, 0)
	isBytes(t, "all at once", Record{Session: 3, Snap: 256, Strict: true, Reads: []Read{one("b"), scan("a", "b", put("a", "1")), one("a", put("a", "1"))}, Writes: []Pair{put("a", "2"), drop("b")}},
		3, 249, 1, 0, 1,
		3, 0, 1, 98, 0, 1, 1, 97, 1, 98, 1, 1, 97, 1, 49, 0, 1, 97, 1, 1, 97, 1, 49,
		2, 1, 97, 0, 1, 50, 1, 98, 1)
}

func TestBytesOfLongNumbers(t *testing.T) {
	for snap, want := range map[int][]byte{
		247:              {247},
		248:              {248, 248},
		255:              {248, 255},
		256:              {249, 1, 0},
		65535:            {249, 255, 255},
		65536:            {250, 1, 0, 0},
		1<<32 - 1:        {251, 255, 255, 255, 255},
		1 << 32:          {252, 1, 0, 0, 0, 0},
		greatestSnap - 1: {252, 255, 255, 255, 255, 255},
		greatestSnap:     {253, 1, 0, 0, 0, 0, 0},
	} {
		isBytes(t, fmt.Sprint("snap ", snap), Record{Session: 1, Snap: snap}, slices.Concat([]byte{1}, want, []byte{0, 0, 0})...)
	}
	for n, want := range map[int][]byte{247: {247}, 248: {248, 248}, 255: {248, 255}, 256: {249, 1, 0}} {
		isBytes(t, fmt.Sprint("a value of ", n), writing(put("a", text(n))), slices.Concat([]byte{1, 0, 0, 0, 1, 1, 97, 0}, want, []byte(text(n)))...)
		isBytes(t, fmt.Sprint("a value read of ", n), reading(one("a", put("a", text(n)))), slices.Concat([]byte{1, 0, 0, 1, 0, 1, 97, 1, 1, 97}, want, []byte(text(n)), []byte{0})...)
	}
}

// What is read of bytes that no Good record has, one place after the other.
func TestReadOfWrongBytes(t *testing.T) {
	for what, b := range map[string][]byte{
		"nothing":                      nil,
		"session 0":                    {0, 0, 0, 0, 0},
		"session 9":                    {9, 0, 0, 0, 0},
		"session 247":                  {247, 0, 0, 0, 0},
		"session 2^8 + 1":              {249, 1, 1, 0, 0, 0, 0},
		"session 2^32 + 1":             {252, 1, 0, 0, 0, 1, 0, 0, 0, 0},
		"session 2^64 - 1":             {255, 255, 255, 255, 255, 255, 255, 255, 255, 0, 0, 0, 0},
		"a longer session":             {248, 1, 0, 0, 0, 0},
		"snap 2^40 + 1":                {1, 253, 1, 0, 0, 0, 0, 1, 0, 0, 0},
		"snap 2^63":                    {1, 255, 128, 0, 0, 0, 0, 0, 0, 0, 0, 0, 0},
		"snap 2^64 - 1":                {1, 255, 255, 255, 255, 255, 255, 255, 255, 255, 0, 0, 0},
		"a longer snap":                {1, 249, 0, 248, 0, 0, 0},
		"strict 2":                     {1, 0, 2, 0, 0},
		"strict 255":                   {1, 0, 255, 0, 0},
		"scan 2":                       {1, 0, 0, 1, 2, 1, 97, 0, 0},
		"dead 2":                       {1, 0, 0, 0, 1, 1, 97, 2},
		"one read, none there":         {1, 0, 0, 1, 0},
		"a longer count of reads":      {1, 0, 0, 248, 0, 0},
		"2^64 - 1 reads":               {1, 0, 0, 255, 255, 255, 255, 255, 255, 255, 255, 255, 0},
		"2^63 writes":                  {1, 0, 0, 0, 255, 128, 0, 0, 0, 0, 0, 0, 0},
		"one write, none there":        {1, 0, 0, 0, 1},
		"a longer count of writes":     {1, 0, 0, 0, 248, 0},
		"no count of writes":           {1, 0, 0, 0},
		"a byte behind":                {1, 0, 0, 0, 0, 0},
		"a record behind":              {1, 0, 0, 0, 0, 1, 0, 0, 0, 0},
		"a read without a key":         {1, 0, 0, 1, 0, 0, 0, 0},
		"a read with two pairs":        {1, 0, 0, 1, 0, 1, 97, 2, 1, 97, 0, 1, 98, 0, 0},
		"a read with a pair twice":     {1, 0, 0, 1, 0, 1, 97, 2, 1, 97, 0, 1, 97, 0, 0},
		"a read with another pair":     {1, 0, 0, 1, 0, 1, 97, 1, 1, 98, 0, 0},
		"a key that is read again":     {1, 0, 0, 2, 0, 1, 97, 0, 0, 1, 97, 0, 0},
		"a read with a To":             {1, 0, 0, 1, 0, 1, 97, 1, 98, 0, 0},
		"a scan without a To":          {1, 0, 0, 1, 1, 1, 97, 0, 0},
		"a pair ahead of the scan":     {1, 0, 0, 1, 1, 1, 98, 1, 100, 1, 1, 97, 0, 0},
		"a pair at the scan's end":     {1, 0, 0, 1, 1, 1, 98, 1, 100, 1, 1, 100, 0, 0},
		"a pair without a key":         {1, 0, 0, 1, 1, 0, 1, 100, 1, 0, 0, 0},
		"pairs that do not rise":       {1, 0, 0, 1, 1, 0, 1, 100, 2, 1, 98, 0, 1, 97, 0, 0},
		"pairs alike":                  {1, 0, 0, 1, 1, 0, 1, 100, 2, 1, 97, 0, 1, 97, 0, 0},
		"2^64 - 1 pairs":               {1, 0, 0, 1, 1, 0, 1, 100, 255, 255, 255, 255, 255, 255, 255, 255, 255, 1, 97, 0, 0},
		"a pair that is dead":          {1, 0, 0, 1, 0, 1, 97, 1, 1, 97, 1, 1, 49, 0},
		"a write without a key":        {1, 0, 0, 0, 1, 0, 0, 0},
		"writes that do not rise":      {1, 0, 0, 0, 2, 1, 98, 1, 1, 97, 1},
		"writes alike":                 {1, 0, 0, 0, 2, 1, 97, 1, 1, 97, 1},
		"a dead one with a value":      {1, 0, 0, 0, 1, 1, 97, 1, 1, 49},
		"a dead one of an empty value": {1, 0, 0, 0, 1, 1, 97, 1, 0},
		"a value of 2^64 - 1":          {1, 0, 0, 0, 1, 1, 97, 0, 255, 255, 255, 255, 255, 255, 255, 255, 255, 49},
		"a longer length of a value":   {1, 0, 0, 0, 1, 1, 97, 0, 248, 1, 49},
		"a longer length of a key":     {1, 0, 0, 0, 1, 248, 1, 97, 0, 1, 49},
	} {
		reads(t, what, b, Record{}, api.ErrBad)
		isRead(t, what, b)
	}
}

// Counts and lengths at their limits, in bytes alone: the record that they say is nowhere laid by Bytes.
func TestReadOfTooMuch(t *testing.T) {
	for _, x := range []struct {
		what string
		of   func(n int) Record
		most int
	}{
		{"reads", func(n int) Record { return reading(ones(n)...) }, api.MaxOps},
		{"scans", func(n int) Record { return reading(slices.Repeat([]Read{scan("", "")}, n)...) }, api.MaxOps},
		{"writes", func(n int) Record { return writing(pairs(n)...) }, api.MaxOps},
		{"pairs of a scan", func(n int) Record { return reading(scan("", "9", pairs(n)...)) }, api.MaxScan},
		{"pairs of the second scan", func(n int) Record { return reading(scan("", "9"), scan("", "9", pairs(n)...)) }, api.MaxScan},
		{"bytes of a key that is read", func(n int) Record { return reading(one(text(n))) }, api.MaxKey},
		{"bytes of a scan's begin", func(n int) Record { return reading(scan(text(n), "")) }, api.MaxKey},
		{"bytes of a scan's end", func(n int) Record { return reading(scan("", text(n))) }, api.MaxKey},
		{"bytes of a pair's key", func(n int) Record { return reading(scan("", "z", put(text(n), ""))) }, api.MaxKey},
		{"bytes of a pair's value", func(n int) Record { return reading(one("a", put("a", text(n)))) }, api.MaxValue},
		{"bytes of a scan's value", func(n int) Record { return reading(scan("", "z", put("a", text(n)))) }, api.MaxValue},
		{"bytes of a key that is written", func(n int) Record { return writing(put(text(n), "")) }, api.MaxKey},
		{"bytes of a key that is dropped", func(n int) Record { return writing(drop(text(n))) }, api.MaxKey},
		{"bytes of a value", func(n int) Record { return writing(put("a", text(n))) }, api.MaxValue},
	} {
		for n := x.most - 1; n <= x.most+2; n++ {
			r, e := Record{}, api.ErrBad
			if n <= x.most {
				r, e = x.of(n), api.OK
			}
			reads(t, fmt.Sprint(n, " ", x.what), model{}.bytes(x.of(n)), r, e)
		}
	}
}

func TestReadOfMaxRecord(t *testing.T) {
	for shape, with := range shapes() {
		for n := api.MaxRecord - 3; n <= api.MaxRecord+3; n++ {
			r, e := sized(t, n, with), api.OK
			b := model{}.bytes(r)
			if n > api.MaxRecord {
				r, e = Record{}, api.ErrBad
			}
			reads(t, fmt.Sprint("shape ", shape, " of bytes ", n), b, r, e)
			reads(t, fmt.Sprint("shape ", shape, " of bytes ", n, ", one less"), b[:n-1], Record{}, api.ErrBad)
			reads(t, fmt.Sprint("shape ", shape, " of bytes ", n, ", one more"), append(b, 0), Record{}, api.ErrBad)
		}
	}
	reads(t, "many noughts", make([]byte, 1<<20), Record{}, api.ErrBad)
	reads(t, "many ones", bytes.Repeat([]byte{1}, 1<<20), Record{}, api.ErrBad)
	reads(t, "many bytes behind a record", append([]byte{1, 0, 0, 0, 0}, make([]byte, 1<<20)...), Record{}, api.ErrBad)
}

// What lies in the room behind the bytes' end is not read.
func TestReadLooksAtNoRoom(t *testing.T) {
	for _, r := range samples() {
		b := record.Bytes(r)
		room := append(slices.Clone(b), 1, 0, 0, 0, 0)
		reads(t, "bytes with more in their room", room[:len(b)], r, api.OK)
		for end := range b {
			reads(t, "bytes whose end is in their room", b[:end], Record{}, api.ErrBad)
			reads(t, "bytes without their end", slices.Clip(b[:end]), Record{}, api.ErrBad)
		}
	}
}

// samples are Good records, all values of which are at hand in a few bytes.
func samples() []Record {
	a, b := put("a", "1"), put("b", "")
	return []Record{
		{Session: 1},
		{Session: 1, Writes: []Pair{a}},
		{Session: 8, Snap: 248, Strict: true, Reads: []Read{one("a", a)}, Writes: []Pair{drop("a"), b}},
		{Session: 2, Snap: 3, Reads: []Read{scan("", "c", a, b), one("c"), scan("b", "a")}},
		{Session: 3, Snap: greatestSnap, Reads: []Read{one("b"), scan("a", "b", a), one("a", a)}, Writes: []Pair{put("a", "22"), drop("b"), put("c", "")}},
		{Session: 4, Reads: []Read{scan("", ""), scan("", "")}, Writes: []Pair{put("\x00", "\x00\x00"), drop("\xff")}},
	}
}

// Each byte that is another one, one more anywhere, one less, and each end.
func TestReadOfChangedBytes(t *testing.T) {
	answered := map[api.Errno]int{}
	for i, r := range samples() {
		b := record.Bytes(r)
		reads(t, "a sample", b, r, api.OK)
		for at := range len(b) + 1 {
			what := fmt.Sprint("sample ", i, ", byte ", at)
			answered[isRead(t, what+", cut off", b[:at])]++
			for x := range 256 {
				answered[isRead(t, what+", one more", slices.Insert(slices.Clone(b), at, byte(x)))]++
				if at < len(b) {
					changed := slices.Clone(b)
					changed[at] = byte(x)
					answered[isRead(t, what+", changed", changed)]++
				}
			}
			if at < len(b) {
				answered[isRead(t, what+", one less", slices.Delete(slices.Clone(b), at, at+1))]++
			}
			endIfFailed(t)
		}
	}
	if answered[api.OK] < 1000 || answered[api.ErrBad] < 1000 {
		t.Errorf("%v: these bytes are too few", answered)
	}
}

// numbers are n, written as it is and in each longer way, and numbers beside it, and the greatest.
func numbers(n uint64) [][]byte {
	var l [][]byte
	for size := 1; size <= 8; size++ {
		b := []byte{byte(247 + size)}
		for i := size - 1; i >= 0; i-- {
			b = append(b, byte(n>>(8*i)))
		}
		l = append(l, b)
	}
	for _, x := range []uint64{0, 1, 2, n - 1, n, n + 1, 1 << 32, 1<<32 + n, 1 << 63, 1<<63 + n, math.MaxUint64} {
		l = append(l, model{}.num(x))
	}
	return l
}

// Each number of a record written otherwise, each flag of another byte.
func TestReadOfOtherNumbers(t *testing.T) {
	answered := map[api.Errno]int{}
	for i, r := range samples() {
		all := model{}.pieces(r)
		for at, p := range all {
			swap := func(by []byte) {
				var b []byte
				for j, q := range all {
					if j == at {
						q.bytes = by
					}
					b = append(b, q.bytes...)
				}
				answered[isRead(t, fmt.Sprint("sample ", i, ", piece ", at), b)]++
			}
			switch p.kind {
			case number:
				for _, by := range numbers(p.n) {
					swap(by)
				}
			case flag:
				for x := range 256 {
					swap([]byte{byte(x)})
				}
			}
			endIfFailed(t)
		}
	}
	if answered[api.OK] < 100 || answered[api.ErrBad] < 1000 {
		t.Errorf("%v: these bytes are too few", answered)
	}
}
