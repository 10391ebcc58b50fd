package record_test

import (
	"bytes"
	"fmt"
	"math"
	"slices"
	"testing"

	"indenture/api"
	"indenture/record"
)

// unlike are records each two of which differ, most of them from the first in one place alone.
func unlike() []Record {
	base := func() Record {
		return Record{Session: 2, Snap: 3, Reads: []Read{one("a", put("a", "1")), scan("b", "d", put("b", "2"), put("c", "3"))}, Writes: []Pair{put("a", "4"), drop("b")}}
	}
	l := []Record{{}, base()}
	for _, change := range []func(r *Record){
		func(r *Record) { r.Session = 1 },
		func(r *Record) { r.Session = -2 },
		func(r *Record) { r.Session = math.MaxInt },
		func(r *Record) { r.Snap = 2 },
		func(r *Record) { r.Snap = math.MinInt },
		func(r *Record) { r.Session, r.Snap = 3, 2 },
		func(r *Record) { r.Strict = true },
		func(r *Record) { r.Reads = nil },
		func(r *Record) { r.Reads = r.Reads[:1] },
		func(r *Record) { r.Reads = r.Reads[1:] },
		func(r *Record) { r.Reads = append(r.Reads, r.Reads[0]) },
		func(r *Record) { r.Reads = append(r.Reads, Read{}) },
		func(r *Record) { slices.Reverse(r.Reads) },
		func(r *Record) { r.Reads[0].Scan = true },
		func(r *Record) { r.Reads[1].Scan = false },
		func(r *Record) { r.Reads[0].Key = "b" },
		func(r *Record) { r.Reads[1].Key = "" },
		func(r *Record) { r.Reads[0].To = "b" },
		func(r *Record) { r.Reads[1].To = "dd" },
		func(r *Record) { r.Reads[1].Key, r.Reads[1].To = "d", "b" },
		func(r *Record) { r.Reads[0].Pairs = nil },
		func(r *Record) { r.Reads[1].Pairs = r.Reads[1].Pairs[:1] },
		func(r *Record) { r.Reads[1].Pairs = r.Reads[1].Pairs[1:] },
		func(r *Record) { r.Reads[1].Pairs = append(r.Reads[1].Pairs, Pair{}) },
		func(r *Record) { slices.Reverse(r.Reads[1].Pairs) },
		func(r *Record) { r.Reads[0].Pairs[0].Key = "" },
		func(r *Record) { r.Reads[0].Pairs[0].Value = "2" },
		func(r *Record) { r.Reads[0].Pairs[0].Dead = true },
		func(r *Record) { r.Reads[1].Pairs[1].Key = "cc" },
		func(r *Record) { r.Reads[1].Pairs[1].Value = "" },
		func(r *Record) { r.Reads[1].Pairs[1].Dead = true },
		func(r *Record) { r.Writes = nil },
		func(r *Record) { r.Writes = r.Writes[:1] },
		func(r *Record) { r.Writes = r.Writes[1:] },
		func(r *Record) { r.Writes = append(r.Writes, Pair{}) },
		func(r *Record) { slices.Reverse(r.Writes) },
		func(r *Record) { r.Writes[0].Key = "A" },
		func(r *Record) { r.Writes[0].Value = "44" },
		func(r *Record) { r.Writes[0].Dead = true },
		func(r *Record) { r.Writes[1].Key = "" },
		func(r *Record) { r.Writes[1].Value = "5" },
		func(r *Record) { r.Writes[1].Dead = false },
		func(r *Record) { r.Reads[0].Pairs, r.Writes = r.Writes, r.Reads[0].Pairs },
	} {
		r := base()
		change(&r)
		l = append(l, r)
	}
	return append(l, Record{Reads: []Read{{}}}, Record{Reads: []Read{{}, {}}}, Record{Writes: []Pair{{}}}, Record{Writes: []Pair{{}, {}}}, Record{Reads: []Read{{Pairs: []Pair{{}}}}})
}

// empties tells r with all lists that are empty nil, or none of them.
func empties(r Record, isNil bool) Record {
	r = deep(r)
	empty := func(l []Pair) []Pair {
		switch {
		case len(l) > 0:
			return l
		case isNil:
			return nil
		}
		return make([]Pair, 0, 3)
	}
	r.Writes = empty(r.Writes)
	for i := range r.Reads {
		r.Reads[i].Pairs = empty(r.Reads[i].Pairs)
	}
	if len(r.Reads) == 0 {
		if r.Reads = nil; !isNil {
			r.Reads = make([]Read, 0, 3)
		}
	}
	return r
}

// P16.1

func TestSame(t *testing.T) {
	l := unlike()
	if len(l) != 50 {
		t.Errorf("%d records", len(l))
	}
	for i, x := range l {
		for j, y := range l {
			a, b := deep(x), deep(y)
			if got := record.Same(x, y); got != (i == j) {
				t.Errorf("Same of record %d and record %d: %v: %s, %s", i, j, got, brief(x), brief(y))
			}
			if !sameRecord(a, x) || !sameRecord(b, y) {
				t.Errorf("Same changed what came in: %s, %s, was %s, %s", brief(x), brief(y), brief(a), brief(b))
			}
		}
		if !record.Same(x, deep(x)) {
			t.Errorf("record %d is not the Same as one that shares nothing with it: %s", i, brief(x))
		}
	}
}

func TestSameOfEmptyLists(t *testing.T) {
	for i, r := range append(unlike(), samples()...) {
		a, b := empties(r, true), empties(r, false)
		for _, x := range []Record{a, b, r} {
			for _, y := range []Record{a, b, r} {
				if !record.Same(x, y) {
					t.Errorf("record %d is not the Same with nil and with empty lists: %s, %s", i, brief(x), brief(y))
				}
			}
		}
	}
}

// Records that are not Good are held against each other by what they are, not by bytes: those they have not.
func TestSameOfBadRecords(t *testing.T) {
	for _, x := range [][2]Record{
		{{}, {Session: 9}},
		{{Session: 9}, {Session: 10}},
		{{Session: 1, Snap: -1}, {Session: 1, Snap: -2}},
		{reading(one("a", drop("a"))), reading(one("a", put("a", "")))},
		{reading(Read{Key: "a", To: "b"}), reading(Read{Key: "a", To: "c"})},
		{writing(Pair{Key: "a", Dead: true, Value: "1"}), writing(drop("a"))},
		{writing(Pair{Key: "a", Dead: true, Value: "1"}), writing(Pair{Key: "a", Dead: true, Value: "2"})},
	} {
		if record.Same(x[0], x[1]) || record.Same(x[1], x[0]) {
			t.Errorf("%s and %s are the Same", brief(x[0]), brief(x[1]))
		}
	}
}

func TestCopy(t *testing.T) {
	for i, r := range slices.Concat(unlike(), samples(), []Record{greatest(), reading(ones(300)...), writing(pairs(300)...)}) {
		was := deep(r)
		got := record.Copy(r)
		if !sameRecord(got, was) || !record.Same(got, r) || !sameRecord(r, was) {
			t.Errorf("Copy of record %d: %s, of %s, that was %s", i, brief(got), brief(r), brief(was))
		}
		for _, isNil := range []bool{true, false} {
			if got := record.Copy(empties(r, isNil)); !sameRecord(got, was) {
				t.Errorf("Copy of record %d with empty lists: %s, want %s", i, brief(got), brief(was))
			}
		}
	}
}

// R3

// memory is all lists of a record, with the room behind their ends.
type memory struct {
	reads []Read
	pairs [][]Pair // of each of reads, then of the writes
}

func memoryOf(r Record) memory {
	m := memory{reads: r.Reads[:cap(r.Reads)]}
	for _, x := range m.reads {
		m.pairs = append(m.pairs, x.Pairs[:cap(x.Pairs)])
	}
	m.pairs = append(m.pairs, r.Writes[:cap(r.Writes)])
	return m
}

func (m memory) clone() memory {
	c := memory{reads: slices.Clone(m.reads)}
	for _, l := range m.pairs {
		c.pairs = append(c.pairs, slices.Clone(l))
	}
	return c
}

func (m memory) is(was memory) bool {
	return slices.EqualFunc(m.reads, was.reads, sameRead) && slices.EqualFunc(m.pairs, was.pairs, slices.Equal[[]Pair])
}

// spoil changes all of it.
func (m memory) spoil() {
	for _, l := range m.pairs {
		spoil(l)
	}
	for i := range m.reads {
		m.reads[i] = Read{Scan: true, Key: "spoilt", To: "spoilu"}
	}
}

func spoil(l []Pair) {
	l = l[:cap(l)]
	for i := range l {
		l[i] = Pair{Key: "spoilt", Value: "spoilt", Dead: true}
	}
}

// roomy tells r with something in the room behind each list's end.
func roomy(r Record) Record {
	more := []Pair{put("room", "room"), drop("room")}
	behind := func(l []Pair) []Pair { return append(slices.Clone(l), more...)[:len(l)] }
	r = deep(r)
	for i := range r.Reads {
		r.Reads[i].Pairs = behind(r.Reads[i].Pairs)
	}
	r.Reads = append(r.Reads, one("room", more...), scan("room", "roon"))[:len(r.Reads)]
	r.Writes = behind(r.Writes)
	return r
}

// noneShared holds that no two lists of an answer share any, by spoiling one after the other.
func noneShared(t *testing.T, what string, answer func() Record) {
	t.Helper()
	for i := range memoryOf(answer()).pairs {
		r := answer()
		all := memoryOf(r)
		was := all.clone()
		spoil(all.pairs[i])
		for j, l := range all.pairs {
			if j != i && !slices.Equal(l, was.pairs[j]) {
				t.Errorf("%s: list %d is changed with list %d: %s", what, j, i, brief(r))
			}
		}
	}
}

// isClean fails if the room behind a list's end has anything.
func isClean(t *testing.T, what string, r Record) {
	t.Helper()
	m := memoryOf(r)
	for i, l := range m.pairs {
		end := len(r.Writes)
		if i < len(m.reads) {
			end = len(m.reads[i].Pairs)
		}
		if slices.ContainsFunc(l[end:], func(p Pair) bool { return p != Pair{} }) {
			t.Errorf("%s: something is in the room behind list %d: %s", what, i, brief(l))
		}
	}
	for _, x := range m.reads[len(r.Reads):] {
		if !sameRead(x, Read{}) {
			t.Errorf("%s: something is in the room behind the Reads: %s", what, brief(x))
		}
	}
}

func TestCopyIsNewMemory(t *testing.T) {
	for i, plain := range append(unlike(), samples()...) {
		what := fmt.Sprint("record ", i)
		r := roomy(plain)
		room := memoryOf(r)
		was := room.clone()
		first, second := record.Copy(r), record.Copy(r)
		isClean(t, what, first)
		memoryOf(first).spoil()
		_ = append(second.Reads, one("spoilt"))
		_ = append(second.Writes, put("spoilt", ""))
		if !room.is(was) || !sameRecord(r, plain) {
			t.Errorf("%s: what came in, or its room, is changed behind a Copy that was changed: %s", what, brief(r))
		}
		if !sameRecord(second, plain) {
			t.Errorf("%s: a Copy is changed behind another one that was changed: %s", what, brief(second))
		}
		room.spoil()
		if !sameRecord(second, plain) {
			t.Errorf("%s: a Copy is changed behind what was handed in: %s, want %s", what, brief(second), brief(plain))
		}
		noneShared(t, what, func() Record { return record.Copy(roomy(plain)) })
	}
}

// Lists of what is handed in may share their memory, those of the answer not.
func TestCopyOfSharedLists(t *testing.T) {
	shared := make([]Pair, 3, 16)
	shared[0], shared[1], shared[2] = put("a", "1"), put("b", "2"), put("c", "3")
	r := Record{Session: 1, Reads: []Read{scan("a", "z", shared...), scan("a", "c", shared[:2]...), one("b", shared[1:2]...), one("a", shared[:1]...), scan("x", "y", shared[:0]...)}, Writes: shared}
	noneShared(t, "shared lists", func() Record { return record.Copy(r) })
	was := deep(r)
	memoryOf(record.Copy(r)).spoil()
	if !sameRecord(r, was) {
		t.Errorf("what came in is changed behind a Copy: %s", brief(r))
	}
}

func TestBytesAreNewMemory(t *testing.T) {
	for i, plain := range append(samples(), sized(t, api.MaxRecord+1, shapes()[0])) {
		r := roomy(plain)
		room := memoryOf(r)
		was := room.clone()
		want := model{}.bytes(plain)
		first, second := record.Bytes(r), record.Bytes(r)
		for j := range first[:cap(first)] {
			first[:cap(first)][j] = 255
		}
		if !room.is(was) || !sameRecord(r, plain) {
			t.Errorf("record %d: what came in, or its room, is changed behind Bytes: %s", i, brief(r))
		}
		if !bytes.Equal(second, want) {
			t.Errorf("record %d: Bytes are changed behind others: %s, want %s", i, brief(second), brief(want))
		}
		room.spoil()
		if !bytes.Equal(second, want) {
			t.Errorf("record %d: Bytes are changed behind what was handed in: %s, want %s", i, brief(second), brief(want))
		}
		if more := second[len(second):cap(second)]; bytes.ContainsFunc(more, func(x rune) bool { return x != 0 }) {
			t.Errorf("record %d: something is in the room behind the Bytes: %s", i, brief(more))
		}
	}
}

func TestReadIsNewMemory(t *testing.T) {
	for i, want := range append(samples(), sized(t, api.MaxRecord, shapes()[1])) {
		what := fmt.Sprint("record ", i)
		b := append(record.Bytes(want), 7, 7, 7)
		was := slices.Clone(b)
		own := b[:len(b)-3]
		first, _ := record.Read(own)
		second, e := record.Read(own)
		isClean(t, what, first)
		memoryOf(first).spoil()
		if !bytes.Equal(b, was) {
			t.Errorf("%s: the bytes, or their room, are changed behind what was read: %s, was %s", what, brief(b), brief(was))
		}
		for j := range b {
			b[j] = 'x'
		}
		if !sameRecord(second, want) || e != api.OK {
			t.Errorf("%s: what was read is changed: %s %v, want %s", what, brief(second), e, brief(want))
		}
		noneShared(t, what, func() Record {
			r, _ := record.Read(was[:len(was)-3])
			return r
		})
	}
}

// Good and Leaf leave even the room behind the lists as it was, and do not look at it.
func TestRoomStays(t *testing.T) {
	for i, plain := range append(unlike(), samples()...) {
		r := roomy(plain)
		room := memoryOf(r)
		was := room.clone()
		if g, w := record.Good(r), record.Good(plain); g != w {
			t.Errorf("record %d: Good is %v, with other room %v", i, g, w)
		}
		if record.Leaf(r) != record.Leaf(plain) || !record.Same(r, plain) || !record.Same(plain, r) {
			t.Errorf("record %d is another one with other room", i)
		}
		if !room.is(was) {
			t.Errorf("record %d: what came in, or its room, was changed: %s", i, brief(r))
		}
	}
}
