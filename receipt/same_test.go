package receipt_test

import (
	"bytes"
	"fmt"
	"math"
	"slices"
	"testing"

	"indenture/api"
	"indenture/receipt"
)

// unlike are receipts each two of which differ, most of them from the second in one place alone.
func unlike() []Receipt {
	base := func() Receipt {
		return Receipt{
			At:     5,
			Record: Record{Session: 2, Snap: 3, Reads: []Read{one("a", put("a", "1")), scan("b", "d", put("b", "2"), put("c", "3"))}, Writes: []Pair{put("a", "4"), drop("b")}},
			Path:   hashes(1, 3),
			Digest: Digest{Size: 6, Log: hashes(2, 1)[0], Map: hashes(3, 1)[0]},
		}
	}
	l := []Receipt{{}, base()}
	for _, change := range []func(r *Receipt){
		func(r *Receipt) { r.At = 4 },
		func(r *Receipt) { r.At = -5 },
		func(r *Receipt) { r.At = math.MaxInt },
		func(r *Receipt) { r.At, r.Digest.Size = 6, 5 },
		func(r *Receipt) { r.At, r.Digest.Size = 6, 7 },
		func(r *Receipt) { r.Digest.Size = 5 },
		func(r *Receipt) { r.Digest.Size = 7 },
		func(r *Receipt) { r.Digest.Size = math.MinInt },
		func(r *Receipt) { r.Digest.Log[0]++ },
		func(r *Receipt) { r.Digest.Log[31]++ },
		func(r *Receipt) { r.Digest.Map[0]++ },
		func(r *Receipt) { r.Digest.Map[31]++ },
		func(r *Receipt) { r.Digest.Log, r.Digest.Map = r.Digest.Map, r.Digest.Log },
		func(r *Receipt) { r.Digest = Digest{} },
		func(r *Receipt) { r.Path = nil },
		func(r *Receipt) { r.Path = r.Path[:2] },
		func(r *Receipt) { r.Path = r.Path[1:] },
		func(r *Receipt) { r.Path = append(r.Path, Hash{}) },
		func(r *Receipt) { r.Path = append(r.Path, r.Path[2]) },
		func(r *Receipt) { slices.Reverse(r.Path) },
		func(r *Receipt) { r.Path[0][0]++ },
		func(r *Receipt) { r.Path[1][15]++ },
		func(r *Receipt) { r.Path[2][31]++ },
		func(r *Receipt) { r.Record = Record{} },
		func(r *Receipt) { r.Record.Session = 1 },
		func(r *Receipt) { r.Record.Session = -2 },
		func(r *Receipt) { r.Record.Snap = 2 },
		func(r *Receipt) { r.Record.Strict = true },
		func(r *Receipt) { r.Record.Reads = nil },
		func(r *Receipt) { r.Record.Reads = r.Record.Reads[:1] },
		func(r *Receipt) { slices.Reverse(r.Record.Reads) },
		func(r *Receipt) { r.Record.Reads[1].Scan = false },
		func(r *Receipt) { r.Record.Reads[1].Key = "" },
		func(r *Receipt) { r.Record.Reads[1].To = "e" },
		func(r *Receipt) { r.Record.Reads[0].Pairs = nil },
		func(r *Receipt) { r.Record.Reads[0].Pairs[0].Value = "2" },
		func(r *Receipt) { r.Record.Reads[1].Pairs[1].Key = "bb" },
		func(r *Receipt) { r.Record.Reads[1].Pairs[1].Dead = true },
		func(r *Receipt) { r.Record.Writes = nil },
		func(r *Receipt) { r.Record.Writes = r.Record.Writes[1:] },
		func(r *Receipt) { r.Record.Writes[0].Value = "" },
		func(r *Receipt) { r.Record.Writes[1].Dead = false },
		func(r *Receipt) { r.Record.Writes[1].Value = "dead" },
	} {
		r := base()
		change(&r)
		l = append(l, r)
	}
	return append(l,
		Receipt{Path: []Hash{{}}}, Receipt{Path: []Hash{{}, {}}},
		Receipt{Record: Record{Reads: []Read{{}}}}, Receipt{Record: Record{Writes: []Pair{{}}}},
		Receipt{At: 1}, Receipt{Digest: Digest{Size: 1}}, Receipt{Record: Record{Session: 1}}, Receipt{Record: Record{Snap: 1}})
}

// empties tells r with all lists that are empty nil, or none of them.
func empties(r Receipt, isNil bool) Receipt {
	r = deep(r)
	emptied(&r.Path, isNil)
	emptied(&r.Record.Reads, isNil)
	emptied(&r.Record.Writes, isNil)
	for i := range r.Record.Reads {
		emptied(&r.Record.Reads[i].Pairs, isNil)
	}
	return r
}

func emptied[T any](l *[]T, isNil bool) {
	if len(*l) == 0 {
		if *l = nil; !isNil {
			*l = make([]T, 0, 3)
		}
	}
}

func TestSame(t *testing.T) {
	l := unlike()
	if len(l) != 53 {
		t.Errorf("%d receipts", len(l))
	}
	for i, x := range l {
		for j, y := range l {
			a, b := deep(x), deep(y)
			if got := receipt.Same(x, y); got != (i == j) {
				t.Errorf("Same of receipt %d and receipt %d: %v: %s, %s", i, j, got, brief(x), brief(y))
			}
			if !alike(a, x) || !alike(b, y) {
				t.Errorf("Same changed what came in: %s, %s, was %s, %s", brief(x), brief(y), brief(a), brief(b))
			}
		}
		if !receipt.Same(x, deep(x)) || !receipt.Same(deep(x), x) {
			t.Errorf("receipt %d is not the Same as one that shares nothing with it: %s", i, brief(x))
		}
	}
}

func TestEmptyLists(t *testing.T) {
	for i, r := range append(unlike(), samples()...) {
		a, b := empties(r, true), empties(r, false)
		for _, x := range []Receipt{a, b, r} {
			for _, y := range []Receipt{a, b, r} {
				if !receipt.Same(x, y) {
					t.Errorf("receipt %d is not the Same with nil and with empty lists: %s, %s", i, brief(x), brief(y))
				}
			}
			is(t, fmt.Sprint("receipt ", i, " with other empty lists"), x, model{}.kind(r))
		}
	}
}

// R3

// memory is all lists of a receipt, with the room behind their ends.
type memory struct {
	path  []Hash
	reads []Read
	pairs [][]Pair // of each of reads, then of the writes
}

func memoryOf(r Receipt) memory {
	m := memory{path: r.Path[:cap(r.Path)], reads: r.Record.Reads[:cap(r.Record.Reads)]}
	for _, x := range m.reads {
		m.pairs = append(m.pairs, x.Pairs[:cap(x.Pairs)])
	}
	m.pairs = append(m.pairs, r.Record.Writes[:cap(r.Record.Writes)])
	return m
}

func (m memory) clone() memory {
	c := memory{path: slices.Clone(m.path), reads: slices.Clone(m.reads)}
	for _, l := range m.pairs {
		c.pairs = append(c.pairs, slices.Clone(l))
	}
	return c
}

func (m memory) is(was memory) bool {
	return slices.Equal(m.path, was.path) && slices.EqualFunc(m.reads, was.reads, sameRead) && slices.EqualFunc(m.pairs, was.pairs, slices.Equal[[]Pair])
}

// spoil changes all of it.
func (m memory) spoil() {
	for i := range m.path {
		m.path[i] = Hash{1: 99}
	}
	for _, l := range m.pairs {
		spoil(l)
	}
	for i := range m.reads {
		m.reads[i] = Read{Scan: true, Key: "spoilt", To: "spoilu"}
	}
}

func spoil(l []Pair) {
	for i := range l {
		l[i] = Pair{Key: "spoilt", Value: "spoilt", Dead: true}
	}
}

// roomy tells r with something in the room behind each list's end.
func roomy(r Receipt) Receipt {
	more := []Pair{put("room", "room"), drop("room")}
	behind := func(l []Pair) []Pair { return append(slices.Clone(l), more...)[:len(l)] }
	r = deep(r)
	for i := range r.Record.Reads {
		r.Record.Reads[i].Pairs = behind(r.Record.Reads[i].Pairs)
	}
	r.Record.Reads = append(r.Record.Reads, one("room", more...), scan("room", "roon"))[:len(r.Record.Reads)]
	r.Record.Writes = behind(r.Record.Writes)
	r.Path = append(r.Path, hashes(77, 3)...)[:len(r.Path)]
	return r
}

// isClean fails if the room behind a list's end has anything.
func isClean(t *testing.T, what string, r Receipt) {
	t.Helper()
	m := memoryOf(r)
	for i, l := range m.pairs {
		end := len(r.Record.Writes)
		if i < len(m.reads) {
			end = len(m.reads[i].Pairs)
		}
		if slices.ContainsFunc(l[end:], func(p Pair) bool { return p != Pair{} }) {
			t.Errorf("%s: something is in the room behind list %d: %s", what, i, brief(l))
		}
	}
	for _, x := range m.reads[len(r.Record.Reads):] {
		if !sameRead(x, Read{}) {
			t.Errorf("%s: something is in the room behind the Reads: %s", what, brief(x))
		}
	}
	for _, h := range m.path[len(r.Path):] {
		if h != (Hash{}) {
			t.Errorf("%s: something is in the room behind the Path: %x", what, h)
		}
	}
}

func TestBytesAreNewMemory(t *testing.T) {
	for i, plain := range samples() {
		r := roomy(plain)
		room := memoryOf(r)
		was := room.clone()
		want := model{}.bytes(plain)
		first, second := receipt.Bytes(r), receipt.Bytes(r)
		for j := range first[:cap(first)] {
			first[:cap(first)][j] = 255
		}
		if !room.is(was) || !alike(r, plain) {
			t.Errorf("receipt %d: what came in, or its room, is changed behind Bytes: %s", i, brief(r))
		}
		if !bytes.Equal(second, want) {
			t.Errorf("receipt %d: Bytes are changed behind others: %s, want %s", i, brief(second), brief(want))
		}
		room.spoil()
		if !bytes.Equal(second, want) {
			t.Errorf("receipt %d: Bytes are changed behind what was handed in: %s, want %s", i, brief(second), brief(want))
		}
		for _, x := range second[len(second):cap(second)] {
			if x != 0 {
				t.Errorf("receipt %d: something is in the room behind the Bytes: %d", i, x)
			}
		}
	}
}

func TestReadIsNewMemory(t *testing.T) {
	for i, want := range samples() {
		what := fmt.Sprint("receipt ", i)
		b := append(receipt.Bytes(want), 7, 7, 7)
		was := slices.Clone(b)
		own := b[:len(b)-3]
		first, _ := receipt.Read(own)
		second, e := receipt.Read(own)
		isClean(t, what, first)
		memoryOf(first).spoil()
		if !bytes.Equal(b, was) {
			t.Errorf("%s: the bytes, or their room, are changed behind what was read: %s, was %s", what, brief(b), brief(was))
		}
		for j := range b {
			b[j] = 'x'
		}
		if !alike(second, want) || e != api.OK {
			t.Errorf("%s: what was read is changed: %s %v, want %s", what, brief(second), e, brief(want))
		}
		// No two lists of the answer share any: each is spoilt, the others stay.
		for j := range memoryOf(second).pairs {
			r, _ := receipt.Read(was[:len(was)-3])
			all := memoryOf(r)
			old := all.clone()
			spoil(all.pairs[j])
			for k, l := range all.pairs {
				if k != j && !slices.Equal(l, old.pairs[k]) {
					t.Errorf("%s: list %d is changed with list %d: %s", what, k, j, brief(r))
				}
			}
		}
	}
}

// All that only ask leave even the room behind the lists as it was, and do not look at it.
func TestRoomStays(t *testing.T) {
	l := ledgerOf(21)
	all := append(unlike(), samples()...)
	for at := range 14 {
		all = append(all, l.receipt(at))
	}
	later := 0
	for i, plain := range all {
		r := roomy(plain)
		room := memoryOf(r)
		was := room.clone()
		path := []Hash{}
		if at := plain.At; at >= 0 && at < 20 {
			path = append(l.grown(at+1, 20), hashes(5, 4)...)[:len(l.grown(at+1, 20))]
		}
		wasPath := slices.Clone(path[:cap(path)])
		if receipt.Good(r) != receipt.Good(plain) || receipt.Check(r) != receipt.Check(plain) || !receipt.Same(r, plain) || !receipt.Same(plain, r) {
			t.Errorf("receipt %d is another one with other room", i)
		}
		a, b := receipt.Later(r, l.digest(20), path), receipt.Later(plain, l.digest(20), slices.Clip(path))
		if a != b {
			t.Errorf("receipt %d: Later is %v, without room %v", i, a, b)
		}
		if a {
			later++
		}
		if !room.is(was) || !slices.Equal(path[:cap(path)], wasPath) {
			t.Errorf("receipt %d: what came in, or its room, was changed: %s", i, brief(r))
		}
	}
	if later < 14 {
		t.Errorf("%d are shown: these are too few", later)
	}
}
