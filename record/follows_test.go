package record_test

import (
	"fmt"
	"slices"
	"testing"

	"indenture/api"
	"indenture/internal/noise"
	"indenture/record"
)

// P16.3

// allReads: of those keys each read, and each scan from one to another, with each choice of those pairs.
func allReads(keys []string, pairs [][]Pair) []Read {
	var l []Read
	for _, p := range pairs {
		for _, key := range keys {
			l = append(l, one(key, p...))
			for _, to := range keys {
				l = append(l, scan(key, to, p...))
			}
		}
	}
	return l
}

// Each short record: what it is, that it comes back, and that no other one has its bytes.
func TestAllShortRecords(t *testing.T) {
	reads := allReads([]string{"", "a", "b"}, [][]Pair{nil, {put("a", "")}, {put("b", "1")}, {put("a", ""), put("b", "")}, {drop("a")}})
	writes := [][]Pair{nil, {put("a", "")}, {drop("a")}, {put("a", "1"), drop("b")}, {drop("b"), put("a", "")}, {put("", "")}}
	seen := map[string]Record{}
	kinds := map[kind]int{}
	hold := func(r Record) {
		k := model{}.kind(r)
		kinds[k]++
		is(t, "a short record", r, k)
		if k == good {
			b := string(record.Bytes(r))
			if other, ok := seen[b]; ok {
				t.Errorf("%s and %s have the same bytes", brief(other), brief(r))
			}
			seen[b] = r
		}
		endIfFailed(t)
	}
	for i, w := range writes {
		for _, head := range []Record{{Session: 1}, {Session: 1, Strict: true}, {Session: 1, Snap: 1}, {Session: 2}, {}, {Session: 9}} {
			head.Writes = w
			hold(head)
			for _, x := range reads {
				head.Reads = []Read{x}
				hold(head)
				if head.Session != 1 || head.Snap != 0 || head.Strict != (i%2 == 0) {
					continue
				}
				for _, y := range reads {
					head.Reads = []Read{x, y}
					hold(head)
				}
			}
		}
	}
	if kinds[good] < 1000 || kinds[bad] < 1000 {
		t.Errorf("%v: these records are too few", kinds)
	}
}

// All bytes of up to nine of these: those that are of a record are put again just as they were.
func TestAllShortBytes(t *testing.T) {
	answered := map[api.Errno]int{}
	letters := []byte{0, 1, 2, 97}
	level := [][]byte{nil}
	for range 9 {
		var longer [][]byte
		for _, b := range level {
			for _, x := range letters {
				longer = append(longer, append(slices.Clip(b), x))
			}
		}
		for _, b := range longer {
			e := isRead(t, "short bytes", b)
			answered[e]++
			if r, _ := record.Read(b); e == api.OK && string(record.Bytes(r)) != string(b) {
				t.Errorf("%v: what was read of them is put as %v", b, record.Bytes(r))
			}
		}
		endIfFailed(t)
		level = longer
	}
	if answered[api.OK] < 20 || answered[api.ErrBad] < 100000 {
		t.Errorf("%v: these bytes are too few", answered)
	}
}

// Two records are the Same just if they have the same bytes, and then the same Leaf.
func TestSameAsTheirBytes(t *testing.T) {
	var l []Record
	for seed := range 400 {
		m := &maker{bytes: noise.Bytes(uint32(seed)*31+7, 9)}
		if r := m.goodRecord(); record.Good(r) {
			l = append(l, r)
		}
	}
	l = append(l, samples()...)
	alike := 0
	for i, x := range l {
		for j, y := range l {
			same := record.Same(x, y)
			if same != sameRecord(x, y) || same != (string(record.Bytes(x)) == string(record.Bytes(y))) || same != (record.Leaf(x) == record.Leaf(y)) {
				t.Fatalf("Same is %v of %s and %s", same, brief(x), brief(y))
			}
			if same && i != j {
				alike++
			}
		}
	}
	if len(l) < 200 || alike < 10 {
		t.Errorf("%d records, of which %d are alike: too few", len(l), alike)
	}
}

// maker makes records of bytes, as long as there are any; then of noughts.
type maker struct{ bytes []byte }

func (m *maker) next(below int) int {
	if len(m.bytes) == 0 {
		return 0
	}
	b := m.bytes[0]
	m.bytes = m.bytes[1:]
	return int(b) % below
}

// pick tells the first of l most often.
func pick[T any](m *maker, l ...T) T {
	if m.next(3) > 0 {
		return l[0]
	}
	return l[m.next(len(l))]
}

// key is one of few, or, seldom, none.
func (m *maker) key() string {
	keys := []string{"a", "b", "c", "d", "a\x00", "\xff", "\xc3\x28", "\x00", text(api.MaxKey), text(247), "", text(api.MaxKey + 1)}
	return keys[min(m.next(len(keys)), m.next(len(keys)))]
}

func (m *maker) value() string {
	return pick(m, "1", "", "\x00", "\xf8", text(247), text(248), text(api.MaxValue), text(api.MaxValue+1))
}

// rising puts pairs in order, of one key the first alone.
func rising(l []Pair) []Pair {
	slices.SortStableFunc(l, func(x, y Pair) int { return slices.Compare([]byte(x.Key), []byte(y.Key)) })
	return slices.CompactFunc(l, func(x, y Pair) bool { return x.Key == y.Key })
}

// pairs are in order, but seldom.
func (m *maker) pairs(mayBeDead bool) []Pair {
	var l []Pair
	for range m.next(6) {
		p := put(m.key(), m.value())
		if m.next(3) == 0 && mayBeDead || m.next(60) == 1 {
			p.Dead = true
			p.Value = pick(m, "", "", "1")
		}
		l = append(l, p)
	}
	if m.next(40) != 1 {
		l = rising(l)
	}
	return l
}

func (m *maker) read() Read {
	x := Read{Scan: m.next(2) == 0, Key: m.key(), Pairs: m.pairs(false)}
	if x.Scan {
		x.To = m.key()
		if m.next(20) != 1 {
			x.Pairs = slices.DeleteFunc(x.Pairs, func(p Pair) bool { return p.Key < x.Key || p.Key >= x.To })
		}
		return x
	}
	if m.next(20) != 1 {
		x.Pairs = x.Pairs[:min(len(x.Pairs), 1)]
		for i := range x.Pairs {
			x.Pairs[i].Key = x.Key
		}
	}
	if m.next(20) == 1 {
		x.To = m.key()
	}
	return x
}

// record makes one that is Good, or nearly.
func (m *maker) record() Record {
	r := Record{Session: pick(m, 1, 2, 8, 0, 9, -1), Snap: pick(m, 0, 1, 247, 248, 1<<32, greatestSnap, greatestSnap+1, -1), Strict: m.next(2) == 0, Writes: m.pairs(true)}
	for range m.next(5) {
		r.Reads = append(r.Reads, m.read())
	}
	if m.next(20) == 1 {
		much := scan("", "e", put("a", text(api.MaxValue)), put("b", m.value()))
		r.Reads = append(r.Reads, slices.Repeat([]Read{much}, m.next(70))...)
	}
	return r
}

// goodRecord makes one of few values, so that two are alike now and then.
func (m *maker) goodRecord() Record {
	r := Record{Session: 1 + m.next(2), Strict: m.next(2) == 0}
	switch m.next(3) {
	case 0:
		r.Writes = rising([]Pair{put("a", pick(m, "1", "2")), drop(pick(m, "b", "c"))})
	case 1:
		r.Reads = []Read{one("a"), scan("a", pick(m, "b", "c"))}
	}
	return r
}

// anyRecord makes a record of bytes and holds all that is told of it against the model, and its bytes too, one of them changed. It tells what it is.
func anyRecord(t *testing.T, b []byte) kind {
	t.Helper()
	defer endIfFailed(t)
	m := &maker{b}
	r := m.record()
	k := model{}.kind(r)
	is(t, "a made record", r, k)
	if c := record.Copy(r); !record.Same(c, r) || !sameRecord(c, r) {
		t.Errorf("Copy of %s: %s", brief(r), brief(c))
	}
	if all := record.Bytes(r); len(all) > 0 {
		at := (m.next(256)*256 + m.next(256)) % len(all)
		all[at] += byte(1 + m.next(255))
		isRead(t, "a made record's bytes, one of them changed", all)
		isRead(t, "a made record's bytes, one of them changed, cut off", all[:at])
	}
	return k
}

func TestAnyRecords(t *testing.T) {
	kinds := map[kind]int{}
	for seed := range 20000 {
		kinds[anyRecord(t, noise.Bytes(uint32(seed)*977+3, 20+seed%160))]++
	}
	if kinds[good] < 2000 || kinds[bad] < 2000 || kinds[long] < 50 {
		t.Errorf("%v: these records are too few", kinds)
	}
}

// FuzzRecords and FuzzRead go over their seeds in an ordinary run, and on from them by go test -fuzz.
func FuzzRecords(f *testing.F) {
	f.Add([]byte(nil))
	for seed := range 10 {
		f.Add(noise.Bytes(uint32(seed)+1000, 20*seed))
	}
	f.Fuzz(func(t *testing.T, b []byte) { anyRecord(t, b) })
}

func FuzzRead(f *testing.F) {
	f.Add([]byte(nil))
	for _, r := range samples() {
		f.Add(record.Bytes(r))
	}
	f.Fuzz(func(t *testing.T, b []byte) {
		if isRead(t, "any bytes", b) != api.OK {
			return
		}
		r, _ := record.Read(b)
		if !record.Good(r) || string(record.Bytes(r)) != string(b) {
			t.Errorf("%v: what was read of them is put as %v", b, record.Bytes(r))
		}
	})
}

// R4: of one record the same is told always.
func TestToldTheSameAlways(t *testing.T) {
	l := ones(api.MaxOps)
	l[40] = l[3]
	for i := range 50 {
		is(t, fmt.Sprint("time ", i), reading(l...), bad)
		is(t, fmt.Sprint("time ", i), reading(ones(api.MaxOps)...), good)
		endIfFailed(t)
	}
}
