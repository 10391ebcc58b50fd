package certify_test

import (
	"slices"
	"testing"

	"indenture/api"
	"indenture/certify"
	"indenture/internal/noise"
)

// model tells what each call should, by the chapter's words alone.
type model struct{}

func (model) wrote(r Record, key string) bool {
	for _, p := range r.Writes {
		if p.Key == key {
			return true
		}
	}
	return false
}

func (m model) touches(r Record, x Read) bool {
	if !x.Scan {
		return m.wrote(r, x.Key)
	}
	for _, p := range r.Writes {
		if p.Key >= x.Key && p.Key < x.To {
			return true
		}
	}
	return false
}

func (m model) clash(r Record, later []Record) int {
	for i, l := range later {
		for _, p := range r.Writes {
			if m.wrote(l, p.Key) {
				return i
			}
		}
	}
	return -1
}

func (m model) stale(r Record, later []Record) int {
	for i, l := range later {
		for _, x := range r.Reads {
			if m.touches(l, x) {
				return i
			}
		}
	}
	return -1
}

func (m model) may(r Record, later []Record) api.Errno {
	switch {
	case m.clash(r, later) != -1:
		return api.ErrClash
	case r.Strict && m.stale(r, later) != -1:
		return api.ErrClash
	}
	return api.OK
}

func (model) own(r Record) []Read {
	var out []Read
	for i, x := range r.Reads {
		isAgain := func(y Read) bool { return !x.Scan && !y.Scan && x.Key == y.Key }
		if !slices.ContainsFunc(r.Reads[:i], isAgain) {
			out = append(out, x)
		}
	}
	return out
}

// agrees holds all calls of a record and those behind it against the model. Where one fails it ends the test: the others would fail as well, and tell nothing more.
func agrees(t *testing.T, r Record, later []Record) {
	t.Helper()
	defer endIfFailed(t)
	var m model
	first(t, "Clash", certify.Clash, r, later, m.clash(r, later))
	first(t, "Stale", certify.Stale, r, later, m.stale(r, later))
	isMay(t, r, later, m.may(r, later))
	if got, want := certify.Own(r), m.own(r); !slices.EqualFunc(got, want, sameRead) {
		t.Errorf("Own(%#v): %#v, want %#v", r.Reads, got, want)
	}
	for _, l := range later {
		for _, x := range r.Reads {
			isTouches(t, l, x, m.touches(l, x))
			isWrote(t, l, x.Key, m.wrote(l, x.Key))
		}
		for _, p := range r.Writes {
			isWrote(t, l, p.Key, m.wrote(l, p.Key))
		}
	}
}

func endIfFailed(t *testing.T) {
	t.Helper()
	if t.Failed() {
		t.FailNow()
	}
}

// allReads: of those keys each one, and each scan from one to another.
func allReads(keys []string) []Read {
	var l []Read
	for _, key := range keys {
		l = append(l, one(key))
		for _, to := range keys {
			l = append(l, scan(key, to))
		}
	}
	return l
}

// allWrites: of those keys each choice.
func allWrites(keys []string) []Record {
	l := []Record{{}}
	for _, key := range keys {
		for _, r := range l {
			l = append(l, Record{Writes: append(slices.Clone(r.Writes), Pair{Key: key, Dead: len(r.Writes) == 1})})
		}
	}
	return l
}

// Each two reads, each choice of what is written, and each two choices of what others wrote.
func TestAllShortRecords(t *testing.T) {
	keys := []string{"", "a", "b"}
	reads, writes := allReads(keys), allWrites(keys)
	n := 0
	for _, x := range reads {
		for _, y := range reads {
			for i, own := range writes {
				r := Record{Strict: (i+n)%2 == 0, Reads: []Read{x, y}, Writes: own.Writes}
				for _, l := range writes {
					agrees(t, r, []Record{l, writes[n%len(writes)]})
					n++
				}
			}
		}
	}
	if n != 12*12*8*8 {
		t.Errorf("%d records", n)
	}
}

// Each three scans and reads among keys of which one begins with the other, against each key alone.
func TestAllThreeReads(t *testing.T) {
	keys := []string{"", "a", "a\x00", "b"}
	reads := allReads(keys)
	var m model
	for _, x := range reads {
		for _, y := range reads {
			for _, z := range reads {
				r := reading(x, y, z)
				for _, key := range keys {
					later := []Record{{Writes: []Pair{{Key: key}}}}
					if got, want := certify.Stale(r, later), m.stale(r, later); got != want {
						t.Fatalf("Stale(%#v, %q): %d, want %d", r.Reads, key, got, want)
					}
				}
			}
		}
	}
}

// P14.3

// isHereditary holds what follows: where r may be committed behind all, it may behind each choice of them in their order; and where it may behind each alone, it may behind all. It tells what May says behind all.
func isHereditary(t *testing.T, r Record, later []Record) api.Errno {
	t.Helper()
	defer endIfFailed(t)
	whole := certify.May(r, later)
	alone := api.OK
	for choice := range 1 << len(later) {
		var some []Record
		for i, l := range later {
			if choice>>i&1 == 1 {
				some = append(some, l)
			}
		}
		got := certify.May(r, some)
		if whole == api.OK && got != api.OK {
			t.Errorf("May(%#v, %#v): ok, but behind %#v: %v", r, later, some, got)
		}
		if len(some) == 1 && got != api.OK {
			alone = got
		}
	}
	if whole != alone {
		t.Errorf("May(%#v, %#v): %v, but behind each alone: %v", r, later, whole, alone)
	}
	return whole
}

func TestMayBehindSomeOfThem(t *testing.T) {
	keys := []string{"a", "b", "c"}
	writes := allWrites(keys)
	answered := map[api.Errno]int{}
	for _, x := range []Read{one("a"), one("b"), scan("a", "c"), scan("b", "a"), scan("b", "c\x00")} {
		for _, own := range writes {
			for _, l1 := range writes {
				for _, l2 := range writes {
					for _, l3 := range writes {
						r := both(reading(x), own)
						answered[isHereditary(t, r, []Record{l1, l2, l3})]++
						answered[isHereditary(t, strict(r), []Record{l1, l2, l3})]++
					}
				}
			}
		}
	}
	if answered[api.OK] < 1000 || answered[api.ErrClash] < 1000 {
		t.Errorf("%v: these records are too few", answered)
	}
}

// maker makes records of bytes, as long as there are any; then of noughts.
type maker struct{ bytes []byte }

func (m *maker) next(below int) int {
	if len(m.bytes) == 0 {
		return 0
	}
	b := m.bytes[0]
	m.bytes = m.bytes[1:]
	return int(b) % below
}

func (m *maker) key() string {
	keys := keysByBytes()
	return keys[m.next(len(keys))]
}

func (m *maker) pairs(below int) []Pair {
	var l []Pair
	for range m.next(below) {
		l = append(l, Pair{Key: m.key(), Value: m.key(), Dead: m.next(3) == 0})
	}
	return l
}

// record makes one whose keys rise, or not.
func (m *maker) record(below int) Record {
	r := Record{Session: m.next(10) - 1, Snap: m.next(10) - 1, Strict: m.next(2) == 0, Writes: m.pairs(below)}
	for range m.next(below) {
		r.Reads = append(r.Reads, Read{Scan: m.next(2) == 0, Key: m.key(), To: m.key(), Pairs: m.pairs(3)})
	}
	return r
}

// anyRecords makes a record and some behind it of bytes, holds all against the model, and tells what May says.
func anyRecords(t *testing.T, bytes []byte) api.Errno {
	m := &maker{bytes}
	r := m.record(5)
	var later []Record
	for range m.next(6) {
		later = append(later, m.record(4))
	}
	agrees(t, r, later)
	return isHereditary(t, r, later)
}

func TestAnyRecords(t *testing.T) {
	answered := map[api.Errno]int{}
	for seed := range 3000 {
		answered[anyRecords(t, noise.Bytes(uint32(seed)*977+3, seed%200))]++
	}
	if answered[api.OK] < 500 || answered[api.ErrClash] < 500 {
		t.Errorf("%v: these records are too few", answered)
	}
}

// FuzzRecords goes over its seeds in an ordinary run, and on from them by go test -fuzz.
func FuzzRecords(f *testing.F) {
	f.Add([]byte(nil))
	for seed := range 10 {
		f.Add(noise.Bytes(uint32(seed)+1000, 20*seed))
	}
	f.Fuzz(func(t *testing.T, b []byte) { anyRecords(t, b) })
}

// R3

// roomy is l at the begin of a longer list, all of which is told, too.
func roomy[T any](l []T, more T) ([]T, []T) {
	room := append(slices.Clone(l), slices.Repeat([]T{more}, 8)...)
	return room[:len(l)], room
}

// spoil changes all of a list, and its room.
func spoil[T any](l []T, by T) {
	for i := range l[:cap(l)] {
		l[:cap(l)][i] = by
	}
}

var (
	spoiltPair = Pair{Key: "spoilt", Value: "spoilt", Dead: true}
	spoiltRead = Read{Scan: true, Key: "spoilt", To: "spoilu", Pairs: []Pair{{Key: "spoilt"}}}
)

// handed: reads of which some need not be changed at all to be the answer.
func handed() [][]Read {
	a, b := one("a", Pair{Key: "a", Value: "1"}), one("b")
	all := scan("a", "c", Pair{Key: "a", Value: "1"}, Pair{Key: "b", Value: "2"})
	return [][]Read{nil, {}, {a}, {a, b, all}, {a, a, b, a}, {all, all, a, all, a}, {b, b}}
}

func TestOwnTellsNewMemory(t *testing.T) {
	for _, plain := range handed() {
		var pairs [][]Pair
		for i := range plain {
			l, room := roomy(plain[i].Pairs, Pair{Key: "room"})
			plain[i].Pairs = l
			pairs = append(pairs, room)
		}
		reads, room := roomy(plain, Read{Key: "room"})
		was, wasPairs := deep([]Record{{Reads: room}})[0], deep([]Record{{Writes: slices.Concat(pairs...)}})[0]
		isAsBefore := func(what string) {
			t.Helper()
			if !sameRecord(Record{Reads: room}, was) || !slices.Equal(slices.Concat(pairs...), wasPairs.Writes) {
				t.Errorf("%s: what came in, or its room, was changed: %#v %#v", what, room, pairs)
			}
		}
		want := deep([]Record{{Reads: model{}.own(reading(reads...))}})[0].Reads
		first, second := certify.Own(reading(reads...)), certify.Own(reading(reads...))
		isAsBefore("Own")
		for _, x := range first {
			spoil(x.Pairs, spoiltPair)
		}
		spoil(first, spoiltRead)
		isAsBefore("behind a changed answer")
		if !slices.EqualFunc(second, want, sameRead) {
			t.Errorf("behind another changed answer: %#v, want %#v", second, want)
		}
		for _, l := range pairs {
			spoil(l, spoiltPair)
		}
		spoil(room, spoiltRead)
		if !slices.EqualFunc(second, want, sameRead) {
			t.Errorf("behind what was handed in was changed: %#v, want %#v", second, want)
		}
	}
}

// No two lists of one answer share any room, though two of what was handed in do.
func TestOwnTellsListsApart(t *testing.T) {
	shared := make([]Pair, 2, 16)
	shared[0], shared[1] = Pair{Key: "a"}, Pair{Key: "b"}
	reads := []Read{scan("a", "c", shared...), {Scan: true, Key: "a", To: "c", Pairs: shared}, {Scan: true, Key: "a", To: "c", Pairs: shared}, {Scan: true, Key: "a", To: "b", Pairs: shared[:1]}}
	for i := range reads {
		got := certify.Own(reading(reads...))
		spoil(got[i].Pairs, spoiltPair)
		for j := range got {
			if j != i && !sameRead(got[j], reads[j]) {
				t.Errorf("read %d is changed with read %d: %#v", j, i, got[j])
			}
		}
	}
}

// The other calls change nothing of what lies behind a list's end.
func TestRoomStays(t *testing.T) {
	writes, roomW := roomy([]Pair{{Key: "c"}, {Key: "a"}, {Key: "b", Dead: true}}, Pair{Key: "A"})
	reads, roomR := roomy([]Read{scan("b", "y"), one("c"), scan("a", "c"), one("c")}, one("A"))
	r := Record{Strict: true, Reads: reads, Writes: writes}
	later, roomL := roomy([]Record{wrote("z", "y"), r}, wrote("room"))
	all := append(slices.Clone(roomL), Record{Reads: roomR, Writes: roomW})
	stays(t, all, func() {
		if certify.Wrote(r, "A") || certify.Touches(r, scan("A", "B")) {
			t.Error("what lies behind the end of Writes was told as written")
		}
		if c := certify.Clash(r, later); c != 1 {
			t.Errorf("Clash: %d", c)
		}
		if s := certify.Stale(r, later); s != 1 {
			t.Errorf("Stale: %d", s)
		}
		isMay(t, r, later, api.ErrClash)
		isMay(t, r, later[:1], api.OK)
		if l := certify.Own(r); len(l) != 3 {
			t.Errorf("Own: %#v", l)
		}
	})
}

// R4

// What is told hangs on no map's order: of one record it is the same always.
func TestToldTheSameAlways(t *testing.T) {
	m := &maker{noise.Bytes(7, 4000)}
	var r Record
	for range 40 {
		r.Reads = append(r.Reads, m.record(9).Reads...)
	}
	want := model{}.own(r)
	for range 50 {
		isOwn(t, r.Reads, want...)
		endIfFailed(t)
	}
}
