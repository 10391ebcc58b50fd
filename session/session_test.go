package session_test

import (
	"fmt"
	"math"
	"slices"
	"strings"
	"testing"

	"indenture/api"
	"indenture/session"
	"indenture/store"
)

type (
	Pair   = api.Pair
	Read   = api.Read
	Record = api.Record
)

func put(key, value string) Pair { return Pair{Key: key, Value: value} }

func drop(key string) Pair { return Pair{Key: key, Dead: true} }

func one(key string, pairs ...Pair) Read { return Read{Key: key, Pairs: pairs} }

func scan(from, to string, pairs ...Pair) Read {
	return Read{Scan: true, Key: from, To: to, Pairs: pairs}
}

// beyond is above all keys.
var beyond = strings.Repeat("\xff", api.MaxKey+1)

var (
	longKey   = strings.Repeat("k", api.MaxKey)
	longValue = strings.Repeat("v", api.MaxValue)
	most      = strings.Repeat("\xff", api.MaxKey) // the highest key, and the highest end of a scan
)

func isErr(t *testing.T, what string, got, want api.Errno) {
	t.Helper()
	if got != want {
		t.Errorf("%s: %v, want %v", what, got, want)
	}
}

func isList(t *testing.T, what string, got, want []Pair) {
	t.Helper()
	if !slices.Equal(got, want) {
		t.Errorf("%s: %#v, want %#v", what, got, want)
	}
}

func sameRead(x, y Read) bool {
	return x.Scan == y.Scan && x.Key == y.Key && x.To == y.To && slices.Equal(x.Pairs, y.Pairs)
}

func sameRecord(x, y Record) bool {
	return x.Session == y.Session && x.Snap == y.Snap && x.Strict == y.Strict &&
		slices.EqualFunc(x.Reads, y.Reads, sameRead) && slices.Equal(x.Writes, y.Writes)
}

func isRecord(t *testing.T, what string, got, want Record) {
	t.Helper()
	if !sameRecord(got, want) {
		t.Errorf("%s: %#v, want %#v", what, got, want)
	}
}

// records holds a session's Record against the one that it should be.
func records(t *testing.T, what string, x *session.Session, want Record) {
	t.Helper()
	got, ok := x.Record()
	isRecord(t, what, got, want)
	if !ok {
		t.Errorf("%s: no Record", what)
	}
}

// reads holds a Record's Reads alone against what they should be.
func reads(t *testing.T, what string, x *session.Session, want ...Read) {
	t.Helper()
	if r, ok := x.Record(); !ok || !slices.EqualFunc(r.Reads, want, sameRead) {
		t.Errorf("%s: Reads %#v %v, want %#v", what, r.Reads, ok, want)
	}
}

// is holds what a session tells of itself against what it should.
func is(t *testing.T, what string, x *session.Session, open bool, snap, ops int) {
	t.Helper()
	if x.Open() != open || x.Snap() != snap || x.Ops() != ops {
		t.Errorf("%s: Open %v, Snap %d, Ops %d, want %v, %d, %d", what, x.Open(), x.Snap(), x.Ops(), open, snap, ops)
	}
}

// isIdle holds a session, or what is none, against one without a transaction.
func isIdle(t *testing.T, what string, x *session.Session) {
	t.Helper()
	is(t, what, x, false, 0, 0)
	if r, ok := x.Record(); ok || !sameRecord(r, Record{}) {
		t.Errorf("%s: Record %#v %v", what, r, ok)
	}
}

func gets(t *testing.T, x *session.Session, s *store.Store, key, want string, wantErr api.Errno) {
	t.Helper()
	if got, e := x.Get(s, key); got != want || e != wantErr {
		t.Errorf("Get(%q): %q %v, want %q %v", key, got, e, want, wantErr)
	}
}

func scans(t *testing.T, x *session.Session, s *store.Store, from, to string, want ...Pair) {
	t.Helper()
	got, e := x.Scan(s, from, to)
	if e != api.OK || !slices.Equal(got, want) {
		t.Errorf("Scan(%q, %q): %#v %v, want %#v", from, to, got, e, want)
	}
}

func scanFails(t *testing.T, x *session.Session, s *store.Store, from, to string, want api.Errno) {
	t.Helper()
	if got, e := x.Scan(s, from, to); len(got) > 0 || e != want {
		t.Errorf("Scan(%q, %q): %#v %v, want %v", from, to, got, e, want)
	}
}

// write has x have p, by Put or by Drop.
func write(t *testing.T, x *session.Session, p Pair, want api.Errno) {
	t.Helper()
	if p.Dead {
		isErr(t, fmt.Sprintf("Drop(%q)", p.Key), x.Drop(p.Key), want)
	} else {
		isErr(t, fmt.Sprintf("Put(%q, %q)", p.Key, p.Value), x.Put(p.Key, p.Value), want)
	}
}

// stored tells a store with a record of each list.
func stored(t *testing.T, lists ...[]Pair) *store.Store {
	t.Helper()
	s := store.New()
	for _, l := range lists {
		install(t, s, l...)
	}
	return s
}

func install(t *testing.T, s *store.Store, l ...Pair) {
	t.Helper()
	if e := s.Install(s.Last()+1, l); e != api.OK {
		t.Fatalf("Install: %v", e)
	}
}

func collect(t *testing.T, s *store.Store, snap int) {
	t.Helper()
	if e := s.Collect(snap); e != api.OK {
		t.Fatalf("Collect: %v", e)
	}
}

// begun tells session 1 with a transaction at what s has now.
func begun(t *testing.T, s *store.Store) *session.Session {
	t.Helper()
	x := session.New(1)
	begin(t, x, s, false)
	return x
}

func begin(t *testing.T, x *session.Session, s *store.Store, strict bool) {
	t.Helper()
	if e := x.Begin(s, strict); e != api.OK {
		t.Fatalf("Begin: %v", e)
	}
}

func closes(t *testing.T, what string, x *session.Session, want bool) {
	t.Helper()
	if x.Close() != want {
		t.Errorf("%s: Close %v, want %v", what, !want, want)
	}
}

// two tells a store with two records: a changes, b and d stay, c goes.
func two(t *testing.T) *store.Store {
	t.Helper()
	return stored(t, []Pair{put("a", "1"), put("b", ""), put("c", "1")}, []Pair{put("a", "2"), drop("c"), put("d", "2")})
}

// The chapter's example.
func TestExample(t *testing.T) {
	s := store.New()
	x := begun(t, s)
	isErr(t, "Put", x.Put("a", "1"), api.OK)
	gets(t, x, s, "a", "1", api.OK)
	reads(t, "behind Get of what was put", x)
	gets(t, x, s, "b", "", api.ErrNone)
	records(t, "behind both", x, Record{Session: 1, Reads: []Read{one("b")}, Writes: []Pair{put("a", "1")}})
}

// P15.1

func TestNew(t *testing.T) {
	for id := 1; id <= api.MaxSessions; id++ {
		x := session.New(id)
		if x == nil {
			t.Fatalf("New(%d): nil", id)
		}
		isIdle(t, "a new one", x)
		begin(t, x, store.New(), false)
		records(t, "a new one's first", x, Record{Session: id})
	}
	for _, id := range []int{0, -1, -8, api.MaxSessions + 1, api.MaxSessions * 2, 1 << 8, 1<<8 + 1, 1<<16 + 1, 1<<32 + 1, -1 << 32, 1 - 1<<32, math.MaxInt, math.MinInt, math.MinInt + 1} {
		if session.New(id) != nil {
			t.Errorf("New(%d): a session", id)
		}
	}
}

func TestBegin(t *testing.T) {
	s := store.New()
	for last := range 5 {
		for _, strict := range []bool{true, false, true} {
			x := session.New(3)
			isErr(t, "Begin", x.Begin(s, strict), api.OK)
			is(t, "behind Begin", x, true, last, 0)
			records(t, "behind Begin", x, Record{Session: 3, Snap: last, Strict: strict})
		}
		install(t, s, put("a", "1"))
	}
	collect(t, s, 5)
	x := session.New(3)
	isErr(t, "Begin where all is collected", x.Begin(s, false), api.OK)
	is(t, "behind Begin where all is collected", x, true, 5, 0)
}

// The snapshot stays, whatever is installed, and collected, behind it.
func TestSnapStays(t *testing.T) {
	s := two(t)
	x := begun(t, s)
	for range 3 {
		install(t, s, put("a", "later"))
		is(t, "behind Install", x, true, 2, 0)
		collect(t, s, s.Last())
		is(t, "behind Collect", x, true, 2, 0)
	}
	records(t, "behind all", x, Record{Session: 1, Snap: 2})
}

func TestBeginWhereOneIs(t *testing.T) {
	s := two(t)
	for _, strict := range []bool{false, true} {
		x := session.New(2)
		begin(t, x, s, strict)
		write(t, x, put("a", "own"), api.OK)
		gets(t, x, s, "d", "2", api.OK)
		want := Record{Session: 2, Snap: 2, Strict: strict, Reads: []Read{one("d", put("d", "2"))}, Writes: []Pair{put("a", "own")}}
		for _, other := range []*store.Store{s, two(t), store.New(), stored(t, nil, nil, nil), nil, {}} {
			for _, again := range []bool{false, true} {
				isErr(t, "Begin again", x.Begin(other, again), api.ErrState)
				is(t, "behind Begin again", x, true, 2, 2)
				records(t, "behind Begin again", x, want)
			}
		}
		gets(t, x, s, "a", "own", api.OK)
	}
}

func TestBeginOfNoStore(t *testing.T) {
	for name, s := range map[string]*store.Store{"nil": nil, "zero": {}} {
		x := session.New(1)
		for range 2 {
			isErr(t, name+": Begin", x.Begin(s, false), api.ErrMade)
			isErr(t, name+": strict Begin", x.Begin(s, true), api.ErrMade)
			isIdle(t, name+": behind Begin", x)
			isErr(t, name+": Put behind Begin", x.Put("a", "1"), api.ErrState)
		}
		isErr(t, name+": Begin of a store behind it", x.Begin(two(t), true), api.OK)
		records(t, name+": behind Begin of a store", x, Record{Session: 1, Snap: 2, Strict: true})
	}
}

// Begin looks at its store, and changes nothing of it.
func TestBeginLeavesTheStore(t *testing.T) {
	s := two(t)
	collect(t, s, 1)
	for id := 1; id <= api.MaxSessions; id++ {
		begin(t, session.New(id), s, id%2 == 0)
	}
	if s.Last() != 2 || s.Floor() != 1 || s.Versions() != 6 {
		t.Errorf("Last %d, Floor %d, Versions %d", s.Last(), s.Floor(), s.Versions())
	}
}

func TestClose(t *testing.T) {
	s := two(t)
	x := session.New(5)
	closes(t, "a new one", x, false)
	isIdle(t, "behind Close of a new one", x)
	for round := range 3 {
		begin(t, x, s, round == 0)
		write(t, x, put("a", "1"), api.OK)
		is(t, "with a transaction", x, true, 2+round, 1)
		closes(t, "with a transaction", x, true)
		isIdle(t, "closed", x)
		for range 2 {
			closes(t, "closed", x, false)
			isIdle(t, "closed again", x)
		}
		install(t, s, put("b", "1"))
	}
}

// What a transaction read, wrote and counted is nothing to the next one.
func TestBeginStartsAnew(t *testing.T) {
	s := two(t)
	x := session.New(6)
	begin(t, x, s, true)
	for i := range api.MaxOps - 2 {
		write(t, x, put(fmt.Sprint("w", i), "1"), api.OK)
	}
	gets(t, x, s, "a", "2", api.OK)
	scans(t, x, s, "a", "c", put("a", "2"), put("b", ""))
	isErr(t, "one act too many", x.Put("a", "1"), api.ErrMany)
	closes(t, "full", x, true)
	install(t, s, put("a", "3"))
	begin(t, x, s, false)
	is(t, "the next one", x, true, 3, 0)
	records(t, "the next one", x, Record{Session: 6, Snap: 3})
	gets(t, x, s, "w0", "", api.ErrNone)
	gets(t, x, s, "a", "3", api.OK)
	for i := range api.MaxOps - 2 {
		write(t, x, drop(fmt.Sprint("other ", i)), api.OK)
	}
	isErr(t, "one act too many of the next one", x.Put("a", "1"), api.ErrMany)
	reads(t, "the next one's", x, one("w0"), one("a", put("a", "3")))
}

// R5

func TestNoCallMade(t *testing.T) {
	s := two(t)
	for name, x := range map[string]*session.Session{"nil": nil, "zero": {}, "New of none": session.New(0)} {
		for range 2 { // again, behind calls that change nothing
			for _, at := range []*store.Store{s, nil, {}} {
				isErr(t, name+": Begin", x.Begin(at, false), api.ErrMade)
				isErr(t, name+": strict Begin", x.Begin(at, true), api.ErrMade)
				for _, key := range []string{"a", "", longKey + "k", beyond} {
					gets(t, x, at, key, "", api.ErrMade)
					scanFails(t, x, at, key, "b", api.ErrMade)
					scanFails(t, x, at, "", key, api.ErrMade)
				}
			}
			for _, p := range []Pair{put("a", "1"), put("", ""), put("a", longValue+"v"), put(beyond, ""), drop("a"), drop(""), drop(beyond)} {
				write(t, x, p, api.ErrMade)
			}
			closes(t, name, x, false)
			isIdle(t, name, x)
		}
	}
}
