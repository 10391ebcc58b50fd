package session_test

import (
	"slices"
	"testing"

	"indenture/api"
	"indenture/session"
)

// P15.3

func TestRecord(t *testing.T) {
	s := two(t)
	for _, strict := range []bool{false, true} {
		x := session.New(api.MaxSessions)
		begin(t, x, s, strict)
		gets(t, x, s, "d", "2", api.OK)
		write(t, x, put("z", "own"), api.OK)
		scans(t, x, s, "a", "c", put("a", "2"), put("b", ""))
		gets(t, x, s, "b", "", api.OK)
		write(t, x, drop("b"), api.OK)
		gets(t, x, s, "a", "2", api.OK)
		gets(t, x, s, "c", "", api.ErrNone)
		gets(t, x, s, "z", "own", api.OK)
		gets(t, x, s, "b", "", api.ErrNone)
		for range 3 {
			records(t, "in order", x, Record{
				Session: api.MaxSessions,
				Snap:    2,
				Strict:  strict,
				Reads:   []Read{one("d", put("d", "2")), scan("a", "c", put("a", "2"), put("b", "")), one("b", put("b", "")), one("a", put("a", "2")), one("c")},
				Writes:  []Pair{drop("b"), put("z", "own")},
			})
			is(t, "behind Record", x, true, 2, 9)
		}
	}
}

// A key that is read again is no other read, whatever lies between; a Scan is, however often.
func TestReadAgain(t *testing.T) {
	s := two(t)
	x := begun(t, s)
	all := scan("", most, put("a", "2"), put("b", ""), put("d", "2"))
	want := []Read{one("a", put("a", "2")), one("x"), all, all, one("b", put("b", "")), scan("a", "a"), all}
	for range 3 {
		gets(t, x, s, "a", "2", api.OK)
		gets(t, x, s, "x", "", api.ErrNone)
	}
	scans(t, x, s, "", most, all.Pairs...)
	scans(t, x, s, "", most, all.Pairs...)
	gets(t, x, s, "a", "2", api.OK)
	gets(t, x, s, "b", "", api.OK)
	scans(t, x, s, "a", "a")
	gets(t, x, s, "x", "", api.ErrNone)
	scans(t, x, s, "", most, all.Pairs...)
	gets(t, x, s, "b", "", api.OK)
	reads(t, "some of them again", x, want...)
	is(t, "some of them again", x, true, 2, 14)
	write(t, x, put("a", "own"), api.OK)
	gets(t, x, s, "a", "own", api.OK)
	write(t, x, drop("x"), api.OK)
	gets(t, x, s, "x", "", api.ErrNone)
	reads(t, "some of them written", x, want...)
}

// The first read of a key is the one that counts, also where another store has something else.
func TestFirstReadCounts(t *testing.T) {
	s, other := two(t), stored(t, nil, []Pair{put("a", "other"), put("c", "other")})
	x := begun(t, s)
	gets(t, x, s, "a", "2", api.OK)
	gets(t, x, s, "c", "", api.ErrNone)
	gets(t, x, other, "a", "other", api.OK)
	gets(t, x, other, "c", "other", api.OK)
	gets(t, x, other, "b", "", api.ErrNone)
	gets(t, x, s, "b", "", api.OK)
	reads(t, "of two stores", x, one("a", put("a", "2")), one("c"), one("b"))
}

// A key that a read that failed asked for is read by the one that does not.
func TestReadBehindOneThatFailed(t *testing.T) {
	s := two(t)
	x := begun(t, s)
	gets(t, x, stored(t), "a", "", api.ErrArg)
	gets(t, x, nil, "a", "", api.ErrMade)
	write(t, x, put("x", "own"), api.OK)
	gets(t, x, s, "x", "own", api.OK)
	scanFails(t, x, nil, "a", "b", api.ErrMade)
	gets(t, x, s, "a", "2", api.OK)
	reads(t, "behind those that failed", x, one("a", put("a", "2")))
}

// The end of a Scan and where it begins are no keys that were read, nor is a key that was read any Scan.
func TestScanIsNoReadOfItsEnds(t *testing.T) {
	s := two(t)
	x := begun(t, s)
	scans(t, x, s, "a", "d", put("a", "2"), put("b", ""))
	gets(t, x, s, "a", "2", api.OK)
	gets(t, x, s, "d", "2", api.OK)
	scans(t, x, s, "a", "d", put("a", "2"), put("b", ""))
	ad := scan("a", "d", put("a", "2"), put("b", ""))
	reads(t, "both", x, ad, one("a", put("a", "2")), one("d", put("d", "2")), ad)
}

// What one session does is nothing to another one, of the same id or of another.
func TestSessionsShareNothing(t *testing.T) {
	s := two(t)
	x, y, z := session.New(1), session.New(1), session.New(2)
	begin(t, x, s, false)
	begin(t, y, s, true)
	write(t, x, put("a", "x"), api.OK)
	gets(t, x, s, "d", "2", api.OK)
	gets(t, y, s, "a", "2", api.OK)
	isIdle(t, "another one", z)
	begin(t, z, s, false)
	write(t, z, drop("a"), api.OK)
	gets(t, x, s, "a", "x", api.OK)
	gets(t, z, s, "a", "", api.ErrNone)
	closes(t, "another one", z, true)
	records(t, "one", x, Record{Session: 1, Snap: 2, Reads: []Read{one("d", put("d", "2"))}, Writes: []Pair{put("a", "x")}})
	records(t, "another one", y, Record{Session: 1, Snap: 2, Strict: true, Reads: []Read{one("a", put("a", "2"))}})
	is(t, "one", x, true, 2, 3)
	is(t, "another one", y, true, 2, 1)
	isIdle(t, "a third one", z)
}

// R3

// spoil changes all of a list, and its room.
func spoil(l []Pair) {
	for i := range l[:cap(l)] {
		l[:cap(l)][i] = Pair{Key: "spoilt", Value: "spoilt", Dead: true}
	}
}

// spoilReads changes all of Reads, and their room, and all of their Pairs.
func spoilReads(l []Read) {
	for i := range l[:cap(l)] {
		spoil(l[:cap(l)][i].Pairs)
		l[:cap(l)][i] = Read{Scan: true, Key: "spoilt", To: "spoilt"}
	}
}

// much does something of all kinds, and tells what the Record is then.
func much(t *testing.T, x *session.Session) Record {
	t.Helper()
	s := two(t)
	begin(t, x, s, true)
	write(t, x, put("b", "own"), api.OK)
	write(t, x, drop("c"), api.OK)
	gets(t, x, s, "a", "2", api.OK)
	gets(t, x, s, "x", "", api.ErrNone)
	l, e := x.Scan(s, "a", "c")
	isErr(t, "Scan", e, api.OK)
	isList(t, "Scan", l, []Pair{put("a", "2"), put("b", "own")})
	spoil(l)
	l, _ = x.Scan(s, "c", most) // nothing of it is written but what is not there
	isList(t, "Scan", l, []Pair{put("d", "2")})
	spoil(l)
	return Record{
		Session: 1,
		Snap:    2,
		Strict:  true,
		Reads:   []Read{one("a", put("a", "2")), one("x"), scan("a", "c", put("a", "2"), put("b", "")), scan("c", most, put("d", "2"))},
		Writes:  []Pair{put("b", "own"), drop("c")},
	}
}

func TestRecordIsNewMemory(t *testing.T) {
	x := session.New(1)
	want := much(t, x)
	first, _ := x.Record()
	second, _ := x.Record()
	isRecord(t, "behind Scans that were spoilt", first, want)
	spoilReads(first.Reads)
	spoil(first.Writes)
	isRecord(t, "another one, behind one that was spoilt", second, want)
	records(t, "behind one that was spoilt", x, want)
	first, _ = x.Record()
	s := two(t)
	write(t, x, put("b", "later"), api.OK)
	write(t, x, put("aa", "later"), api.OK)
	gets(t, x, s, "d", "2", api.OK)
	scans(t, x, s, "", "a")
	isRecord(t, "behind what was done later", first, want)
	closes(t, "one", x, true)
	begin(t, x, s, false)
	gets(t, x, s, "b", "", api.OK)
	isRecord(t, "behind another transaction", first, want)
}

// The room behind one of an answer's lists is no other's, nor the session's.
func TestRoomOfARecord(t *testing.T) {
	x := session.New(1)
	want := much(t, x)
	r, _ := x.Record()
	_ = append(r.Reads, one("spoilt"))
	_ = append(r.Writes, put("spoilt", ""))
	for _, read := range r.Reads {
		_ = append(read.Pairs, put("spoilt", ""), put("spoilt", ""))
	}
	isRecord(t, "behind what was put into its room", r, want)
	records(t, "behind what was put into its room", x, want)
}

func TestScanIsNewMemory(t *testing.T) {
	s := two(t)
	all := []Pair{put("a", "2"), put("b", ""), put("d", "2")}
	for _, own := range [][]Pair{nil, {put("b", "own")}, {drop("a"), put("e", "own")}} {
		x := begun(t, s)
		for _, p := range own {
			write(t, x, p, api.OK)
		}
		first, _ := x.Scan(s, "", most)
		second, _ := x.Scan(s, "", most)
		want := slices.Clone(second)
		spoil(first)
		isList(t, "another Scan, behind one that was spoilt", second, want)
		scans(t, x, s, "", most, want...)
		write(t, x, put("a", "later"), api.OK)
		write(t, x, drop("b"), api.OK)
		install(t, s)
		isList(t, "a Scan, behind what was written later", second, want)
		r, _ := x.Record()
		spoilReads(r.Reads)
		isList(t, "a Scan, behind a Record that was spoilt", second, want)
		reads(t, "behind Scans that were spoilt", x, scan("", most, all...), scan("", most, all...), scan("", most, all...))
		if l, e := s.Scan("", most, 2, 9); e != api.OK || !slices.Equal(l, all) {
			t.Errorf("the store's, behind Scans that were spoilt: %#v %v", l, e)
		}
	}
}
