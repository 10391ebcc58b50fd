package session_test

import (
	"fmt"
	"slices"
	"strings"
	"testing"

	"indenture/api"
	"indenture/session"
	"indenture/store"
)

// act is one of Get, Put, Drop and Scan, and what it answers of two's store, if it is done and its key was not written.
type act struct {
	name string
	do   func(x *session.Session, s *store.Store) api.Errno
	want api.Errno
	gets string // the key; of another act than Get none
}

func get(key string, want api.Errno) act {
	return act{fmt.Sprintf("Get(%.9q)", key), func(x *session.Session, s *store.Store) api.Errno {
		v, e := x.Get(s, key)
		return orFar(e, v == "")
	}, want, key}
}

func scanning(from, to string, want api.Errno) act {
	return act{fmt.Sprintf("Scan(%.9q, %.9q)", from, to), func(x *session.Session, s *store.Store) api.Errno {
		l, e := x.Scan(s, from, to)
		return orFar(e, len(l) == 0)
	}, want, ""}
}

// orFar tells an Errno, and a far one of an error beside which there is something.
func orFar(e api.Errno, isNothing bool) api.Errno {
	if e != api.OK && !isNothing {
		return -1
	}
	return e
}

func putting(key, value string, want api.Errno) act {
	return act{fmt.Sprintf("Put(%.9q, %.9q)", key, value), func(x *session.Session, _ *store.Store) api.Errno {
		return x.Put(key, value)
	}, want, ""}
}

func dropping(key string, want api.Errno) act {
	return act{fmt.Sprintf("Drop(%.9q)", key), func(x *session.Session, _ *store.Store) api.Errno {
		return x.Drop(key)
	}, want, ""}
}

// acts: of all four kinds, of keys of all lengths.
func acts() []act {
	return []act{
		get("a", api.OK), get("b", api.OK), get("c", api.ErrNone), get("x", api.ErrNone), get(longKey, api.ErrNone),
		get("", api.ErrArg), get(longKey+"k", api.ErrArg), get(strings.Repeat("k", 1<<16), api.ErrArg),
		putting("a", "1", api.OK), putting(longKey, longValue, api.OK),
		putting("", "1", api.ErrArg), putting(longKey+"k", longValue+"v", api.ErrArg), putting("a", longValue+"v", api.ErrLong),
		dropping("a", api.OK), dropping("x", api.OK), dropping(longKey, api.OK),
		dropping("", api.ErrArg), dropping(longKey+"k", api.ErrArg),
		scanning("", most, api.OK), scanning("", "", api.OK), scanning("d", "a", api.OK), scanning(longKey, longKey, api.OK),
		scanning(longKey+"k", "z", api.ErrArg), scanning("", longKey+"k", api.ErrArg), scanning(beyond, beyond, api.ErrArg),
	}
}

// P15.2

func TestActsWithoutATransaction(t *testing.T) {
	s := two(t)
	fresh, closed := session.New(1), begun(t, s)
	closes(t, "one", closed, true)
	for name, x := range map[string]*session.Session{"a new one": fresh, "closed": closed} {
		for _, a := range acts() {
			for _, at := range []*store.Store{s, nil, {}} {
				isErr(t, name+": "+a.name, a.do(x, at), api.ErrState)
				isIdle(t, name+": "+a.name, x)
			}
		}
		begin(t, x, s, false)
		records(t, name+", with a transaction", x, Record{Session: 1, Snap: 2})
		is(t, name+", with a transaction", x, true, 2, 0)
	}
}

// Each act counts, whatever it answers, up to MaxOps; there is a last one, and none behind it.
func TestEachActCounts(t *testing.T) {
	s := two(t)
	for _, a := range acts() {
		for _, last := range acts() {
			x := begun(t, s)
			for i := range api.MaxOps - 1 {
				isErr(t, a.name, a.do(x, s), wantOf(x, a))
				is(t, a.name, x, true, 2, i+1)
			}
			isErr(t, last.name+" as the last one", last.do(x, s), wantOf(x, last))
			is(t, last.name+" as the last one", x, true, 2, api.MaxOps)
		}
	}
}

// wantOf tells what an act answers: of a key that was written, what was written.
func wantOf(x *session.Session, a act) api.Errno {
	r, _ := x.Record()
	for _, p := range r.Writes {
		if p.Key == a.gets && p.Dead {
			return api.ErrNone
		}
		if p.Key == a.gets {
			return api.OK
		}
	}
	return a.want
}

func TestActsBehindMaxOps(t *testing.T) {
	s := two(t)
	x := begun(t, s)
	for i := range api.MaxOps {
		a := acts()[i%len(acts())]
		isErr(t, a.name, a.do(x, s), wantOf(x, a))
	}
	want, _ := x.Record()
	for range 3 {
		for _, a := range acts() {
			for _, at := range []*store.Store{s, nil, {}} {
				isErr(t, a.name+" behind MaxOps", a.do(x, at), api.ErrMany)
				is(t, a.name+" behind MaxOps", x, true, 2, api.MaxOps)
			}
		}
		records(t, "behind MaxOps", x, want)
		isErr(t, "Begin behind MaxOps", x.Begin(s, false), api.ErrState)
	}
}

// As many keys may be written as acts may be done.
func TestMaxOpsOfWrites(t *testing.T) {
	for _, dead := range []bool{false, true} {
		x := begun(t, store.New())
		var want []Pair
		for i := range api.MaxOps {
			p := Pair{Key: fmt.Sprintf("key %03d", i), Dead: dead}
			want = append(want, p)
			write(t, x, p, api.OK)
		}
		write(t, x, put("key 000", "again"), api.ErrMany)
		write(t, x, drop("key 000"), api.ErrMany)
		records(t, "MaxOps of writes", x, Record{Session: 1, Writes: want})
	}
}

func TestWritesAreABuffers(t *testing.T) {
	s := two(t)
	x := begun(t, s)
	for _, p := range []Pair{put("b", "1"), drop("a"), put("c", ""), drop("x"), put("b", "2"), put("a", "3"), drop("c"), put(longKey, longValue), drop("\x00"), put("\xff", "\xff\x00")} {
		write(t, x, p, api.OK)
	}
	want := Record{Session: 1, Snap: 2, Writes: []Pair{drop("\x00"), put("a", "3"), put("b", "2"), drop("c"), put(longKey, longValue), drop("x"), put("\xff", "\xff\x00")}}
	records(t, "what was written", x, want)
	for _, p := range []Pair{put("", "x"), put(longKey+"k", "x"), drop(""), drop(longKey + "k"), put("", longValue+"v")} {
		write(t, x, p, api.ErrArg)
	}
	write(t, x, put("a", longValue+"v"), api.ErrLong)
	records(t, "behind what was refused", x, want)
	gets(t, x, s, "a", "3", api.OK)
	is(t, "all of them", x, true, 2, 17)
}

func TestGetOfTheStore(t *testing.T) {
	s := two(t)
	install(t, s, put("\x00", "0"), put(longKey, "l"), put("\xff\xfe", "\xff"))
	x := begun(t, s)
	install(t, s, put("a", "later"), drop("b"), put("c", "later"), put("e", "later"))
	for key, want := range map[string]string{"a": "2", "b": "", "d": "2", longKey: "l", "\x00": "0", "\xff\xfe": "\xff"} {
		gets(t, x, s, key, want, api.OK)
	}
	for _, key := range []string{"c", "e", "A", "aa", "a\x00", "x", longKey[1:], most} {
		gets(t, x, s, key, "", api.ErrNone)
	}
	is(t, "behind all", x, true, 3, 14)
}

func TestGetOfNoKey(t *testing.T) {
	s := two(t)
	x := begun(t, s)
	for _, key := range []string{"", longKey + "k", beyond, strings.Repeat("a", 1<<20)} {
		for _, at := range []*store.Store{s, nil, {}} {
			gets(t, x, at, key, "", api.ErrArg)
		}
	}
	collect(t, s, 2)
	install(t, s)
	collect(t, s, 3)
	gets(t, x, s, "", "", api.ErrArg)
	gets(t, x, s, beyond, "", api.ErrArg)
	records(t, "behind them", x, Record{Session: 1, Snap: 2})
	is(t, "behind them", x, true, 2, 14)
}

// What was written is told without the store, and is no read.
func TestGetOfWhatWasWritten(t *testing.T) {
	s := two(t)
	x := begun(t, s)
	for _, at := range []*store.Store{s, store.New(), nil, {}} {
		for _, key := range []string{"a", "c", "x", longKey} {
			write(t, x, put(key, "own"), api.OK)
			gets(t, x, at, key, "own", api.OK)
			write(t, x, drop(key), api.OK)
			gets(t, x, at, key, "", api.ErrNone)
		}
		write(t, x, put("a", ""), api.OK)
		gets(t, x, at, "a", "", api.OK)
		reads(t, "what was written", x)
		closes(t, "one", x, true)
		begin(t, x, s, false)
	}
	gets(t, x, s, "a", "2", api.OK)
	write(t, x, put("a", "own"), api.OK)
	gets(t, x, s, "a", "own", api.OK)
	reads(t, "what was read ahead of being written", x, one("a", put("a", "2")))
}

// A store of which the snapshot is gone, or is not there yet, or that no call made, says so; that is no read.
func TestOtherErrorsOfTheStore(t *testing.T) {
	s := two(t)
	x := begun(t, s)
	gets(t, x, s, "d", "2", api.OK)
	install(t, s, put("z", "3"))
	collect(t, s, 2)
	gets(t, x, s, "a", "2", api.OK)
	collect(t, s, 3)
	for _, c := range []struct {
		s    *store.Store
		want api.Errno
	}{
		{s, api.ErrGone},
		{store.New(), api.ErrArg},
		{stored(t, []Pair{put("a", "1")}), api.ErrArg},
		{nil, api.ErrMade},
		{&store.Store{}, api.ErrMade},
	} {
		for _, key := range []string{"a", "d", "none", longKey} {
			gets(t, x, c.s, key, "", c.want)
		}
		scanFails(t, x, c.s, "", most, c.want)
		scanFails(t, x, c.s, "b", "a", c.want)
		scanFails(t, x, c.s, "", longKey+"k", api.ErrArg)
		scanFails(t, x, c.s, longKey+"k", "", api.ErrArg)
		gets(t, x, c.s, "", "", api.ErrArg)
		reads(t, "behind "+c.want.Error(), x, one("d", put("d", "2")), one("a", put("a", "2")))
	}
	// Another store of which the snapshot is there is as good as that of Begin.
	other := stored(t, []Pair{put("a", "other")}, nil, []Pair{put("e", "3")})
	gets(t, x, other, "a", "other", api.OK)
	gets(t, x, other, "e", "", api.ErrNone)
	scans(t, x, other, "", most, put("a", "other"))
	reads(t, "of another store", x, one("d", put("d", "2")), one("a", put("a", "2")), one("e"), scan("", most, put("a", "other")))
}

// An act that a store answers with an error counts as any other.
func TestErrorsOfTheStoreCount(t *testing.T) {
	gone, less := two(t), store.New()
	x := begun(t, gone)
	install(t, gone)
	collect(t, gone, 3)
	done := 0
	for _, c := range []struct {
		s    *store.Store
		want api.Errno
	}{{gone, api.ErrGone}, {less, api.ErrArg}} {
		for range 10 {
			gets(t, x, c.s, "a", "", c.want)
			scanFails(t, x, c.s, "", most, c.want)
			done += 2
			is(t, "behind "+c.want.Error(), x, true, 2, done)
		}
	}
}

func TestScanOfTheStore(t *testing.T) {
	s := two(t)
	x := begun(t, s)
	install(t, s, put("a", "later"), drop("b"), put("c", "later"))
	a, b, d := put("a", "2"), put("b", ""), put("d", "2")
	scans(t, x, s, "", most, a, b, d)
	scans(t, x, s, "a", "d", a, b)
	scans(t, x, s, "a\x00", "d\x00", b, d)
	scans(t, x, s, "c", "d")
	scans(t, x, s, "b", "b")
	scans(t, x, s, "d", "a")
	scans(t, x, s, "", "")
	scans(t, x, s, longKey, most)
	scans(t, x, s, "", longKey, a, b, d)
	reads(t, "of a range, each", x, scan("", most, a, b, d), scan("a", "d", a, b), scan("a\x00", "d\x00", b, d), scan("c", "d"), scan("b", "b"), scan("d", "a"), scan("", ""), scan(longKey, most), scan("", longKey, a, b, d))
	is(t, "behind all", x, true, 2, 9)
}

// What is told is under what was written; what is read is not.
func TestScanUnderWhatWasWritten(t *testing.T) {
	s := two(t)
	x := begun(t, s)
	a, b, d := put("a", "2"), put("b", ""), put("d", "2")
	for _, p := range []Pair{put("c", "own"), drop("b"), put("d", "own"), drop("x"), put("z", "own"), put("0", "own")} {
		write(t, x, p, api.OK)
	}
	scans(t, x, s, "", most, put("0", "own"), a, put("c", "own"), put("d", "own"), put("z", "own"))
	scans(t, x, s, "a", "d", a, put("c", "own"))
	scans(t, x, s, "b", "c")
	scans(t, x, s, "c", "d", put("c", "own"))
	scans(t, x, s, "d", "z", put("d", "own"))
	scans(t, x, s, "z", "a")
	reads(t, "what was there", x, scan("", most, a, b, d), scan("a", "d", a, b), scan("b", "c", b), scan("c", "d"), scan("d", "z", d), scan("z", "a"))
}

func TestScanOfNoRange(t *testing.T) {
	s := two(t)
	x := begun(t, s)
	for _, long := range []string{longKey + "k", beyond, strings.Repeat("a", 1<<20)} {
		for _, key := range []string{"", "a", longKey, long} {
			scanFails(t, x, s, long, key, api.ErrArg)
			scanFails(t, x, s, key, long, api.ErrArg)
		}
	}
	records(t, "behind them", x, Record{Session: 1, Snap: 2})
	is(t, "behind them", x, true, 2, 24)
}

// numbered tells n pairs, by keys.
func numbered(n int) []Pair {
	var l []Pair
	for i := range n {
		l = append(l, put(fmt.Sprintf("key %05d", i), fmt.Sprint(i)))
	}
	return l
}

func TestScanOfMaxScan(t *testing.T) {
	for _, n := range []int{api.MaxScan - 1, api.MaxScan, api.MaxScan + 1, api.MaxScan + 2, 2 * api.MaxScan, 20 * api.MaxScan} {
		l := numbered(n)
		s := stored(t, l)
		x := begun(t, s)
		install(t, s, numbered(21*api.MaxScan)...)
		if n > api.MaxScan {
			scanFails(t, x, s, "", most, api.ErrMany)
			scanFails(t, x, s, "key", l[api.MaxScan].Key+"\x00", api.ErrMany)
			scanFails(t, x, s, l[n-api.MaxScan-1].Key, most, api.ErrMany)
			reads(t, "behind too many", x)
			scans(t, x, s, "", l[api.MaxScan].Key, l[:api.MaxScan]...)
			scans(t, x, s, l[n-api.MaxScan].Key, most, l[n-api.MaxScan:]...)
			reads(t, "just as many", x, scan("", l[api.MaxScan].Key, l[:api.MaxScan]...), scan(l[n-api.MaxScan].Key, most, l[n-api.MaxScan:]...))
		} else {
			scans(t, x, s, "", most, l...)
			reads(t, "not too many", x, scan("", most, l...))
		}
	}
}

// A Scan of too many is not refused by the first three errors, so it counts, though what it answers has the third one's name.
func TestScanOfTooManyCounts(t *testing.T) {
	s := stored(t, numbered(api.MaxScan+1))
	x := begun(t, s)
	for i := range api.MaxOps {
		scanFails(t, x, s, "", most, api.ErrMany)
		is(t, "behind too many", x, true, 1, i+1)
	}
	isErr(t, "Put behind MaxOps", x.Put("a", "1"), api.ErrMany)
}

// An act to which a store is handed that no call made is not refused by the first three errors, either.
func TestActsOfNoStoreCount(t *testing.T) {
	x := begun(t, store.New())
	for i := range api.MaxOps / 4 {
		for _, s := range []*store.Store{nil, {}} {
			gets(t, x, s, "a", "", api.ErrMade)
			scanFails(t, x, s, "a", "b", api.ErrMade)
		}
		is(t, "behind acts of no store", x, true, 0, 4*i+4)
	}
	isErr(t, "Put behind MaxOps", x.Put("a", "1"), api.ErrMany)
}

// What was written is neither what makes a Scan too long nor what makes it short enough; no more than MaxScan are told.
func TestScanOfMaxScanByOwnWrites(t *testing.T) {
	l := numbered(api.MaxScan)
	s := stored(t, l)
	x := begun(t, s)
	write(t, x, put("a", "own"), api.OK)
	scans(t, x, s, "", most, slices.Concat([]Pair{put("a", "own")}, l[:api.MaxScan-1])...)
	write(t, x, put("z", "own"), api.OK)
	scans(t, x, s, "", most, slices.Concat([]Pair{put("a", "own")}, l[:api.MaxScan-1])...)
	write(t, x, drop(l[7].Key), api.OK)
	scans(t, x, s, "", most, slices.Concat([]Pair{put("a", "own")}, l[:7], l[8:])...)
	write(t, x, drop("a"), api.OK)
	scans(t, x, s, "", most, slices.Concat(l[:7], l[8:], []Pair{put("z", "own")})...)
	reads(t, "what was there", x, slices.Repeat([]Read{scan("", most, l...)}, 4)...)

	more := numbered(api.MaxScan + 1)
	s = stored(t, more)
	x = begun(t, s)
	for _, p := range more[:9] {
		write(t, x, drop(p.Key), api.OK)
	}
	scanFails(t, x, s, "", most, api.ErrMany)
	scans(t, x, s, more[1].Key, most, more[9:]...)

	few := numbered(api.MaxScan - 30)
	s = stored(t, few)
	x = begun(t, s)
	var own []Pair
	for i := range 50 {
		own = append(own, put(fmt.Sprintf("z%02d", i), "own"))
		write(t, x, own[i], api.OK)
	}
	scans(t, x, s, "", most, slices.Concat(few, own[:30])...)
	scans(t, x, s, few[20].Key, most, slices.Concat(few[20:], own)...)
	scans(t, x, s, few[19].Key, most, slices.Concat(few[19:], own[:49])...)
}
