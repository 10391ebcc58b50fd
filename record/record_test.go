package record_test

import (
	"bytes"
	"crypto/sha256"
	"fmt"
	"math"
	"slices"
	"strings"
	"testing"

	"indenture/api"
	"indenture/record"
)

type (
	Pair   = api.Pair
	Read   = api.Read
	Record = api.Record
)

const greatestSnap = 1 << 40

func put(key, value string) Pair { return Pair{Key: key, Value: value} }

func drop(key string) Pair { return Pair{Key: key, Dead: true} }

func one(key string, pairs ...Pair) Read { return Read{Key: key, Pairs: pairs} }

func scan(from, to string, pairs ...Pair) Read {
	return Read{Scan: true, Key: from, To: to, Pairs: pairs}
}

// reading and writing tell records that are Good, if what is handed in may be there.
func reading(l ...Read) Record { return Record{Session: 1, Reads: l} }

func writing(l ...Pair) Record { return Record{Session: 1, Writes: l} }

func text(n int) string { return strings.Repeat("k", n) }

// key tells the i-th of many keys that rise.
func key(i int) string { return fmt.Sprintf("%04d", i) }

func pairs(n int) []Pair {
	var l []Pair
	for i := range n {
		l = append(l, put(key(i), "v"))
	}
	return l
}

func ones(n int) []Read {
	var l []Read
	for i := range n {
		l = append(l, one(key(i)))
	}
	return l
}

func sameRead(x, y Read) bool {
	return x.Scan == y.Scan && x.Key == y.Key && x.To == y.To && slices.Equal(x.Pairs, y.Pairs)
}

func sameRecord(x, y Record) bool {
	return x.Session == y.Session && x.Snap == y.Snap && x.Strict == y.Strict &&
		slices.EqualFunc(x.Reads, y.Reads, sameRead) && slices.Equal(x.Writes, y.Writes)
}

// deep tells a record that shares nothing with r.
func deep(r Record) Record {
	r.Reads, r.Writes = append([]Read(nil), r.Reads...), append([]Pair(nil), r.Writes...)
	for i := range r.Reads {
		r.Reads[i].Pairs = append([]Pair(nil), r.Reads[i].Pairs...)
	}
	return r
}

// brief is as much of a thing as a failed test tells of it: records may be long.
func brief(x any) string {
	const most = 500
	s := fmt.Sprintf("%+v", x)
	if len(s) > most {
		return s[:most] + " .."
	}
	return s
}

// kind is what a record is by the chapter.
type kind int

const (
	bad  kind = iota
	long      // Good but for how many bytes it has
	good
)

func (k kind) String() string { return [...]string{"bad", "long", "good"}[k] }

// is holds all that is told of one record against the kind that it is, and against the model.
func is(t *testing.T, what string, r Record, want kind) {
	t.Helper()
	if m := (model{}).kind(r); m != want {
		t.Errorf("%s: the model says %v, want %v", what, m, want)
	}
	was := deep(r)
	if got := record.Good(r); got != (want == good) {
		t.Errorf("%s: Good is %v, want a record that is %v", what, got, want)
	}
	var all []byte
	if want != bad {
		all = model{}.bytes(r)
	}
	got := record.Bytes(r)
	if !bytes.Equal(got, all) {
		t.Errorf("%s: Bytes are %s, want %s", what, brief(got), brief(all))
	}
	if got, want := record.Leaf(r), leaf(all); got != want {
		t.Errorf("%s: Leaf is %x, want %x", what, got, want)
	}
	if want == good {
		reads(t, what, got, r, api.OK)
	} else {
		reads(t, what, got, Record{}, api.ErrBad)
	}
	// Bytes that say what r does, whatever it is, are those of a Good one, or none.
	isRead(t, what, model{}.bytes(r))
	if !sameRecord(r, was) {
		t.Errorf("%s: what came in was changed: %s, was %s", what, brief(r), brief(was))
	}
}

func leaf(b []byte) api.Hash { return sha256.Sum256(append([]byte{0}, b...)) }

// reads holds Read of b against what it should tell.
func reads(t *testing.T, what string, b []byte, want Record, fault api.Errno) {
	t.Helper()
	was := bytes.Clone(b)
	got, e := record.Read(b)
	if !sameRecord(got, want) || e != fault {
		t.Errorf("%s: Read of %s: %s %v, want %s %v", what, brief(b), brief(got), e, brief(want), fault)
	}
	if !bytes.Equal(b, was) {
		t.Errorf("%s: Read changed what came in: %s, was %s", what, brief(b), brief(was))
	}
}

// isRead holds Read of any bytes against the model.
func isRead(t *testing.T, what string, b []byte) api.Errno {
	t.Helper()
	want, e := model{}.read(b)
	reads(t, what, b, want, e)
	return e
}

func endIfFailed(t *testing.T) {
	t.Helper()
	if t.Failed() {
		t.FailNow()
	}
}

// P16.1

func TestNothing(t *testing.T) {
	is(t, "a zero record", Record{}, bad)
	is(t, "a session's alone", Record{Session: 1}, good)
	is(t, "empty lists", Record{Session: 1, Reads: []Read{}, Writes: []Pair{}}, good)
	is(t, "a list that is empty within", reading(Read{Key: "a", Pairs: []Pair{}}, Read{Scan: true, Pairs: []Pair{}}), good)
}

func TestSession(t *testing.T) {
	for id := -2; id <= api.MaxSessions+2; id++ {
		want := bad
		if id >= 1 && id <= api.MaxSessions {
			want = good
		}
		is(t, fmt.Sprint("session ", id), Record{Session: id, Writes: []Pair{put("a", "1")}}, want)
		is(t, fmt.Sprint("strict session ", id), Record{Session: id, Strict: true}, want)
	}
	for _, id := range []int{math.MinInt, -1 << 32, 1 << 8, 1<<8 + 1, 1<<32 + 1, math.MaxInt} {
		is(t, fmt.Sprint("session ", id), Record{Session: id}, bad)
	}
}

func TestSnap(t *testing.T) {
	for _, snap := range []int{0, 1, 2, 247, 248, 255, 256, 65535, 65536, 1<<32 - 1, 1 << 32, greatestSnap - 1, greatestSnap} {
		is(t, fmt.Sprint("snap ", snap), Record{Session: 1, Snap: snap}, good)
	}
	for _, snap := range []int{-1, -2, math.MinInt, greatestSnap + 1, greatestSnap * 2, 1 << 56, math.MaxInt} {
		is(t, fmt.Sprint("snap ", snap), Record{Session: 1, Snap: snap}, bad)
	}
}

func TestHowManyReads(t *testing.T) {
	for _, n := range []int{0, 1, 2, api.MaxOps - 1, api.MaxOps, api.MaxOps + 1, 247, 248, 300} {
		want := good
		if n > api.MaxOps {
			want = bad
		}
		is(t, fmt.Sprint(n, " reads"), reading(ones(n)...), want)
		is(t, fmt.Sprint(n, " scans"), reading(slices.Repeat([]Read{scan("a", "b")}, n)...), want)
	}
	half := api.MaxOps / 2
	mixed := append(ones(half), slices.Repeat([]Read{scan("", "b")}, half)...)
	is(t, "reads and scans, as many as may be", reading(mixed...), good)
	is(t, "one scan more", reading(append(mixed, scan("", ""))...), bad)
	is(t, "one read more", reading(append(mixed, one("x"))...), bad)
}

func TestHowManyWrites(t *testing.T) {
	for _, n := range []int{0, 1, 2, api.MaxOps - 1, api.MaxOps, api.MaxOps + 1, 247, 248, 300} {
		want := good
		if n > api.MaxOps {
			want = bad
		}
		is(t, fmt.Sprint(n, " writes"), writing(pairs(n)...), want)
		dead := pairs(n)
		for i := range dead {
			dead[i] = drop(dead[i].Key)
		}
		is(t, fmt.Sprint(n, " drops"), writing(dead...), want)
	}
	is(t, "as many of both as may be", Record{Session: 8, Strict: true, Reads: ones(api.MaxOps), Writes: pairs(api.MaxOps)}, good)
	is(t, "one write more", Record{Session: 8, Strict: true, Reads: ones(api.MaxOps), Writes: pairs(api.MaxOps + 1)}, bad)
	is(t, "one read more", Record{Session: 8, Strict: true, Reads: ones(api.MaxOps + 1), Writes: pairs(api.MaxOps)}, bad)
}

func TestReadOfOneKey(t *testing.T) {
	for _, x := range []struct {
		read Read
		want kind
	}{
		{one("a"), good},
		{one("a", put("a", "")), good},
		{one("a", put("a", "1")), good},
		{one("\x00", put("\x00", "\x00")), good},
		{one("\xff\xfe", put("\xff\xfe", "\xff")), good},
		{one("a", put("a", text(api.MaxValue))), good},
		{one("a", put("a", text(api.MaxValue+1))), bad},
		{one("a", put("a", text(1<<16))), bad},

		{one(""), bad},
		{one("", put("", "")), bad},
		{one("", put("a", "")), bad},
		{one(text(api.MaxKey)), good},
		{one(text(api.MaxKey), put(text(api.MaxKey), "")), good},
		{one(text(api.MaxKey + 1)), bad},
		{one(text(api.MaxKey+1), put(text(api.MaxKey+1), "")), bad},
		{one(text(1 << 16)), bad},

		{Read{Key: "a", To: "b"}, bad},
		{Read{Key: "a", To: "\x00"}, bad},
		{Read{Key: "a", To: "b", Pairs: []Pair{put("a", "")}}, bad},
		{Read{To: "b"}, bad},

		{one("b", put("a", "")), bad},
		{one("b", put("c", "")), bad},
		{one("b", put("b\x00", "")), bad},
		{one("b", put("", "")), bad},
		{one("bb", put("b", "")), bad},
		{one("b", put("B", "")), bad},
		{one("b", put("b", ""), put("b", "")), bad},
		{one("b", put("b", ""), put("c", "")), bad},
		{one("b", put("a", ""), put("b", "")), bad},
		{one("b", put("b", ""), put("b", ""), put("b", "")), bad},

		{one("a", drop("a")), bad},
		{one("a", Pair{Key: "a", Value: "1", Dead: true}), bad},
	} {
		is(t, fmt.Sprintf("read %.300v", x.read), reading(x.read), x.want)
		is(t, fmt.Sprintf("behind others, read %.300v", x.read), reading(one("Y"), scan("", ""), x.read), x.want)
		is(t, fmt.Sprintf("ahead of others, read %.300v", x.read), reading(x.read, one("Y"), scan("", "")), x.want)
	}
}

func TestScan(t *testing.T) {
	a, b, c := put("a", "1"), put("b", ""), put("c", "3")
	for _, x := range []struct {
		read Read
		want kind
	}{
		{scan("", ""), good},
		{scan("", "a"), good},
		{scan("a", ""), good},
		{scan("a", "a"), good},
		{scan("c", "a"), good},
		{scan(text(api.MaxKey), text(api.MaxKey)), good},
		{scan(text(api.MaxKey), ""), good},
		{scan("", text(api.MaxKey)), good},
		{scan(text(api.MaxKey+1), ""), bad},
		{scan("", text(api.MaxKey+1)), bad},
		{scan(text(api.MaxKey+1), text(api.MaxKey+1)), bad},
		{scan("", text(1<<16)), bad},

		{scan("a", "d", a, b, c), good},
		{scan("", "d", a, b, c), good},
		{scan("a", "d", b), good},
		{scan("a", "c\x00", a, b, c), good},
		{scan("b", "b\x00", b), good},
		{scan("", "\xff", put("\x00", ""), put("\x00\x00", ""), put("\x01", ""), put("a", ""), put("\xc3\x28", ""), put("\xfe\xff", "")), good},
		{scan("", "l", put(text(api.MaxKey), "")), good},
		{scan("", "l", put(text(api.MaxKey+1), "")), bad},
		{scan("", "b", put("a", text(api.MaxValue))), good},
		{scan("", "b", put("a", text(api.MaxValue+1))), bad},
		{scan("", "d", a, put("b", text(api.MaxValue+1)), c), bad},

		{scan("", "d", b, a), bad},
		{scan("", "d", a, a), bad},
		{scan("", "d", a, c, b), bad},
		{scan("", "d", a, b, b), bad},
		{scan("", "d", b, c, a), bad},
		{scan("", "d", a, put("a", "2")), bad},
		{scan("", "\xff", put("\xc3", ""), put("a", "")), bad},

		{scan("b", "d", b, c), good},
		{scan("b", "d", a, b, c), bad},
		{scan("b", "d", a), bad},
		{scan("b\x00", "d", b, c), bad},
		{scan("bb", "d", b), bad},
		{scan("a", "c", a, b), good},
		{scan("a", "c", a, b, c), bad},
		{scan("a", "c", c), bad},
		{scan("a", "c", put("c\x00", "")), bad},
		{scan("a", "c", put("bzz", "")), good},
		{scan("a", "a", a), bad},
		{scan("b", "a", a), bad},
		{scan("b", "a", b), bad},
		{scan("a", "", a), bad},
		{scan("", "", a), bad},
		{scan("", "", put("", "")), bad},
		{scan("", "a", put("", "")), bad},
		{scan("", "d", put("", ""), a), bad},
		{scan("\x80", "\xff", put("a", "")), bad},
		{scan("a", "b", put("\x80", "")), bad},

		{scan("a", "d", drop("a")), bad},
		{scan("a", "d", Pair{Key: "a", Value: "1", Dead: true}), bad},
		{scan("a", "d", a, drop("b"), c), bad},
		{scan("a", "d", a, b, drop("c")), bad},
	} {
		is(t, fmt.Sprintf("scan %.300v", x.read), reading(x.read), x.want)
		is(t, fmt.Sprintf("behind others, scan %.300v", x.read), reading(one("Y"), scan("", ""), x.read), x.want)
		is(t, fmt.Sprintf("ahead of others, scan %.300v", x.read), reading(x.read, one("Y"), scan("", "")), x.want)
	}
}

func TestHowManyPairsOfAScan(t *testing.T) {
	for _, n := range []int{0, 1, 2, api.MaxScan - 1, api.MaxScan, api.MaxScan + 1, 247, 248, 300, 5000} {
		want := good
		if n > api.MaxScan {
			want = bad
		}
		is(t, fmt.Sprint(n, " pairs"), reading(scan("", "9", pairs(n)...)), want)
		is(t, fmt.Sprint(n, " pairs, behind a scan"), reading(scan("", "9", pairs(3)...), scan("", "9", pairs(n)...)), want)
	}
	all := pairs(api.MaxScan)
	all[api.MaxScan-1].Key = all[api.MaxScan-2].Key
	is(t, "the last two of many pairs alike", reading(scan("", "9", all...)), bad)
	all = pairs(api.MaxScan)
	is(t, "the last of many pairs at the end", reading(scan("", key(api.MaxScan-1), all...)), bad)
	is(t, "the first of many pairs ahead of the begin", reading(scan(key(0)+"0", "9", all...)), bad)
	is(t, "many pairs, just within", reading(scan(key(0), key(api.MaxScan-1)+"\x00", all...)), good)
}

func TestReadsOfOneKeyAgain(t *testing.T) {
	a, b := one("a"), one("b")
	x := one("a", put("a", "1"))
	s := scan("a", "b", put("a", "1"))
	for _, c := range []struct {
		reads []Read
		want  kind
	}{
		{[]Read{a, b}, good},
		{[]Read{b, a}, good},
		{[]Read{b, a, one("A"), one("aa"), one("a\x00"), one("\x00a")}, good},
		{[]Read{a, a}, bad},
		{[]Read{x, x}, bad},
		{[]Read{a, x}, bad},
		{[]Read{x, a}, bad},
		{[]Read{x, one("a", put("a", "2"))}, bad},
		{[]Read{a, b, a}, bad},
		{[]Read{b, a, s, a}, bad},
		{[]Read{a, s, s, b, one("c"), one("d"), x}, bad},
		{[]Read{s, s}, good},
		{[]Read{s, s, s, s}, good},
		{[]Read{s, scan("a", "b")}, good},
		{[]Read{scan("a", "b"), scan("a", "c")}, good},
		{[]Read{scan("a", ""), scan("a", "")}, good},
		{[]Read{s, a}, good},
		{[]Read{a, s}, good},
		{[]Read{a, s, s, scan("a", "a"), b, scan("b", "b")}, good},
		{[]Read{scan("", ""), scan("", "")}, good},
	} {
		is(t, fmt.Sprintf("reads %v", c.reads), reading(c.reads...), c.want)
	}
	for _, at := range []int{0, 1, api.MaxOps/2 - 1, api.MaxOps - 2} {
		l := ones(api.MaxOps)
		l[api.MaxOps-1] = l[at]
		is(t, fmt.Sprint("the last of many reads as that at ", at), reading(l...), bad)
	}
}

func TestWrites(t *testing.T) {
	a, b, c := put("a", "1"), put("b", ""), put("c", "3")
	for _, x := range []struct {
		writes []Pair
		want   kind
	}{
		{[]Pair{a}, good},
		{[]Pair{a, b, c}, good},
		{[]Pair{a, drop("b"), c}, good},
		{[]Pair{drop("a"), drop("b")}, good},
		{[]Pair{put("\x00", ""), put("\x00\x00", ""), put("a", ""), put("\x80", "")}, good},
		{[]Pair{put("a", text(api.MaxValue))}, good},
		{[]Pair{put("a", text(api.MaxValue+1))}, bad},
		{[]Pair{a, put("b", text(api.MaxValue+1))}, bad},
		{[]Pair{put(text(api.MaxKey), "")}, good},
		{[]Pair{put(text(api.MaxKey+1), "")}, bad},
		{[]Pair{drop(text(api.MaxKey))}, good},
		{[]Pair{drop(text(api.MaxKey + 1))}, bad},
		{[]Pair{put("", "")}, bad},
		{[]Pair{put("", "1"), a}, bad},
		{[]Pair{drop("")}, bad},
		{[]Pair{{Key: "a", Value: "1", Dead: true}}, bad},
		{[]Pair{a, {Key: "b", Value: "1", Dead: true}}, bad},
		{[]Pair{b, a}, bad},
		{[]Pair{a, a}, bad},
		{[]Pair{a, drop("a")}, bad},
		{[]Pair{drop("a"), a}, bad},
		{[]Pair{a, c, b}, bad},
		{[]Pair{a, b, b}, bad},
		{[]Pair{put("\x80", ""), put("a", "")}, bad},
	} {
		is(t, fmt.Sprintf("writes %.300v", x.writes), writing(x.writes...), x.want)
		is(t, fmt.Sprintf("behind reads, writes %.300v", x.writes), Record{Session: 2, Snap: 9, Reads: []Read{one("a"), scan("a", "b", a)}, Writes: x.writes}, x.want)
	}
}

// What is read need not be what is written, nor the other way round.
func TestReadsAndWritesStandAlone(t *testing.T) {
	r := Record{Session: 3, Snap: 7, Reads: []Read{one("b", put("b", "1")), one("a"), scan("a", "c", put("b", "1"))}, Writes: []Pair{drop("a"), put("b", "1")}}
	is(t, "a record", r, good)
	r.Strict = true
	is(t, "a strict record", r, good)
}

// shapes are ways to have pairs in a record.
func shapes() []func([]Pair) Record {
	return []func([]Pair) Record{
		func(l []Pair) Record { return writing(l...) },
		func(l []Pair) Record { return reading(scan("", "z", l...)) },
		func(l []Pair) Record {
			r := Record{Session: 8, Snap: greatestSnap, Strict: true}
			for _, p := range l {
				r.Reads = append(r.Reads, one(p.Key, p))
			}
			return r
		},
	}
}

// sized tells a record of that shape of just n bytes.
func sized(t *testing.T, n int, with func([]Pair) Record) Record {
	t.Helper()
	var l []Pair
	for {
		l = append(l, put(key(len(l)), ""))
		last := &l[len(l)-1]
		rest := n - len(model{}.bytes(with(l)))
		if rest < 0 {
			t.Fatalf("no record has %d bytes", n)
		}
		if rest <= 240 {
			last.Value = text(rest)
			return with(l)
		}
		last.Value = text(190)
	}
}

func TestHowManyBytes(t *testing.T) {
	for shape, with := range shapes() {
		for _, n := range []int{api.MaxRecord / 2, api.MaxRecord - 2, api.MaxRecord - 1, api.MaxRecord, api.MaxRecord + 1, api.MaxRecord + 2, api.MaxRecord + 1000} {
			r := sized(t, n, with)
			if got := len(record.Bytes(r)); got != n {
				t.Errorf("shape %d: %d bytes, want %d", shape, got, n)
			}
			want := good
			if n > api.MaxRecord {
				want = long
			}
			is(t, fmt.Sprint("shape ", shape, " of bytes ", n), r, want)
			r.Session = api.MaxSessions + 1
			is(t, fmt.Sprint("shape ", shape, " of another session, of bytes ", n), r, bad)
			endIfFailed(t)
		}
	}
}

// greatest is the record of the most bytes that is Good but for that.
func greatest() Record {
	r := Record{Session: api.MaxSessions, Snap: greatestSnap, Strict: true}
	var all []Pair
	for i := range api.MaxScan {
		all = append(all, put(key(i)+text(api.MaxKey-4), text(api.MaxValue)))
	}
	for range api.MaxOps {
		r.Reads = append(r.Reads, scan(all[0].Key, text(api.MaxKey), all...))
	}
	r.Writes = all[:api.MaxOps]
	return r
}

func TestTheGreatest(t *testing.T) {
	r := greatest()
	is(t, "the greatest", r, long)
	r.Reads = append(r.Reads, scan("", ""))
	is(t, "a greater one", r, bad)
}
