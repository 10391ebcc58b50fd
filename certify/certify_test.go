package certify_test

import (
	"fmt"
	"math"
	"slices"
	"strings"
	"testing"

	"indenture/api"
	"indenture/certify"
)

type (
	Pair   = api.Pair
	Read   = api.Read
	Record = api.Record
)

// wrote tells a record that wrote those keys, each other one Dead.
func wrote(keys ...string) Record {
	var r Record
	for i, key := range keys {
		r.Writes = append(r.Writes, Pair{Key: key, Dead: i%2 == 1})
	}
	return r
}

// reading tells a record that read that, and wrote nothing.
func reading(l ...Read) Record { return Record{Reads: l} }

func one(key string, pairs ...Pair) Read { return Read{Key: key, Pairs: pairs} }

func scan(from, to string, pairs ...Pair) Read {
	return Read{Scan: true, Key: from, To: to, Pairs: pairs}
}

func strict(r Record) Record {
	r.Strict = true
	return r
}

// both tells a record that has the Reads of one and the Writes of the other.
func both(reads, writes Record) Record {
	return Record{Reads: reads.Reads, Writes: writes.Writes}
}

// keysByBytes: keys in order whose bytes are not text, and such as begin with one another.
func keysByBytes() []string {
	return []string{"", "\x00", "\x00\x00", "\x00\x01", " ", "A", "a", "a\x00", "a\x00\x00", "a\x00b", "a\x01", "aa", "aaa", "ab", "b", strings.Repeat("k", api.MaxKey), strings.Repeat("k", api.MaxKey+1), "\x7f", "\x80", "\xc3", "\xc3\x28", "ä", "€", "\xed\xa0\x80", "😀", "\xff", "\xff\x00", "\xff\xff"}
}

func sameRead(x, y Read) bool {
	return x.Scan == y.Scan && x.Key == y.Key && x.To == y.To && slices.Equal(x.Pairs, y.Pairs)
}

func sameRecord(x, y Record) bool {
	return x.Session == y.Session && x.Snap == y.Snap && x.Strict == y.Strict &&
		slices.EqualFunc(x.Reads, y.Reads, sameRead) && slices.Equal(x.Writes, y.Writes)
}

// deep is a list that shares nothing with another.
func deep(l []Record) []Record {
	var out []Record
	for _, r := range l {
		r.Writes, r.Reads = slices.Clone(r.Writes), slices.Clone(r.Reads)
		for i := range r.Reads {
			r.Reads[i].Pairs = slices.Clone(r.Reads[i].Pairs)
		}
		out = append(out, r)
	}
	return out
}

// stays runs a test's calls and fails if any of the records is not as before.
func stays(t *testing.T, l []Record, calls func()) {
	t.Helper()
	was := deep(l)
	calls()
	if !slices.EqualFunc(l, was, sameRecord) {
		t.Errorf("what came in was changed: %#v, was %#v", l, was)
	}
}

func isWrote(t *testing.T, r Record, key string, want bool) {
	t.Helper()
	stays(t, []Record{r}, func() {
		if got := certify.Wrote(r, key); got != want {
			t.Errorf("Wrote(%#v, %q): %v, want %v", r.Writes, key, got, want)
		}
	})
}

func isTouches(t *testing.T, r Record, x Read, want bool) {
	t.Helper()
	stays(t, []Record{r, reading(x)}, func() {
		if got := certify.Touches(r, x); got != want {
			t.Errorf("Touches(%#v, %#v): %v, want %v", r.Writes, x, got, want)
		}
	})
}

// P14.1

func TestWrote(t *testing.T) {
	for _, x := range []struct {
		writes   []string
		has, not []string
	}{
		{nil, nil, []string{"", "a", "\x00", "\xff"}},
		{[]string{"a"}, []string{"a"}, []string{"", "A", "`", "b", "a\x00", "aa", "\x00a", " a", "\xff"}},
		{[]string{"aa"}, []string{"aa"}, []string{"", "a", "a\xff", "aaa", "aa\x00", "ab", "b"}},
		{[]string{""}, []string{""}, []string{"\x00", "a", "\xff"}},
		{[]string{"", "a"}, []string{"", "a"}, []string{"\x00", "b"}},
		{[]string{"\x00"}, []string{"\x00"}, []string{"", "\x00\x00", "\x01"}},
		{[]string{"b", "d", "f", "h"}, []string{"b", "d", "f", "h"}, []string{"a", "b\x00", "c", "e", "g", "h\x00", "i"}},
		{[]string{"a", "a\x00", "aa"}, []string{"a", "a\x00", "aa"}, []string{"", "a\x00\x00", "a\x01", "aaa"}},
		{[]string{"ä", "\xc3", "\xff\xfe"}, []string{"ä", "\xc3", "\xff\xfe"}, []string{"a", "\xa4", "Ä", "\xff", "\xff\xfe\x00", "\ufffd"}},
	} {
		for _, key := range x.has {
			isWrote(t, wrote(x.writes...), key, true)
		}
		for _, key := range x.not {
			isWrote(t, wrote(x.writes...), key, false)
		}
	}
	isWrote(t, Record{Writes: []Pair{}}, "", false)
	isWrote(t, Record{Writes: []Pair{}}, "a", false)
}

// A key that was dropped was written; what it has is not looked at.
func TestWroteOfAnyValue(t *testing.T) {
	for _, p := range []Pair{{Key: "a"}, {Key: "a", Value: "1"}, {Key: "a", Dead: true}, {Key: "a", Value: "1", Dead: true}, {Key: "a", Value: strings.Repeat("b", 1<<16)}} {
		r := Record{Writes: []Pair{p}}
		isWrote(t, r, "a", true)
		isWrote(t, r, "b", false)
		isWrote(t, r, "1", false)
	}
}

// What a record read, and who committed it at what snapshot, is not what it wrote.
func TestWroteLooksAtWritesAlone(t *testing.T) {
	r := Record{Session: math.MaxInt, Snap: math.MinInt, Strict: true, Reads: []Read{one("a", Pair{Key: "a"}), scan("", "\xff", Pair{Key: "c"})}}
	for _, key := range []string{"", "a", "b", "c", "\xff"} {
		isWrote(t, r, key, false)
		isTouches(t, r, one(key), false)
		isTouches(t, r, scan("", key+"\xff"), false)
	}
	r.Writes = []Pair{{Key: "b"}}
	isWrote(t, r, "a", false)
	isWrote(t, r, "b", true)
	isTouches(t, r, scan("", "\xff"), true)
}

// Among the Writes is a key wherever it stands: these need not rise, and may come again.
func TestWroteOfKeysThatDoNotRise(t *testing.T) {
	for _, keys := range [][]string{{"c", "b", "a"}, {"b", "c", "a"}, {"a", "c", "b"}, {"c", "a", "b", "a"}, {"a", "b", "c", "c", "b", "a"}, {"b", "b", "a", "c"}} {
		r := wrote(keys...)
		for _, key := range []string{"a", "b", "c"} {
			isWrote(t, r, key, true)
			isTouches(t, r, one(key), true)
			isTouches(t, r, scan(key, key+"\x00"), true)
			isTouches(t, r, scan(key+"\x00", key+"\xff"), false)
		}
		for _, key := range []string{"", "0", "a\x00", "bb", "d"} {
			isWrote(t, r, key, false)
			isTouches(t, r, one(key), false)
		}
	}
}

func TestWroteOfKeysByBytes(t *testing.T) {
	keys := keysByBytes()
	if !slices.IsSorted(keys) {
		t.Fatal("these keys do not rise")
	}
	for i, key := range keys {
		others := slices.Delete(slices.Clone(keys), i, i+1)
		for j, other := range keys {
			isWrote(t, wrote(key), other, i == j)
			isWrote(t, wrote(keys...), other, true)
			isWrote(t, wrote(others...), other, i != j)
			for to, end := range keys {
				isTouches(t, wrote(key), scan(other, end), j <= i && i < to)
			}
			endIfFailed(t)
		}
	}
}

func TestTouchesOfOneKey(t *testing.T) {
	r := wrote("b", "d")
	for key, want := range map[string]bool{"": false, "a": false, "b": true, "b\x00": false, "c": false, "d": true, "d\x00": false, "e": false} {
		isTouches(t, r, one(key), want)
		isTouches(t, r, one(key, Pair{Key: key, Value: "1"}), want)
		isTouches(t, r, one(key, Pair{Key: "b"}, Pair{Key: "d"}), want)
		isTouches(t, Record{}, one(key), false)
		isTouches(t, Record{Writes: []Pair{}}, one(key), false)
	}
	isTouches(t, wrote(""), one(""), true)
	isTouches(t, wrote("a"), one(""), false)
}

// Of a read that is no scan there is no To, whatever stands there.
func TestTouchesOfOneKeyLooksAtNoTo(t *testing.T) {
	for _, to := range []string{"", "a", "b", "b\x00", "c", "\xff"} {
		isTouches(t, wrote("b"), Read{Key: "b", To: to}, true)
		isTouches(t, wrote("b"), Read{Key: "a", To: to}, false)
		isTouches(t, wrote("b"), Read{Key: "", To: to}, false)
	}
}

func TestTouchesOfScans(t *testing.T) {
	for _, x := range []struct {
		from, to string
		want     bool
	}{
		{"", "", false},
		{"", "a", false},
		{"", "b", false},
		{"", "b\x00", true},
		{"a", "b", false},
		{"a", "b\x00", true},
		{"a", "c", true},
		{"b", "b", false},
		{"b", "b\x00", true},
		{"b", "c", true},
		{"b", "\xff", true},
		{"b", "a", false},
		{"b", "", false},
		{"b\x00", "c", false},
		{"b\x00", "d", false},
		{"b\x00", "d\x00", true},
		{"b\x00", "e", true},
		{"c", "d", false},
		{"c", "c", false},
		{"c", "b", false},
		{"d", "d", false},
		{"d", "d\x00", true},
		{"d", "b", false},
		{"d", "", false},
		{"d\x00", "\xff", false},
		{"e", "a", false},
		{"\xff", "", false},
		{"\xff", "\xff\xff", false},
	} {
		isTouches(t, wrote("b", "d"), scan(x.from, x.to), x.want)
		isTouches(t, wrote("b", "d"), scan(x.from, x.to, Pair{Key: "b"}), x.want)
		isTouches(t, wrote("d", "b"), scan(x.from, x.to, Pair{Key: "b"}, Pair{Key: "d"}), x.want)
		isTouches(t, Record{}, scan(x.from, x.to), false)
		isTouches(t, Record{Writes: []Pair{}}, scan(x.from, x.to), false)
	}
	isTouches(t, wrote(""), scan("", ""), false)
	isTouches(t, wrote(""), scan("", "\x00"), true)
	isTouches(t, wrote(""), scan("\x00", "a"), false)
	isTouches(t, wrote("a", "b", "c", "d", "e"), scan("c", "c\x00"), true)
	isTouches(t, wrote("a", "b", "d", "e"), scan("c", "c\x00"), false)
}

// first holds Clash or Stale against the place that it should tell.
func first(t *testing.T, what string, call func(Record, []Record) int, r Record, later []Record, want int) {
	t.Helper()
	stays(t, append([]Record{r}, later...), func() {
		if got := call(r, later); got != want {
			t.Errorf("%s(%#v, %#v): %d, want %d", what, r, later, got, want)
		}
	})
}

func TestClash(t *testing.T) {
	a, b, ab, c := wrote("a"), wrote("b"), wrote("a", "b"), wrote("c")
	none := Record{}
	for _, x := range []struct {
		r     Record
		later []Record
		want  int
	}{
		{none, nil, -1},
		{none, []Record{}, -1},
		{a, nil, -1},
		{a, []Record{}, -1},
		{none, []Record{none}, -1},
		{none, []Record{a, b}, -1},
		{a, []Record{none}, -1},
		{a, []Record{a}, 0},
		{a, []Record{b}, -1},
		{a, []Record{b, a}, 1},
		{a, []Record{b, none, a}, 2},
		{a, []Record{a, a, a}, 0},
		{a, []Record{b, a, c, a}, 1},
		{a, []Record{b, ab, a}, 1},
		{a, []Record{b, c, b, c}, -1},
		{ab, []Record{c, b, a}, 1},
		{ab, []Record{c, a, b}, 1},
		{ab, []Record{c, ab}, 1},
		{ab, []Record{c, none, c}, -1},
		{c, []Record{ab, ab, wrote("a", "b", "c")}, 2},
		{wrote("b", "a"), []Record{c, a}, 1},
		{wrote("b", "a"), []Record{c, b}, 1},
		{wrote("c", "a", "b"), []Record{wrote("d"), wrote("z", "b", "y")}, 1},
		{a, []Record{wrote("z", "a")}, 0},
		{a, []Record{wrote("", "a\x00", "aa", "A")}, -1},
		{wrote("aa"), []Record{a, wrote("aaa"), wrote("aa")}, 2},
		{wrote(""), []Record{a, wrote("\x00"), wrote("")}, 2},
		{wrote("\xff\xfe"), []Record{wrote("\xff"), wrote("\xfe"), wrote("\xff\xfe")}, 2},
		{wrote("b", "d"), []Record{a, c, wrote("e"), wrote("d")}, 3},
	} {
		first(t, "Clash", certify.Clash, x.r, x.later, x.want)
		first(t, "Clash", certify.Clash, strict(x.r), x.later, x.want)
	}
}

// A value that is dropped clashes as well as one that is put, on both sides.
func TestClashOfAnyValue(t *testing.T) {
	for _, p := range []Pair{{Key: "a", Value: "1"}, {Key: "a", Dead: true}, {Key: "a"}} {
		for _, q := range []Pair{{Key: "a", Value: "1"}, {Key: "a", Value: "2"}, {Key: "a", Dead: true}, {Key: "a"}} {
			first(t, "Clash", certify.Clash, Record{Writes: []Pair{p}}, []Record{{}, {Writes: []Pair{q}}}, 1)
		}
	}
}

// Reads do not clash.
func TestClashLooksAtWritesAlone(t *testing.T) {
	reads := reading(one("a"), scan("", "\xff"))
	first(t, "Clash", certify.Clash, reads, []Record{wrote("a"), reads}, -1)
	first(t, "Clash", certify.Clash, wrote("a"), []Record{reads, both(reads, wrote("b"))}, -1)
	first(t, "Clash", certify.Clash, both(reads, wrote("a")), []Record{reads, wrote("b"), both(reads, wrote("a"))}, 2)
}

func TestStale(t *testing.T) {
	a, b, c, none := wrote("a"), wrote("b"), wrote("c"), Record{}
	for _, x := range []struct {
		r     Record
		later []Record
		want  int
	}{
		{none, nil, -1},
		{none, []Record{}, -1},
		{none, []Record{a, none}, -1},
		{Record{Reads: []Read{}}, []Record{a, wrote("")}, -1},
		{reading(one("a")), nil, -1},
		{reading(one("a")), []Record{}, -1},
		{reading(one("a")), []Record{none}, -1},
		{reading(one("a")), []Record{a}, 0},
		{reading(one("a", Pair{Key: "a", Value: "1"})), []Record{a}, 0},
		{reading(one("a")), []Record{b, none, a, a}, 2},
		{reading(one("a"), one("b")), []Record{c, b, a}, 1},
		{reading(one("a"), one("b")), []Record{c, a, b}, 1},
		{reading(one("b"), one("a")), []Record{c, a, b}, 1},
		{reading(one("b"), one("a")), []Record{c, b, a}, 1},
		{reading(one("a"), one("a")), []Record{c, b, a}, 2},
		{reading(one("")), []Record{a, wrote("")}, 1},
		{reading(scan("a", "b")), []Record{b, c, a}, 2},
		{reading(scan("b", "b")), []Record{a, b, c}, -1},
		{reading(scan("c", "a")), []Record{a, b, c}, -1},
		{reading(scan("a", "")), []Record{a, b, wrote("")}, -1},
		{reading(scan("", "")), []Record{a, wrote("")}, -1},
		{reading(scan("a", "c")), []Record{none, c, b, a}, 2},
		{reading(scan("x", "z"), one("a")), []Record{b, a}, 1},
		{reading(scan("x", "z"), one("a")), []Record{b, wrote("y")}, 1},
		{reading(scan("x", "z"), one("a")), []Record{wrote("w", "z"), wrote("aa")}, -1},
		{reading(one("a"), scan("x", "z")), []Record{wrote("w", "z"), wrote("q", "x")}, 1},
		{reading(one("zz"), scan("x", "z"), one("a")), []Record{wrote("y\xff"), a}, 0},
	} {
		first(t, "Stale", certify.Stale, x.r, x.later, x.want)
		first(t, "Stale", certify.Stale, strict(x.r), x.later, x.want)
	}
}

// Scans that lie within, beside, and ahead of one another, and such as have nothing between their ends.
func TestStaleOfSeveralScans(t *testing.T) {
	for _, x := range []struct {
		reads    []Read
		has, not []string
	}{
		{[]Read{scan("b", "y"), scan("c", "d")}, []string{"b", "c", "cc", "d", "e", "x"}, []string{"a", "y", "z"}},
		{[]Read{scan("c", "d"), scan("b", "y")}, []string{"b", "c", "cc", "d", "e", "x"}, []string{"a", "y", "z"}},
		{[]Read{scan("b", "d"), scan("c", "f")}, []string{"b", "c", "d", "e"}, []string{"a", "f", "g"}},
		{[]Read{scan("b", "d"), scan("d", "f")}, []string{"b", "c", "d", "e"}, []string{"a", "f"}},
		{[]Read{scan("b", "c"), scan("e", "g")}, []string{"b", "bb", "e", "f"}, []string{"a", "c", "d", "g"}},
		{[]Read{scan("e", "g"), scan("b", "c")}, []string{"b", "bb", "e", "f"}, []string{"a", "c", "d", "g"}},
		{[]Read{scan("b", "c"), scan("b", "e")}, []string{"b", "c", "d"}, []string{"a", "e"}},
		{[]Read{scan("b", "e"), scan("b", "c")}, []string{"b", "c", "d"}, []string{"a", "e"}},
		{[]Read{scan("b", "d"), scan("c", "c")}, []string{"b", "c", "cc"}, []string{"a", "d"}},
		{[]Read{scan("b", "d"), scan("c", "a")}, []string{"b", "c", "cc"}, []string{"", "a", "d"}},
		{[]Read{scan("z", "a"), scan("b", "d")}, []string{"b", "c"}, []string{"", "a", "d", "y", "z", "\xff"}},
		{[]Read{scan("b", "a"), scan("b", "d")}, []string{"b", "c"}, []string{"", "a", "d"}},
		{[]Read{scan("b", "d"), scan("b", "")}, []string{"b", "c"}, []string{"", "a", "d"}},
		{[]Read{scan("b", "f"), one("d")}, []string{"b", "d", "d\x00", "e"}, []string{"a", "f"}},
		{[]Read{scan("b", "f"), one("f"), one("h")}, []string{"b", "f", "h"}, []string{"a", "f\x00", "g", "h\x00"}},
		{[]Read{one("a"), one("c"), scan("b", "b")}, []string{"a", "c"}, []string{"", "a\x00", "b", "c\x00"}},
		{[]Read{one("a"), scan("a", "a")}, []string{"a"}, []string{"", "a\x00", "b"}},
		{[]Read{one("a"), scan("a", "c")}, []string{"a", "a\x00", "b"}, []string{"", "c"}},
		{[]Read{scan("b", "y"), scan("c", "d"), scan("e", "f"), one("g")}, []string{"b", "d", "f", "g", "h", "x"}, []string{"a", "y"}},
	} {
		for _, key := range x.has {
			first(t, "Stale", certify.Stale, reading(x.reads...), []Record{{}, wrote(key)}, 1)
			first(t, "Stale", certify.Stale, reading(x.reads...), []Record{wrote(append(slices.Clone(x.not), key)...)}, 0)
		}
		for _, key := range x.not {
			first(t, "Stale", certify.Stale, reading(x.reads...), []Record{{}, wrote(key)}, -1)
		}
		first(t, "Stale", certify.Stale, reading(x.reads...), []Record{wrote(x.not...), wrote(x.has...)}, 1)
	}
}

// What r writes is nothing that it read; what later ones read is nothing that they wrote.
func TestStaleLooksAtReadsAlone(t *testing.T) {
	reads := reading(one("a"), scan("", "\xff"))
	first(t, "Stale", certify.Stale, wrote("a"), []Record{wrote("a")}, -1)
	first(t, "Stale", certify.Stale, reads, []Record{reads, reads}, -1)
	first(t, "Stale", certify.Stale, both(reading(one("a")), wrote("b")), []Record{wrote("b"), both(reads, wrote("c")), wrote("a")}, 2)
	first(t, "Stale", certify.Stale, reading(one("a", Pair{Key: "b"}), scan("x", "z", Pair{Key: "c"})), []Record{wrote("b", "c")}, -1)
}

// Many reads, and many that came later: the one that wrote something of them is found.
func TestOfMany(t *testing.T) {
	const n = 100000
	key := func(i int) string { return fmt.Sprintf("%06d", i) }
	var r Record
	var later []Record
	for i := range n {
		at := i * 7919 % n
		r.Writes = append(r.Writes, Pair{Key: key(at) + "w"})
		r.Reads = append(r.Reads, one(key(at)+"k"), scan(key(at)+"s", key(at)+"t"))
		later = append(later, wrote(key(i), key(i)+"l", key(i)+"t", key(i)+"z"))
	}
	found := func(want int) {
		t.Helper()
		if clash, stale := certify.Clash(r, later), certify.Stale(r, later); clash != want || stale != want {
			t.Errorf("Clash of many: %d, Stale: %d, want %d", clash, stale, want)
		}
	}
	found(-1)
	later[n-1] = wrote(key(n/2)+"w", key(n/3)+"so")
	found(n - 1)
	later[n-2] = wrote(key(1)+"k", key(n-1)+"w")
	found(n - 2)
	if !certify.Wrote(r, key(n/2)+"w") || certify.Wrote(r, key(n/2)) {
		t.Error("Wrote of many")
	}
}
