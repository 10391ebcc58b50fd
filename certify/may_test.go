package certify_test

import (
	"fmt"
	"math"
	"slices"
	"testing"

	"indenture/api"
	"indenture/certify"
)

func isMay(t *testing.T, r Record, later []Record, want api.Errno) {
	t.Helper()
	stays(t, append([]Record{r}, later...), func() {
		if got := certify.May(r, later); got != want {
			t.Errorf("May(%#v, %#v): %v, want %v", r, later, got, want)
		}
	})
}

func isOwn(t *testing.T, reads []Read, want ...Read) {
	t.Helper()
	for _, r := range []Record{{Reads: reads}, {Session: 1, Snap: math.MaxInt, Strict: true, Reads: reads, Writes: []Pair{{Key: "a"}}}} {
		stays(t, []Record{r}, func() {
			if got := certify.Own(r); !slices.EqualFunc(got, want, sameRead) {
				t.Errorf("Own(%#v): %#v, want %#v", reads, got, want)
			}
		})
	}
}

// P14.2

func TestExample(t *testing.T) {
	a := wrote("a")
	isMay(t, a, []Record{a}, api.ErrClash)
	isMay(t, strict(a), []Record{a}, api.ErrClash)
	isMay(t, reading(one("a")), []Record{a}, api.OK)
	isMay(t, strict(reading(one("a"))), []Record{a}, api.ErrClash)
}

func TestMay(t *testing.T) {
	a, b, c, none := wrote("a"), wrote("b"), wrote("c"), Record{}
	readA, readAWroteB := reading(one("a")), both(reading(one("a")), wrote("b"))
	for _, x := range []struct {
		r                  Record
		later              []Record
		plainly, seriously api.Errno
	}{
		{none, nil, api.OK, api.OK},
		{none, []Record{}, api.OK, api.OK},
		{none, []Record{none, a, readAWroteB}, api.OK, api.OK},
		{a, nil, api.OK, api.OK},
		{a, []Record{none, b, readA}, api.OK, api.OK},
		{a, []Record{a}, api.ErrClash, api.ErrClash},
		{a, []Record{b, none, a}, api.ErrClash, api.ErrClash},
		{readA, nil, api.OK, api.OK},
		{readA, []Record{}, api.OK, api.OK},
		{readA, []Record{b, readA, none}, api.OK, api.OK},
		{readA, []Record{a}, api.OK, api.ErrClash},
		{readA, []Record{b, c, a}, api.OK, api.ErrClash},
		{readAWroteB, nil, api.OK, api.OK},
		{readAWroteB, []Record{c}, api.OK, api.OK},
		{readAWroteB, []Record{a}, api.OK, api.ErrClash},
		{readAWroteB, []Record{b}, api.ErrClash, api.ErrClash},
		{readAWroteB, []Record{a, b}, api.ErrClash, api.ErrClash},
		{readAWroteB, []Record{b, a}, api.ErrClash, api.ErrClash},
		{readAWroteB, []Record{c, wrote("a", "b")}, api.ErrClash, api.ErrClash},
		{both(reading(one("b")), b), []Record{a, b}, api.ErrClash, api.ErrClash},
		{both(reading(one("b")), b), []Record{a, c}, api.OK, api.OK},
		{both(reading(scan("a", "c")), wrote("d")), []Record{c}, api.OK, api.OK},
		{both(reading(scan("a", "c")), wrote("d")), []Record{c, b}, api.OK, api.ErrClash},
		{both(reading(scan("a", "c")), wrote("d")), []Record{wrote("d")}, api.ErrClash, api.ErrClash},
		{both(reading(scan("a", "a"), scan("b", "a"), scan("c", "")), wrote("d")), []Record{a, b, c}, api.OK, api.OK},
		{reading(one("z"), scan("b", "c")), []Record{a, b}, api.OK, api.ErrClash},
		{wrote("c", "a"), []Record{b, a}, api.ErrClash, api.ErrClash},
		{wrote("", "b"), []Record{a, wrote("")}, api.ErrClash, api.ErrClash},
	} {
		isMay(t, x.r, x.later, x.plainly)
		isMay(t, strict(x.r), x.later, x.seriously)
	}
}

// Two that each read what the other one writes: the second one may, unless it is strict; whether the first one was is the same.
func TestMayAsksWhoComesLast(t *testing.T) {
	x, y := both(reading(one("a")), wrote("b")), both(reading(one("b")), wrote("a"))
	isMay(t, y, []Record{x}, api.OK)
	isMay(t, y, []Record{strict(x)}, api.OK)
	isMay(t, strict(y), []Record{x}, api.ErrClash)
	isMay(t, strict(y), []Record{strict(x)}, api.ErrClash)
}

// later is what the caller says that it is: neither Snap nor Session is looked at.
func TestMayLooksAtNoNumbers(t *testing.T) {
	numbers := []int{math.MinInt, -1, 0, 1, 2, 9, math.MaxInt}
	for _, n := range numbers {
		for _, m := range numbers {
			a, b, other := wrote("a"), wrote("b"), wrote("a")
			a.Snap, a.Session, b.Snap, b.Session, other.Snap, other.Session = n, m, m, n, m, m
			isMay(t, a, []Record{b, other}, api.ErrClash)
			isMay(t, a, []Record{b, b}, api.OK)
			first(t, "Clash", certify.Clash, a, []Record{b, other, other}, 1)
			a.Reads = []Read{one("b")}
			isMay(t, a, []Record{b, b}, api.OK)
			isMay(t, strict(a), []Record{b, b}, api.ErrClash)
			first(t, "Stale", certify.Stale, a, []Record{other, b, b}, 1)
		}
	}
}

func TestOwn(t *testing.T) {
	a, a1, a2, aDead := one("a"), one("a", Pair{Key: "a", Value: "1"}), one("a", Pair{Key: "a", Value: "2"}), one("a", Pair{Key: "a", Dead: true})
	b, c := one("b", Pair{Key: "b", Value: "1"}), one("c")
	all, none := scan("a", "c", Pair{Key: "a", Value: "1"}, Pair{Key: "b"}), scan("a", "a")
	for _, x := range []struct{ reads, want []Read }{
		{nil, nil},
		{[]Read{}, nil},
		{[]Read{a}, []Read{a}},
		{[]Read{a1}, []Read{a1}},
		{[]Read{a, b, c}, []Read{a, b, c}},
		{[]Read{c, b, a}, []Read{c, b, a}},
		{[]Read{a, a}, []Read{a}},
		{[]Read{a, a, a, a}, []Read{a}},
		{[]Read{a, b, a}, []Read{a, b}},
		{[]Read{a, b, a, b, c, b, a, c}, []Read{a, b, c}},
		{[]Read{b, a, a, b}, []Read{b, a}},
		{[]Read{c, a, b, a}, []Read{c, a, b}},
		{[]Read{a, a1}, []Read{a}},
		{[]Read{a1, a}, []Read{a1}},
		{[]Read{a1, a2}, []Read{a1}},
		{[]Read{a2, b, a1, aDead}, []Read{a2, b}},
		{[]Read{aDead, a2}, []Read{aDead}},
		{[]Read{all}, []Read{all}},
		{[]Read{all, all}, []Read{all, all}},
		{[]Read{all, a, all, a, all}, []Read{all, a, all, all}},
		{[]Read{none, none, all, none}, []Read{none, none, all, none}},
		{[]Read{a, all}, []Read{a, all}},
		{[]Read{all, a}, []Read{all, a}},
		{[]Read{all, a1, a}, []Read{all, a1}},
		{[]Read{a1, all, b, a2, b}, []Read{a1, all, b}},
		{[]Read{a, none, a}, []Read{a, none}},
		{[]Read{none, a, a}, []Read{none, a}},
		{[]Read{scan("a", ""), a, scan("a", "")}, []Read{scan("a", ""), a, scan("a", "")}},
		{[]Read{one(""), scan("", ""), one(""), scan("", "")}, []Read{one(""), scan("", ""), scan("", "")}},
		{[]Read{one(""), a, one("")}, []Read{one(""), a}},
		{[]Read{one("a\x00"), a, one("aa"), one("A"), one("a\x00"), one("aa")}, []Read{one("a\x00"), a, one("aa"), one("A")}},
		{[]Read{one("\xff"), one("\xfe"), one("\ufffd"), one("\xff"), one("\xfe"), one("\ufffd")}, []Read{one("\xff"), one("\xfe"), one("\ufffd")}},
	} {
		isOwn(t, x.reads, x.want...)
	}
}

// Of a read that is no scan there is no To: by another one it is no other read. What stays is told as it is.
func TestOwnLooksAtNoTo(t *testing.T) {
	x, y := Read{Key: "a", To: "b"}, Read{Key: "a", To: "c"}
	isOwn(t, []Read{x, y}, x)
	isOwn(t, []Read{y, x, one("a")}, y)
	isOwn(t, []Read{one("a"), x, y}, one("a"))
}

// A read may have more pairs than its kind has: they are told as they are.
func TestOwnOfAnyPairs(t *testing.T) {
	odd := one("a", Pair{Key: "z", Value: "1"}, Pair{Key: "b", Value: "2", Dead: true}, Pair{})
	isOwn(t, []Read{odd, one("a"), odd}, odd)
	odd = scan("b", "a", odd.Pairs...)
	isOwn(t, []Read{odd, one("b"), odd}, odd, one("b"), odd)
}

func TestOwnOfMany(t *testing.T) {
	const n = 200000
	var reads, want []Read
	for i := range n {
		x := one(fmt.Sprint(i*i%1009), Pair{Key: fmt.Sprint(i)})
		if i%10 == 0 {
			x = scan(fmt.Sprint(i%7), fmt.Sprint(i%11))
		}
		reads = append(reads, x)
	}
	seen := map[string]int{}
	for _, x := range reads {
		if !x.Scan {
			seen[x.Key]++
		}
		if x.Scan || seen[x.Key] == 1 {
			want = append(want, x)
		}
	}
	if got := certify.Own(reading(reads...)); !slices.EqualFunc(got, want, sameRead) {
		t.Errorf("Own of %d reads: %d, want %d", n, len(got), len(want))
	}
}
