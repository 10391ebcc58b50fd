package store_test

import (
	"math"
	"slices"
	"strings"
	"testing"

	"indenture/api"
	"indenture/store"
)

type Pair = api.Pair

func isErr(t *testing.T, what string, got, want api.Errno) {
	t.Helper()
	if got != want {
		t.Errorf("%s: %v, want %v", what, got, want)
	}
}

func is(t *testing.T, what string, got, want bool) {
	t.Helper()
	if got != want {
		t.Errorf("%s: %v, want %v", what, got, want)
	}
}

// has holds the three numbers of a store against what they should be.
func has(t *testing.T, what string, s *store.Store, last, floor, versions int) {
	t.Helper()
	if s.Last() != last || s.Floor() != floor || s.Versions() != versions {
		t.Errorf("%s: Last %d, Floor %d, Versions %d, want %d, %d, %d", what, s.Last(), s.Floor(), s.Versions(), last, floor, versions)
	}
}

func gets(t *testing.T, s *store.Store, key string, snap int, want string, wantErr api.Errno) {
	t.Helper()
	got, e := s.Get(key, snap)
	if got != want || e != wantErr {
		t.Errorf("Get(%q, %d): %q %v, want %q %v", key, snap, got, e, want, wantErr)
	}
}

func scans(t *testing.T, s *store.Store, from, to string, snap, most int, want ...Pair) {
	t.Helper()
	got, e := s.Scan(from, to, snap, most)
	if e != api.OK || !slices.Equal(got, want) {
		t.Errorf("Scan(%q, %q, %d, %d): %v %v, want %v", from, to, snap, most, got, e, want)
	}
}

func scanFails(t *testing.T, s *store.Store, from, to string, snap, most int, want api.Errno) {
	t.Helper()
	if got, e := s.Scan(from, to, snap, most); len(got) > 0 || e != want {
		t.Errorf("Scan(%q, %q, %d, %d): %v %v, want %v", from, to, snap, most, got, e, want)
	}
}

func wrote(t *testing.T, s *store.Store, key string, snap int, want bool) {
	t.Helper()
	if got := s.Wrote(key, snap); got != want {
		t.Errorf("Wrote(%q, %d): %v", key, snap, got)
	}
}

func within(t *testing.T, s *store.Store, from, to string, snap int, want bool) {
	t.Helper()
	if got := s.Within(from, to, snap); got != want {
		t.Errorf("Within(%q, %q, %d): %v", from, to, snap, got)
	}
}

func install(t *testing.T, s *store.Store, l ...Pair) {
	t.Helper()
	at := s.Last() + 1
	if e := s.Install(at, l); e != api.OK {
		t.Fatalf("Install(%d, %v): %v", at, l, e)
	}
}

func collect(t *testing.T, s *store.Store, snap int) {
	t.Helper()
	if e := s.Collect(snap); e != api.OK {
		t.Fatalf("Collect(%d): %v", snap, e)
	}
}

func put(key, value string) Pair { return Pair{Key: key, Value: value} }

func drop(key string) Pair { return Pair{Key: key, Dead: true} }

// beyond is above all keys.
var beyond = strings.Repeat("\xff", api.MaxKey+1)

// four is a store with four records: keys that come, change, go, come again, and one that is dropped without ever having been there.
func four(t *testing.T) *store.Store {
	t.Helper()
	s := store.New()
	install(t, s, put("a", "a1"), put("c", "c1"), put("e", "e1"))
	install(t, s, put("b", "b2"), drop("c"), drop("x"))
	install(t, s, put("a", "a3"), put("c", "c3"), drop("e"))
	install(t, s, drop("a"), put("d", ""))
	return s
}

// P8.1

func TestNew(t *testing.T) {
	s := store.New()
	if s == nil {
		t.Fatal("New: nil")
	}
	has(t, "a new one", s, 0, 0, 0)
	scans(t, s, "", beyond, 0, math.MaxInt)
	within(t, s, "", beyond, math.MinInt, false)
}

func TestGood(t *testing.T) {
	long := strings.Repeat("k", api.MaxKey)
	wide := strings.Repeat("v", api.MaxValue)
	good := map[string][]Pair{
		"nil":                        nil,
		"none":                       {},
		"one":                        {put("a", "x")},
		"a value of no bytes":        {put("a", "")},
		"a key of MaxKey bytes":      {put(long, "x")},
		"a value of MaxValue bytes":  {put("a", wide)},
		"both":                       {put(long, wide)},
		"Dead":                       {drop("a")},
		"Dead, of MaxKey bytes":      {drop(long)},
		"keys that rise":             {put("a", "x"), drop("b"), put("c", "")},
		"a key that goes on":         {put("a", "x"), put("a\x00", "x"), put("aa", "x"), put("b", "x")},
		"bytes, not letters":         {put("\x00", "x"), put("Z", "x"), put("a", "x"), put("\xc3", "x"), put("ä", "x"), put("\xff", "x")},
		"keys alike but for the end": {put(long[1:]+"a", "x"), put(long[1:]+"b", "x")},
		"bytes that are no text":     {put("\xff\xfe", "\xff\x00")},
	}
	for what, l := range good {
		is(t, what, store.Good(l), true)
	}
	bad := map[string][]Pair{
		"a key of no bytes":               {put("", "x")},
		"Dead, of no bytes":               {drop("")},
		"a key of MaxKey+1 bytes":         {put(long+"k", "x")},
		"Dead, of MaxKey+1 bytes":         {drop(long + "k")},
		"a value of MaxValue+1 bytes":     {put("a", wide+"v")},
		"two of a key":                    {put("a", "x"), put("a", "y")},
		"two of a key, one Dead":          {put("a", "x"), drop("a")},
		"two of a key, both alike":        {drop("a"), drop("a")},
		"keys that fall":                  {put("b", "x"), put("a", "x")},
		"a key that falls by its length":  {put("aa", "x"), put("a", "x")},
		"a key that falls by its letters": {put("a", "x"), put("Z", "x")},
		"Dead, with a value":              {{Key: "a", Value: "x", Dead: true}},
	}
	ahead, behind := put("A", "x"), put("z", "x")
	for what, l := range bad {
		is(t, what, store.Good(l), false)
		is(t, what+", behind another", store.Good(slices.Concat([]Pair{ahead}, l)), false)
		is(t, what+", ahead of another", store.Good(slices.Concat(l, []Pair{behind})), false)
		is(t, what+", among others", store.Good(slices.Concat([]Pair{ahead}, l, []Pair{behind})), false)
	}
	is(t, "three of which the first and the last are alike", store.Good([]Pair{put("a", ""), put("b", ""), put("a", "")}), false)
}

func TestInstall(t *testing.T) {
	s := store.New()
	for i, step := range []struct {
		l        []Pair
		versions int
	}{
		{[]Pair{put("a", "x"), put("b", "y")}, 2},
		{nil, 2},
		{[]Pair{}, 2},
		{[]Pair{drop("a"), drop("n"), put("z", "")}, 5},
		{[]Pair{put("a", "again")}, 6},
	} {
		isErr(t, "Install", s.Install(i+1, step.l), api.OK)
		has(t, "behind an Install", s, i+1, 0, step.versions)
	}
}

func TestInstallRefuses(t *testing.T) {
	fresh := []Pair{put("a", "new"), put("m", "new")}
	for _, s := range []*store.Store{store.New(), four(t)} {
		was := all(s)
		next := s.Last() + 1
		for _, at := range []int{next - 1, next + 1, next + 2, -1, -next, math.MinInt, math.MinInt + 1, math.MaxInt, 1 << 32, 1<<32 + next} {
			isErr(t, "Install at another record", s.Install(at, fresh), api.ErrArg)
			isErr(t, "Install of none at another record", s.Install(at, nil), api.ErrArg)
			isErr(t, "Install of what is not Good at another record", s.Install(at, []Pair{put("", "x")}), api.ErrArg)
		}
		for _, wrong := range []Pair{put("", "x"), put(beyond, "x"), put("n", strings.Repeat("v", api.MaxValue+1)), put("m", "again"), put("a", "falls"), {Key: "n", Value: "x", Dead: true}} {
			isErr(t, "Install of what is not Good", s.Install(next, append(slices.Clone(fresh), wrong)), api.ErrArg)
		}
		isAll(t, "behind what was refused", s, was)
		isErr(t, "Install behind what was refused", s.Install(next, fresh), api.OK)
		gets(t, s, "m", next, "new", api.OK)
	}
}

// Keys come to stand in order, wherever the new ones are put.
func TestInstallKeepsOrder(t *testing.T) {
	s := store.New()
	want := map[string]string{}
	for _, keys := range []string{"mq", "a", "z", "bcnoxy", "dlmpq", "AZ", "abcdefghijklmnopqrstuvwxyz"} {
		var l []Pair
		for _, key := range strings.Split(keys, "") {
			l = append(l, put(key, keys))
			want[key] = keys
		}
		install(t, s, l...)
		var pairs []Pair
		for c := range 128 {
			if v, ok := want[string(rune(c))]; ok {
				pairs = append(pairs, put(string(rune(c)), v))
			}
		}
		scans(t, s, "", beyond, s.Last(), math.MaxInt, pairs...)
	}
}

// P8.2

func TestExample(t *testing.T) {
	s := store.New()
	isErr(t, "Install", s.Install(1, []Pair{put("a", "x")}), api.OK)
	isErr(t, "Install", s.Install(2, []Pair{drop("a")}), api.OK)
	gets(t, s, "a", 1, "x", api.OK)
	gets(t, s, "a", 2, "", api.ErrNone)
}

func TestGet(t *testing.T) {
	s := four(t)
	has(t, "four records", s, 4, 0, 11)
	for key, values := range map[string][5]string{
		"a": {"-", "a1", "a1", "a3", "-"},
		"b": {"-", "-", "b2", "b2", "b2"},
		"c": {"-", "c1", "-", "c3", "c3"},
		"d": {"-", "-", "-", "-", ""},
		"e": {"-", "e1", "e1", "-", "-"},
		"x": {"-", "-", "-", "-", "-"},
		"y": {"-", "-", "-", "-", "-"},
		"":  {"-", "-", "-", "-", "-"},
	} {
		for snap, value := range values {
			if value == "-" {
				gets(t, s, key, snap, "", api.ErrNone)
			} else {
				gets(t, s, key, snap, value, api.OK)
			}
		}
	}
	for _, key := range []string{"A", "aa", "a\x00", "ab", beyond} {
		gets(t, s, key, 1, "", api.ErrNone)
	}
}

func TestSnapshotsThatAreNotThere(t *testing.T) {
	s := four(t)
	for floor := 0; floor <= 4; floor++ {
		collect(t, s, floor)
		for _, snap := range []int{floor - 1, -1, -5, math.MinInt} {
			for _, key := range []string{"a", "b", "x", "none", "", beyond} {
				gets(t, s, key, snap, "", api.ErrGone)
			}
			scanFails(t, s, "", beyond, snap, 9, api.ErrGone)
			scanFails(t, s, "b", "a", snap, 9, api.ErrGone)
			scanFails(t, s, "", beyond, snap, -1, api.ErrGone)
		}
		for _, snap := range []int{5, 6, 1 << 32, math.MaxInt} {
			for _, key := range []string{"a", "b", "x", "none", "", beyond} {
				gets(t, s, key, snap, "", api.ErrArg)
			}
			scanFails(t, s, "", beyond, snap, 9, api.ErrArg)
			scanFails(t, s, "b", "a", snap, 9, api.ErrArg)
			scanFails(t, s, "", beyond, snap, -1, api.ErrArg)
		}
		gets(t, s, "b", 4, "b2", api.OK)
	}
	empty := store.New()
	gets(t, empty, "a", 0, "", api.ErrNone)
	gets(t, empty, "a", 1, "", api.ErrArg)
	gets(t, empty, "a", -1, "", api.ErrGone)
	scans(t, empty, "", beyond, 0, 9)
	scanFails(t, empty, "", beyond, 1, 9, api.ErrArg)
	scanFails(t, empty, "", beyond, -1, 9, api.ErrGone)
}

func TestScan(t *testing.T) {
	s := four(t)
	most := math.MaxInt
	scans(t, s, "", beyond, 0, most)
	scans(t, s, "", beyond, 1, most, put("a", "a1"), put("c", "c1"), put("e", "e1"))
	scans(t, s, "", beyond, 2, most, put("a", "a1"), put("b", "b2"), put("e", "e1"))
	scans(t, s, "", beyond, 3, most, put("a", "a3"), put("b", "b2"), put("c", "c3"))
	scans(t, s, "", beyond, 4, most, put("b", "b2"), put("c", "c3"), put("d", ""))

	a, b, c := put("a", "a3"), put("b", "b2"), put("c", "c3")
	scans(t, s, "a", "d", 3, most, a, b, c)
	scans(t, s, "a", "c", 3, most, a, b)
	scans(t, s, "a", "c\x00", 3, most, a, b, c)
	scans(t, s, "a\x00", "c", 3, most, b)
	scans(t, s, "b", "c", 3, most, b)
	scans(t, s, "b", "b\x00", 3, most, b)
	scans(t, s, "c", "z", 3, most, c)
	scans(t, s, "", "a", 3, most)
	scans(t, s, "", "a\x00", 3, most, a)
	scans(t, s, "d", "z", 3, most)
	scans(t, s, "aa", "az", 3, most)
	scans(t, s, "z", beyond, 3, most)
	scans(t, s, "b", "b", 3, most)
	scans(t, s, "c", "a", 3, most)
	scans(t, s, "", "", 3, most)
	scans(t, s, "a", "", 3, most)
	scans(t, s, beyond, "", 3, most)
}

// A key that is Dead at the snapshot, or came later, is none of the most.
func TestScanAtMost(t *testing.T) {
	s := four(t)
	want := []Pair{put("b", "b2"), put("c", "c3"), put("d", "")}
	for most, n := range map[int]int{0: 0, -1: 0, -2: 0, math.MinInt: 0, 1: 1, 2: 2, 3: 3, 4: 3, 5: 3, math.MaxInt: 3} {
		scans(t, s, "", beyond, 4, most, want[:n]...)
		scans(t, s, "a", "e", 4, most, want[:n]...)
	}
	scans(t, s, "c", beyond, 4, 1, put("c", "c3"))
	scans(t, s, "", beyond, 1, 2, put("a", "a1"), put("c", "c1"))
	scans(t, s, "b", "b", 4, 1)
}

// R5

func TestNotMade(t *testing.T) {
	for what, s := range map[string]*store.Store{"nil": nil, "zero": {}} {
		for range 2 {
			isErr(t, what+": Install", s.Install(1, []Pair{put("a", "x")}), api.ErrMade)
			isErr(t, what+": Install of none", s.Install(1, nil), api.ErrMade)
			isErr(t, what+": Install of what may not be", s.Install(7, []Pair{put("", "x")}), api.ErrMade)
			for _, snap := range []int{-1, 0, 1, math.MinInt, math.MaxInt} {
				gets(t, s, "a", snap, "", api.ErrMade)
				scanFails(t, s, "", beyond, snap, 9, api.ErrMade)
				scanFails(t, s, "", beyond, snap, -1, api.ErrMade)
				wrote(t, s, "a", snap, false)
				within(t, s, "", beyond, snap, false)
				isErr(t, what+": Collect", s.Collect(snap), api.ErrMade)
			}
			has(t, what, s, 0, 0, 0)
			if s.Copy() != nil {
				t.Errorf("%s: Copy is a store", what)
			}
		}
	}
}
