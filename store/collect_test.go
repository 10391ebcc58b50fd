package store_test

import (
	"math"
	"slices"
	"testing"

	"indenture/api"
	"indenture/store"
)

// P8.3

func TestWrote(t *testing.T) {
	s := four(t)
	for key, last := range map[string]int{"a": 4, "b": 2, "c": 3, "d": 4, "e": 3, "x": 2} {
		for snap := -1; snap <= 6; snap++ {
			wrote(t, s, key, snap, snap < last)
		}
		wrote(t, s, key, math.MinInt, true)
		wrote(t, s, key, math.MaxInt, false)
	}
	for _, key := range []string{"", "y", "aa", "a\x00", beyond} {
		wrote(t, s, key, 0, false)
		wrote(t, s, key, math.MinInt, false)
	}
}

func TestWithin(t *testing.T) {
	s := four(t)
	for _, x := range []struct {
		from, to string
		last     int // the snapshot from which on nothing was written there
	}{
		{"", beyond, 4},
		{"a", "b", 4},
		{"a", "a\x00", 4},
		{"a\x00", "c", 2},
		{"b", "c", 2},
		{"b", "c\x00", 3},
		{"b", "d", 3},
		{"c", "d", 3},
		{"c", "e", 4},
		{"e", "f", 3},
		{"d\x00", "e", math.MinInt},
		{"d\x00", "e\x00", 3},
		{"f", beyond, 2},
		{"x", beyond, 2},
		{"f", "x", math.MinInt},
		{"y", beyond, math.MinInt},
		{"", "a", math.MinInt},
		{"", "a\x00", 4},
		{"a", "a", math.MinInt},
		{"c", "a", math.MinInt},
		{beyond, "", math.MinInt},
		{"", "", math.MinInt},
	} {
		for _, snap := range []int{math.MinInt, -1, 0, 1, 2, 3, 4, 5, math.MaxInt} {
			within(t, s, x.from, x.to, snap, snap < x.last)
		}
	}
}

func TestCollect(t *testing.T) {
	for _, x := range []struct{ snap, versions int }{
		{0, 11},
		{1, 11}, // of each key there is but one up to 1
		{2, 8},  // without c1, and without c's end and x's, which say no more than none
		{3, 5},  // without a1 and all of e, too
		{4, 3},  // b2, c3 and d
	} {
		s := four(t)
		collect(t, s, x.snap)
		has(t, "Collect", s, 4, x.snap, x.versions)
	}
	s := four(t)
	for snap, versions := range []int{11, 11, 8, 5, 3} {
		collect(t, s, snap)
		has(t, "one Collect behind another", s, 4, snap, versions)
	}
	install(t, s)
	has(t, "an Install behind a Collect", s, 5, 4, 3)
	install(t, s, drop("b"), drop("c"), drop("d"))
	has(t, "an Install behind a Collect", s, 6, 4, 6)
	collect(t, s, 5)
	has(t, "Collect ahead of the end of all", s, 6, 5, 6)
	collect(t, s, 6)
	has(t, "Collect of all", s, 6, 6, 0)
	scans(t, s, "", beyond, 6, 9)
	within(t, s, "", beyond, math.MinInt, false)
}

// What was collected is no version any more; the one that a snapshot still asks for is.
func TestCollectAndWhatWasWritten(t *testing.T) {
	s := four(t)
	collect(t, s, 3)
	for key, last := range map[string]int{"a": 4, "b": 2, "c": 3, "d": 4, "e": math.MinInt, "x": math.MinInt} {
		for _, snap := range []int{math.MinInt, -1, 0, 1, 2, 3, 4, 5, math.MaxInt} {
			wrote(t, s, key, snap, snap < last)
			within(t, s, key, key+"\x00", snap, snap < last)
		}
	}
	within(t, s, "e", beyond, math.MinInt, false)
}

func keeps(t *testing.T, what string, s *store.Store, want ...string) {
	t.Helper()
	if keys, chains := store.Kept(s); !slices.Equal(keys, want) || chains != len(want) {
		t.Errorf("%s: keys %q, %d chains, want %q", what, keys, chains, want)
	}
}

func TestKeysWithoutVersionsGo(t *testing.T) {
	s := four(t)
	keeps(t, "ahead of a Collect", s, "a", "b", "c", "d", "e", "x")
	for snap, keys := range [][]string{{"a", "b", "c", "d", "e", "x"}, {"a", "b", "c", "d", "e", "x"}, {"a", "b", "c", "d", "e"}, {"a", "b", "c", "d"}, {"b", "c", "d"}} {
		collect(t, s, snap)
		keeps(t, "Collect", s, keys...)
	}
	install(t, s, drop("b"), drop("c"), drop("d"))
	keeps(t, "all dropped", s, "b", "c", "d")
	collect(t, s, 5)
	keeps(t, "all dropped and collected", s)
}

// A key that went may come again, and stands there once.
func TestKeysGoAndComeAgain(t *testing.T) {
	s := four(t)
	install(t, s, drop("b"), put("f", "f5"))
	collect(t, s, 5)
	has(t, "without a, b, e and x", s, 5, 5, 3)
	scans(t, s, "", beyond, 5, 9, put("c", "c3"), put("d", ""), put("f", "f5"))
	install(t, s, put("a", "a6"), put("b", "b6"), put("x", "x6"))
	want := []Pair{put("a", "a6"), put("b", "b6"), put("c", "c3"), put("d", ""), put("f", "f5"), put("x", "x6")}
	scans(t, s, "", beyond, 6, 99, want...)
	scans(t, s, "", beyond, 5, 99, want[2:5]...)
	has(t, "with a, b and x", s, 6, 5, 6)
	gets(t, s, "a", 5, "", api.ErrNone)
	gets(t, s, "a", 6, "a6", api.OK)
	gets(t, s, "e", 6, "", api.ErrNone)
}

func TestCollectRefuses(t *testing.T) {
	s := four(t)
	for floor := 0; floor <= 4; floor++ {
		collect(t, s, floor)
		was := all(s)
		for _, snap := range []int{floor - 1, -1, math.MinInt, 5, 6, 1 << 32, math.MaxInt} {
			isErr(t, "Collect of a snapshot that is not there", s.Collect(snap), api.ErrArg)
		}
		isAll(t, "behind what was refused", s, was)
		isErr(t, "Collect again", s.Collect(floor), api.OK)
		isAll(t, "collected again", s, was)
	}
	empty := store.New()
	isErr(t, "Collect of a new one", empty.Collect(0), api.OK)
	isErr(t, "Collect of a new one", empty.Collect(1), api.ErrArg)
	isErr(t, "Collect of a new one", empty.Collect(-1), api.ErrArg)
	has(t, "a new one", empty, 0, 0, 0)
}

// What is done to the one is not done to the other, either way.
func TestCopy(t *testing.T) {
	acts := map[string]func(*store.Store){
		"Install of keys that are there": func(s *store.Store) { install(t, s, drop("b"), put("c", "new")) },
		"Install of keys that are new":   func(s *store.Store) { install(t, s, put("A", "new"), put("bb", "new"), put("z", "new")) },
		"Install of none":                func(s *store.Store) { install(t, s) },
		"Collect":                        func(s *store.Store) { collect(t, s, 3) },
		"Collect of all":                 func(s *store.Store) { collect(t, s, s.Last()) },
		"Install and Collect":            func(s *store.Store) { install(t, s, put("A", "new"), drop("c")); collect(t, s, s.Last()) },
		"Collect and Install":            func(s *store.Store) { collect(t, s, s.Last()); install(t, s, put("A", "new"), put("a", "new")) },
		"Install of a key that goes on":  func(s *store.Store) { install(t, s, put("a", "new"), put("aa", "new")) },
	}
	for what, act := range acts {
		for floor := 0; floor <= 3; floor++ {
			s := four(t)
			collect(t, s, floor)
			was := all(s)
			other := s.Copy()
			if other == s {
				t.Fatal("Copy is the same one")
			}
			isAll(t, "Copy", other, was)
			act(s)
			isAll(t, what+" of the one, and the other", other, was)
			act(other)
			isAll(t, what+" of both", other, all(s))

			s = four(t)
			collect(t, s, floor)
			third := s.Copy().Copy()
			act(third)
			isAll(t, what+" of the other, and the one", s, was)
		}
	}
	empty := store.New().Copy()
	has(t, "Copy of a new one", empty, 0, 0, 0)
	isErr(t, "Install into a copy of a new one", empty.Install(1, []Pair{put("a", "x")}), api.OK)
}

// Two copies whose last keys are installed one behind the other share no room.
func TestTwoCopiesGrow(t *testing.T) {
	s := four(t)
	for range 20 { // so that there is, of some of them, room behind the keys
		first, second := s.Copy(), s.Copy()
		install(t, first, put("y1", "first"))
		install(t, second, put("y2", "second"))
		install(t, s, put("y3", "third"))
		last := s.Last()
		scans(t, first, "y", beyond, last, 9, put("y1", "first"))
		scans(t, second, "y", beyond, last, 9, put("y2", "second"))
		scans(t, s, "y", beyond, last, 9, put("y3", "third"))
		collect(t, s, last)
		install(t, s, put("m", "x"), drop("y3"))
		collect(t, s, s.Last())
	}
}

// P8.4

func TestCollectChangesNothingFromItOn(t *testing.T) {
	for snap := 0; snap <= 4; snap++ {
		s := four(t)
		was := later(s, snap)
		collect(t, s, snap)
		isTold(t, "behind Collect", later(s, snap), was)
		other := four(t)
		for _, x := range []*store.Store{s, other} {
			install(t, x, put("a", "a5"), put("x", "x5"), put("z", "z5"))
			install(t, x, drop("b"), drop("z"))
		}
		isTold(t, "Collect, and what came behind", later(s, snap), later(other, snap))
	}
}
