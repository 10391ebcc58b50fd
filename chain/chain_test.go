package chain_test

import (
	"math"
	"slices"
	"strings"
	"testing"

	"indenture/chain"
)

type (
	Chain   = chain.Chain
	Version = chain.Version
)

// example: the chapter's own.
func example() Chain {
	return Chain{{At: 1, Value: "a"}, {At: 3, Dead: true}, {At: 5, Value: "b"}}
}

// wrong: chains that are not Good, each for one thing.
func wrong() map[string]Chain {
	return map[string]Chain{
		"a first of 0":                {{At: 0, Value: "a"}, {At: 3, Value: "b"}},
		"a first of 0 alone":          {{At: 0, Value: "a"}},
		"a zero one":                  {{}},
		"a first below 0":             {{At: -1, Value: "a"}, {At: 3, Value: "b"}},
		"a first below all":           {{At: math.MinInt, Value: "a"}, {At: 3, Value: "b"}},
		"two of one At":               {{At: 1, Value: "a"}, {At: 3, Value: "b"}, {At: 3, Value: "c"}},
		"two of one At that are like": {{At: 1, Value: "a"}, {At: 1, Value: "a"}},
		"one that falls":              {{At: 1, Value: "a"}, {At: 3, Value: "b"}, {At: 2, Value: "c"}},
		"one that falls in between":   {{At: 2, Value: "a"}, {At: 1, Value: "b"}, {At: 3, Value: "c"}},
		"one that falls below 0":      {{At: 1, Value: "a"}, {At: -2, Value: "b"}},
		"a Dead one with a Value":     {{At: 1, Value: "a"}, {At: 3, Value: "b", Dead: true}, {At: 5, Value: "c"}},
		"a first Dead with a Value":   {{At: 1, Value: "b", Dead: true}, {At: 3, Value: "c"}},
		"a last Dead with a Value":    {{At: 1, Value: "b"}, {At: 3, Value: "c", Dead: true}},
	}
}

// snaps: snapshots around those of small chains, and at the ends of numbers.
func snaps() []int {
	return []int{math.MinInt, -2, -1, 0, 1, 2, 3, 4, 5, 6, 7, math.MaxInt}
}

func isChain(t *testing.T, what string, got, want Chain) {
	t.Helper()
	if !slices.Equal(got, want) {
		t.Errorf("%s: %v, want %v", what, got, want)
	}
}

func isGood(t *testing.T, what string, c Chain, want bool) {
	t.Helper()
	if got := c.Good(); got != want {
		t.Errorf("Good of %s: %v, want %v", what, got, want)
	}
}

func puts(t *testing.T, c Chain, v Version) Chain {
	t.Helper()
	got, ok := c.Put(v)
	if !ok {
		t.Errorf("%v Put(%v): false", c, v)
	}
	isChain(t, "Put", got, append(slices.Clone(c), v))
	return got
}

func refuses(t *testing.T, c Chain, v Version) {
	t.Helper()
	got, ok := c.Put(v)
	if ok {
		t.Errorf("%v Put(%v): true", c, v)
	}
	isChain(t, "Put that is refused", got, c)
}

// gets: a zero want is none.
func gets(t *testing.T, c Chain, snap int, want Version) {
	t.Helper()
	got, ok := c.Get(snap)
	if got != want || ok != (want != Version{}) {
		t.Errorf("%v Get(%d): %v %v, want %v", c, snap, got, ok, want)
	}
}

func isSince(t *testing.T, c Chain, snap, want int) {
	t.Helper()
	if got := c.Since(snap); got != want {
		t.Errorf("%v Since(%d): %d, want %d", c, snap, got, want)
	}
}

func isLast(t *testing.T, c Chain, want int) {
	t.Helper()
	if got := c.Last(); got != want {
		t.Errorf("%v Last: %d, want %d", c, got, want)
	}
}

// P7.1

func TestExample(t *testing.T) {
	c := example()
	isGood(t, "the example", c, true)
	gets(t, c, 2, Version{At: 1, Value: "a"})
	gets(t, c, 4, Version{})
	isChain(t, "Trim(4)", c.Trim(4), Chain{{At: 5, Value: "b"}})
}

func TestGood(t *testing.T) {
	for name, c := range map[string]Chain{
		"none":                      nil,
		"no versions":               {},
		"one":                       {{At: 1, Value: "a"}},
		"one far behind":            {{At: math.MaxInt, Value: "a"}},
		"an empty Value":            {{At: 1}},
		"one that is Dead":          {{At: 1, Dead: true}},
		"two that are Dead":         {{At: 1, Dead: true}, {At: 2, Dead: true}},
		"the example":               example(),
		"one and the greatest":      {{At: 1, Value: "a"}, {At: math.MaxInt, Dead: true}},
		"the same Value again":      {{At: 1, Value: "a"}, {At: 2, Value: "a"}},
		"a Value of any length":     {{At: 1, Value: strings.Repeat("a", 1000)}},
		"a Value of any bytes":      {{At: 1, Value: "\x00\xff"}},
		"a Value behind a Dead one": {{At: 1, Dead: true}, {At: 2, Value: "a"}},
	} {
		isGood(t, name, c, true)
	}
	for name, c := range wrong() {
		isGood(t, name, c, false)
	}
}

func TestPut(t *testing.T) {
	var c Chain
	last := 0
	for i, v := range []Version{{At: 1, Value: "a"}, {At: 2, Dead: true}, {At: 3, Dead: true}, {At: 5}, {At: 6, Value: "b"}, {At: 100, Value: "b"}, {At: math.MaxInt, Dead: true}} {
		isLast(t, c, last)
		c = puts(t, c, v)
		last = v.At
		isGood(t, "what was put", c, true)
		gets(t, c, v.At-1, told(c, v.At-1))
		gets(t, c, v.At, told(c, v.At))
		isSince(t, c, v.At-1, 1)
		isSince(t, c, v.At, 0)
		isSince(t, c, 0, i+1)
	}
	refuses(t, c, Version{At: math.MaxInt, Value: "c"})
	refuses(t, c, Version{At: math.MinInt, Value: "c"})
}

func TestPutOnNone(t *testing.T) {
	for _, c := range []Chain{nil, {}} {
		for _, v := range []Version{{At: 1}, {At: 1, Value: "a"}, {At: 1, Dead: true}, {At: 7, Value: "a"}, {At: math.MaxInt, Value: "a"}} {
			puts(t, c, v)
		}
		for _, at := range []int{0, -1, math.MinInt} {
			refuses(t, c, Version{At: at})
			refuses(t, c, Version{At: at, Value: "a"})
			refuses(t, c, Version{At: at, Dead: true})
		}
		refuses(t, c, Version{At: 1, Value: "a", Dead: true})
	}
}

func TestPutIsRefused(t *testing.T) {
	c := example()
	for _, at := range []int{5, 4, 3, 2, 1, 0, -1, math.MinInt} {
		refuses(t, c, Version{At: at, Value: "c"})
		refuses(t, c, Version{At: at, Dead: true})
		refuses(t, c, Version{At: at, Value: "c", Dead: true})
	}
	refuses(t, c, Version{At: 6, Value: "c", Dead: true})
	puts(t, c, Version{At: 6, Value: "c"})
	puts(t, c, Version{At: 6, Dead: true})
}

func TestGet(t *testing.T) {
	c := example()
	a, b := c[0], c[2]
	for snap, want := range map[int]Version{
		math.MinInt: {}, -1: {}, 0: {}, // ahead of the first
		1: a, 2: a, // at it, and between two
		3: {}, 4: {}, // where it is Dead
		5: b, 6: b, 1000: b, math.MaxInt: b, // behind the last
	} {
		gets(t, c, snap, want)
	}
	dead := puts(t, c, Version{At: 7, Dead: true})
	for snap, want := range map[int]Version{4: {}, 5: b, 6: b, 7: {}, 8: {}, math.MaxInt: {}} {
		gets(t, dead, snap, want)
	}
	late := Chain{{At: 4, Value: "a"}}
	for snap, want := range map[int]Version{math.MinInt: {}, 0: {}, 1: {}, 3: {}, 4: late[0], 5: late[0]} {
		gets(t, late, snap, want)
	}
	for _, snap := range snaps() {
		gets(t, nil, snap, Version{})
		gets(t, Chain{}, snap, Version{})
		gets(t, Chain{{At: 1, Dead: true}}, snap, Version{})
	}
}

// An empty Value is there; only a Dead one is not.
func TestGetOfAnEmptyValue(t *testing.T) {
	c := Chain{{At: 2, Value: "a"}, {At: 4}}
	gets(t, c, 3, c[0])
	gets(t, c, 4, Version{At: 4})
}

func TestLast(t *testing.T) {
	isLast(t, nil, 0)
	isLast(t, Chain{}, 0)
	isLast(t, Chain{{At: 4, Value: "a"}}, 4)
	isLast(t, example(), 5)
	isLast(t, Chain{{At: 1, Value: "a"}, {At: 3, Dead: true}}, 3)
	isLast(t, Chain{{At: math.MaxInt}}, math.MaxInt)
}

func TestSince(t *testing.T) {
	for snap, want := range map[int]int{math.MinInt: 3, -1: 3, 0: 3, 1: 2, 2: 2, 3: 1, 4: 1, 5: 0, 6: 0, math.MaxInt: 0} {
		isSince(t, example(), snap, want)
	}
	for _, snap := range snaps() {
		isSince(t, nil, snap, 0)
		isSince(t, Chain{}, snap, 0)
	}
	greatest := Chain{{At: math.MaxInt}}
	isSince(t, greatest, math.MaxInt-1, 1)
	isSince(t, greatest, math.MaxInt, 0)
}

// A place is found in a chain of many versions, at every one.
func TestLongChain(t *testing.T) {
	var c Chain
	for i := range 300 {
		c = append(c, Version{At: 3 * (i + 1), Value: strings.Repeat("x", i%5), Dead: i%5 == 0})
	}
	isGood(t, "a long chain", c, true)
	isLast(t, c, 900)
	for snap := -1; snap <= 902; snap++ {
		gets(t, c, snap, told(c, snap))
		isSince(t, c, snap, len(c)-max(min(snap/3, len(c)), 0))
		isChain(t, "Trim", c.Trim(snap), trimmed(c, snap))
		isChain(t, "Cut", c.Cut(snap), c[:max(min(snap/3, len(c)), 0)])
	}
}

// Of a chain that is not Good nothing is told; what may be put is refused, too.
func TestNotGood(t *testing.T) {
	for name, c := range wrong() {
		was := slices.Clone(c)
		for _, v := range []Version{{}, {At: 1}, {At: 4, Value: "a"}, {At: 6, Value: "a"}, {At: 6, Dead: true}, {At: math.MaxInt, Value: "a"}, {At: 6, Value: "a", Dead: true}} {
			refuses(t, c, v)
		}
		isLast(t, c, 0)
		for _, snap := range snaps() {
			gets(t, c, snap, Version{})
			isSince(t, c, snap, 0)
			isChain(t, "Trim of "+name, c.Trim(snap), nil)
			isChain(t, "Cut of "+name, c.Cut(snap), nil)
		}
		isChain(t, name, c, was)
	}
}
