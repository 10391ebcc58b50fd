package chain_test

import (
	"math"
	"slices"
	"testing"
)

func trims(t *testing.T, c Chain, snap int, want Chain) {
	t.Helper()
	got := c.Trim(snap)
	if !slices.Equal(got, want) {
		t.Errorf("%v Trim(%d): %v, want %v", c, snap, got, want)
	}
	if !got.Good() {
		t.Errorf("%v Trim(%d): %v, which is not Good", c, snap, got)
	}
	if again := got.Trim(snap); !slices.Equal(again, want) {
		t.Errorf("%v Trim(%d), trimmed again: %v, want %v", c, snap, again, want)
	}
}

func cuts(t *testing.T, c Chain, at int, want Chain) {
	t.Helper()
	got := c.Cut(at)
	if !slices.Equal(got, want) {
		t.Errorf("%v Cut(%d): %v, want %v", c, at, got, want)
	}
	if !got.Good() {
		t.Errorf("%v Cut(%d): %v, which is not Good", c, at, got)
	}
	if again := got.Cut(at); !slices.Equal(again, want) {
		t.Errorf("%v Cut(%d), cut again: %v, want %v", c, at, again, want)
	}
}

// P7.2

// At each place of the example: the Dead one goes as soon as all ahead of it do.
func TestTrim(t *testing.T) {
	c := example()
	for snap, want := range map[int]Chain{
		math.MinInt: c, -1: c, 0: c,
		1: c, 2: c,
		3: c[2:], 4: c[2:],
		5: c[2:], 6: c[2:], math.MaxInt: c[2:],
	} {
		trims(t, c, snap, want)
	}
}

// What has a Value stays, until a later one has an At that is at most snap, too.
func TestTrimOfValues(t *testing.T) {
	c := Chain{{At: 2, Value: "a"}, {At: 4, Value: "b"}, {At: 6, Value: ""}}
	for snap, want := range map[int]Chain{
		math.MinInt: c, 0: c, 1: c, 2: c, 3: c,
		4: c[1:], 5: c[1:],
		6: c[2:], 7: c[2:], math.MaxInt: c[2:],
	} {
		trims(t, c, snap, want)
	}
}

// A first that is Dead goes where its At is at most snap, and stays where it is above; one behind it stays.
func TestTrimOfDead(t *testing.T) {
	c := Chain{{At: 2, Dead: true}, {At: 4, Dead: true}, {At: 6, Dead: true}}
	for snap, want := range map[int]Chain{
		math.MinInt: c, 0: c, 1: c,
		2: c[1:], 3: c[1:],
		4: c[2:], 5: c[2:],
		6: nil, 7: nil, math.MaxInt: nil,
	} {
		trims(t, c, snap, want)
	}
	mixed := Chain{{At: 1, Value: "a"}, {At: 2, Dead: true}, {At: 3, Dead: true}, {At: 4, Value: "b"}, {At: 5, Dead: true}}
	for snap, want := range map[int]Chain{
		0: mixed, 1: mixed,
		2: mixed[2:],
		3: mixed[3:],
		4: mixed[3:],
		5: nil,
	} {
		trims(t, mixed, snap, want)
	}
}

func TestTrimOfOne(t *testing.T) {
	value, dead := Chain{{At: 3, Value: "a"}}, Chain{{At: 3, Dead: true}}
	for _, snap := range snaps() {
		trims(t, nil, snap, nil)
		trims(t, Chain{}, snap, nil)
		trims(t, value, snap, value)
		if snap < 3 {
			trims(t, dead, snap, dead)
		} else {
			trims(t, dead, snap, nil)
		}
	}
	greatest := Chain{{At: 1, Value: "a"}, {At: math.MaxInt, Dead: true}}
	trims(t, greatest, math.MaxInt-1, greatest)
	trims(t, greatest, math.MaxInt, nil)
}

// Trimmed in steps it is as trimmed at once.
func TestTrimOfTrimmed(t *testing.T) {
	for c := range goods() {
		for first := range 7 {
			for second := range 7 {
				isChain(t, "Trim of what was trimmed", c.Trim(first).Trim(second), c.Trim(max(first, second)))
			}
		}
	}
}

func TestCut(t *testing.T) {
	c := example()
	for at, want := range map[int]Chain{
		math.MinInt: nil, -1: nil, 0: nil,
		1: c[:1], 2: c[:1],
		3: c[:2], 4: c[:2],
		5: c, 6: c, math.MaxInt: c,
	} {
		cuts(t, c, at, want)
	}
	for _, at := range snaps() {
		cuts(t, nil, at, nil)
		cuts(t, Chain{}, at, nil)
	}
	greatest := Chain{{At: 1, Dead: true}, {At: math.MaxInt, Value: "a"}}
	cuts(t, greatest, math.MaxInt-1, greatest[:1])
	cuts(t, greatest, math.MaxInt, greatest)
}

// What was cut off may be put behind again.
func TestPutBehindCut(t *testing.T) {
	for c := range goods() {
		for at := range 7 {
			cut := c.Cut(at)
			for _, v := range c[len(cut):] {
				cut = puts(t, cut, v)
			}
			isChain(t, "put again", cut, c)
		}
	}
}
