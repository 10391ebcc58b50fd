package chain_test

import (
	"iter"
	"math"
	"slices"
	"testing"

	"indenture/internal/noise"
)

// isRight is Good by the chapter's words alone.
func isRight(c Chain) bool {
	for i, v := range c {
		if v.At < 1 || i > 0 && v.At <= c[i-1].At || v.Dead && v.Value != "" {
			return false
		}
	}
	return true
}

// told is Get by the chapter's words alone, of a chain that is Good: zero where there is none.
func told(c Chain, snap int) Version {
	var last Version
	for _, v := range c {
		if v.At <= snap {
			last = v
		}
	}
	if last.Dead {
		return Version{}
	}
	return last
}

// above is Since by the chapter's words alone, of a chain that is Good.
func above(c Chain, snap int) int {
	n := 0
	for _, v := range c {
		if v.At > snap {
			n++
		}
	}
	return n
}

// trimmed is Trim by the chapter's words alone, of a chain that is Good.
func trimmed(c Chain, snap int) Chain {
	var left Chain
	for i, v := range c {
		if !slices.ContainsFunc(c[i+1:], func(later Version) bool { return later.At <= snap }) {
			left = append(left, v)
		}
	}
	if len(left) > 0 && left[0].Dead && left[0].At <= snap {
		left = left[1:]
	}
	return left
}

// cutOff is Cut by the chapter's words alone, of a chain that is Good.
func cutOff(c Chain, at int) Chain {
	return slices.DeleteFunc(slices.Clone(c), func(v Version) bool { return v.At > at })
}

// putAgrees holds Put against the chapter's words.
func putAgrees(t *testing.T, c Chain, v Version) {
	t.Helper()
	if isRight(append(slices.Clone(c), v)) {
		puts(t, c, v)
	} else {
		refuses(t, c, v)
	}
}

// agrees holds each other call, at a snapshot, against the chapter's words.
func agrees(t *testing.T, c Chain, snap int) {
	t.Helper()
	was := slices.Clone(c)
	words := c
	if !isRight(c) {
		words = nil // of which nothing is told, as of none
	}
	last := 0
	if len(words) > 0 {
		last = words[len(words)-1].At
	}
	isGood(t, "any", c, isRight(c))
	isLast(t, c, last)
	gets(t, c, snap, told(words, snap))
	isSince(t, c, snap, above(words, snap))
	isChain(t, "Trim", c.Trim(snap), trimmed(words, snap))
	isChain(t, "Cut", c.Cut(snap), cutOff(words, snap))
	isChain(t, "what was handed in", c, was)
}

// versions: each of those At, with a Value, with an empty one, Dead, and Dead with a Value.
func versions(ats ...int) []Version {
	var l []Version
	for _, at := range ats {
		l = append(l, Version{At: at, Value: "a"}, Version{At: at}, Version{At: at, Dead: true}, Version{At: at, Value: "a", Dead: true})
	}
	return l
}

// lists: all lists of at most that many of those.
func lists(of []Version, most int) []Chain {
	all := []Chain{nil}
	begin := 0
	for range most {
		end := len(all)
		for _, c := range all[begin:end] {
			for _, v := range of {
				all = append(all, append(slices.Clone(c), v))
			}
		}
		begin = end
	}
	return all
}

// goods: all chains of At from 1 to 5, each of which has a Value, or is Dead, or is not there.
func goods() iter.Seq[Chain] {
	return func(yield func(Chain) bool) {
		for number := range 3 * 3 * 3 * 3 * 3 {
			var c Chain
			for at, n := 1, number; at <= 5; at, n = at+1, n/3 {
				if n%3 > 0 {
					c = append(c, Version{At: at, Value: "vwxyz"[at-1 : at][:n%3-1], Dead: n%3 == 1})
				}
			}
			if !yield(c) {
				return
			}
		}
	}
}

func TestAllShortLists(t *testing.T) {
	of := versions(-1, 0, 1, 2, 3)
	for _, c := range lists(of, 3) {
		for snap := -2; snap <= 4; snap++ {
			agrees(t, c, snap)
		}
		for _, v := range of {
			putAgrees(t, c, v)
		}
		if t.Failed() {
			t.FailNow()
		}
	}
}

func TestAllGoodChains(t *testing.T) {
	for c := range goods() {
		for snap := -1; snap <= 7; snap++ {
			agrees(t, c, snap)
			for _, v := range versions(snap) {
				putAgrees(t, c, v)
			}
		}
		if t.Failed() {
			t.FailNow()
		}
	}
}

// P7.3

// What is behind snap is told by Since as it was, too.
func TestTrimChangesNoLaterGet(t *testing.T) {
	for c := range goods() {
		for snap := -1; snap <= 7; snap++ {
			left := c.Trim(snap)
			for _, later := range []int{snap, snap + 1, snap + 2, snap + 3, snap + 4, snap + 5, snap + 6, snap + 7, math.MaxInt} {
				was, wasThere := c.Get(later)
				is, isThere := left.Get(later)
				if was != is || wasThere != isThere {
					t.Errorf("%v Trim(%d) Get(%d): %v %v, was %v %v", c, snap, later, is, isThere, was, wasThere)
				}
				isSince(t, left, later, c.Since(later))
			}
		}
	}
}

// No shorter chain would do: without any one that is left, a Get or a Since from snap on is another.
func TestTrimLeavesNoneTooMany(t *testing.T) {
	for c := range goods() {
		for snap := range 7 {
			left := c.Trim(snap)
			for i := range left {
				less := slices.Delete(slices.Clone(left), i, i+1)
				changed := false
				for later := snap; later <= 7; later++ {
					changed = changed || told(less, later) != told(left, later) || above(less, later) != above(left, later)
				}
				if !changed {
					t.Errorf("%v Trim(%d): %v, of which %v is asked for by none", c, snap, left, left[i])
				}
			}
		}
	}
}

// R3

// answers: each call that answers a chain.
func answers() map[string]func(Chain) Chain {
	put := func(v Version) func(Chain) Chain {
		return func(c Chain) Chain {
			out, _ := c.Put(v)
			return out
		}
	}
	return map[string]func(Chain) Chain{
		"Put":                 put(Version{At: 9, Value: "new"}),
		"Put that is refused": put(Version{At: 1, Value: "new"}),
		"Put of a wrong one":  put(Version{At: 9, Value: "new", Dead: true}),
		"Trim ahead of all":   func(c Chain) Chain { return c.Trim(0) },
		"Trim":                func(c Chain) Chain { return c.Trim(3) },
		"Trim behind all":     func(c Chain) Chain { return c.Trim(9) },
		"Cut ahead of all":    func(c Chain) Chain { return c.Cut(0) },
		"Cut":                 func(c Chain) Chain { return c.Cut(3) },
		"Cut behind all":      func(c Chain) Chain { return c.Cut(9) },
	}
}

// handed: chains with room behind them, Good ones and others.
func handed() []Chain {
	return []Chain{example(), nil, {{At: 2, Value: "a"}}, {{At: 2, Value: "a"}, {At: 2, Value: "b"}}, {{At: 0, Value: "a"}, {At: 3, Dead: true}}}
}

// roomy is c at the begin of a longer list, all of which is told, too.
func roomy(c Chain) (Chain, Chain) {
	room := append(slices.Clone(c), slices.Repeat(Chain{{At: 77, Value: "room"}}, 8)...)
	return room[:len(c)], room
}

func spoil(c Chain) {
	for i := range c[:cap(c)] {
		c[:cap(c)][i] = Version{At: 66, Value: "spoilt"}
	}
}

func TestAnswersAreNewMemory(t *testing.T) {
	for name, answer := range answers() {
		for _, plain := range handed() {
			want := slices.Clone(answer(plain))
			c, room := roomy(plain)
			was := slices.Clone(room)
			first, second := answer(c), answer(c)
			isChain(t, name+" where there is room", first, want)
			isChain(t, name+": what was handed in, and its room", room, was)
			spoil(first)
			isChain(t, name+": what was handed in, behind a changed answer", room, was)
			isChain(t, name+" behind another changed answer", second, want)
			spoil(room)
			isChain(t, name+" behind what was handed in was changed", second, want)
		}
	}
}

// Two versions put behind one chain stand in two chains.
func TestTwoPutsBehindOne(t *testing.T) {
	c := puts(t, example(), Version{At: 6, Value: "c"})
	first := puts(t, c, Version{At: 7, Value: "first"})
	second := puts(t, c, Version{At: 8, Value: "second"})
	gets(t, first, 9, Version{At: 7, Value: "first"})
	gets(t, second, 9, Version{At: 8, Value: "second"})
	gets(t, c, 9, Version{At: 6, Value: "c"})
}

// anyOf: a chain, a snapshot and a version from bytes. One of sixteen of the chain does not rise, and one is Dead with a Value.
func anyOf(b []byte) (Chain, int, Version) {
	number := func() int {
		if len(b) == 0 {
			return 0
		}
		x := int(b[0])
		b = b[1:]
		return x
	}
	last := 0
	version := func() Version {
		last += number() % 16
		switch kind := number() % 16; {
		case kind == 0:
			return Version{At: last, Value: "a", Dead: true}
		case kind < 6:
			return Version{At: last, Dead: true}
		default:
			return Version{At: last, Value: "0123456789"[:kind-6]}
		}
	}
	snap := number() - 10
	v := Version{At: number(), Value: "x"[:number()%2], Dead: number()%2 == 1}
	var c Chain
	for len(b) > 0 {
		c = append(c, version())
	}
	return c, snap, v
}

func TestAnyChain(t *testing.T) {
	good := 0
	for seed := range 3000 {
		c, snap, v := anyOf(noise.Bytes(uint32(seed)*7919+1, seed%100))
		if c.Good() {
			good++
		}
		agrees(t, c, snap)
		agrees(t, c, c.Last()/2)
		putAgrees(t, c, v)
		v.At = c.Last() + 1
		putAgrees(t, c, v)
	}
	if good < 300 || good > 2700 {
		t.Errorf("%d of 3000 are Good: the others are too few to tell, or these", good)
	}
}

// FuzzCalls goes over its seeds in an ordinary run, and on from them by go test -fuzz.
func FuzzCalls(f *testing.F) {
	f.Add([]byte(nil))
	for seed := range 10 {
		f.Add(noise.Bytes(uint32(seed)+1000, 10*seed))
	}
	f.Fuzz(func(t *testing.T, b []byte) {
		c, snap, v := anyOf(b)
		agrees(t, c, snap)
		putAgrees(t, c, v)
		left := c.Trim(snap)
		for later := snap; later < snap+20; later++ {
			gets(t, left, later, told(left, later))
			if c.Good() {
				gets(t, left, later, told(c, later))
			}
		}
	})
}
