package trie_test

import (
	"fmt"
	"maps"
	"slices"
	"testing"

	"indenture/internal/noise"
	"indenture/trie"
)

// P11.3

func TestExample(t *testing.T) {
	for _, keys := range [][2]Hash{{near(1), near(2)}, {zeros, ones}, {zeros, with(zeros, 255)}, {{0: 1}, {5: 1}}} {
		a, b := keys[0], keys[1]
		both := trie.New().Put(a, val(1)).Put(b, val(2))
		isRoot(t, "without b", both.Drop(b), trie.New().Put(a, val(1)).Root())
		isRoot(t, "without a", both.Drop(a), trie.New().Put(b, val(2)).Root())
		is(t, "without b", both.Drop(b), model{a: val(1)})
		is(t, "without a", both.Drop(a), model{b: val(2)})
	}
}

// orders tells all orders of 0 to n - 1.
func orders(n int) [][]int {
	if n == 0 {
		return [][]int{nil}
	}
	var out [][]int
	for _, l := range orders(n - 1) {
		for at := range n {
			out = append(out, slices.Insert(slices.Clone(l), at, n-1))
		}
	}
	return out
}

// All orders of Puts, and of Drops behind them: what is there behind each step is held against the words.
func TestAllOrders(t *testing.T) {
	for _, keys := range [][]Hash{
		{zeros, ones, with(zeros, 0), with(zeros, 255), with(ones, 255)},
		{near(1), near(2), near(3), near(128), near(129)},
		anyHashes(21, 5),
	} {
		for _, order := range orders(len(keys)) {
			x, m := trie.New(), model{}
			for _, i := range order {
				x, m[keys[i]] = x.Put(keys[i], val(i)), val(i)
				is(t, fmt.Sprint("Puts in the order ", order), x, m)
			}
			for i, k := range keys {
				x = x.Drop(k)
				delete(m, k)
				is(t, fmt.Sprint("Puts in the order ", order, ", Drops up to ", i), x, m)
			}
		}
	}
}

// All ways of four steps on three keys of two values. What a step was done to is asked again behind all that comes of it, half of the tries for the first time.
func TestAllShortWays(t *testing.T) {
	for _, keys := range [][]Hash{{zeros, with(zeros, 255), ones}, {near(4), near(12), near(13)}} {
		ways := 0
		var walk func(x *Trie, m model, steps int)
		walk = func(x *Trie, m model, steps int) {
			ways++
			if ways%2 == 0 {
				is(t, "ahead", x, m)
			}
			for i := range 9 {
				if steps == 0 || t.Failed() {
					break
				}
				k, other := keys[i/3], maps.Clone(m)
				if i%3 == 0 {
					delete(other, k)
					walk(x.Drop(k), other, steps-1)
				} else {
					other[k] = val(i % 3)
					walk(x.Put(k, val(i%3)), other, steps-1)
				}
			}
			is(t, "behind", x, m)
		}
		walk(trie.New(), model{}, 4)
		if ways != 1+9+81+729+6561 {
			t.Errorf("%d ways", ways)
		}
	}
}

// contents: all that some keys may have of two values: none, or one of these.
func contents(keys []Hash) []model {
	all := []model{{}}
	for _, k := range keys {
		for _, m := range all {
			for i := range 2 {
				other := maps.Clone(m)
				other[k] = val(i)
				all = append(all, other)
			}
		}
	}
	return all
}

// Of any two contents that are not the same the Roots are not, as no two inputs of one hash are known.
func TestOtherContentsHaveAnotherRoot(t *testing.T) {
	seen := map[Hash]model{}
	for _, keys := range [][]Hash{
		{zeros, ones, with(zeros, 0), with(zeros, 255), with(ones, 255)},
		{near(1), near(2), near(3), near(128), near(129), with(near(1), 130)},
	} {
		for _, m := range contents(keys) {
			x := trieOf(m)
			if had, ok := seen[x.Root()]; ok && !maps.Equal(had, m) {
				t.Errorf("%x and %x have one Root", had, m)
			}
			seen[x.Root()] = m
			is(t, "any contents", x, m)
		}
	}
	// The two lists have two keys in common, which have nine contents.
	if want := 243 + 729 - 9; len(seen) != want {
		t.Errorf("%d Roots, want %d", len(seen), want)
	}
}

// A value that is another one in any bit, and a key likewise, is another Root; changed back it is the same.
func TestEachBitCounts(t *testing.T) {
	m := model{near(1): val(1), near(2): val(2), near(200): val(3)}
	x := trieOf(m)
	seen := map[Hash]int{x.Root(): 1}
	for k, v := range m {
		for i := range 256 {
			other := x.Put(k, with(v, i))
			seen[other.Root()]++
			isRoot(t, "a value changed back", other.Put(k, v), m.root())
			moved := x.Drop(k).Put(with(k, i), v)
			if _, has := m[with(k, i)]; !has {
				seen[moved.Root()]++
				isRoot(t, "a key moved back", moved.Drop(with(k, i)).Put(k, v), m.root())
			}
		}
	}
	if want := 1 + 2*3*256; len(seen) != want {
		t.Errorf("%d Roots, want %d", len(seen), want)
	}
	is(t, "as before", x, m)
}

// A Trie is never changed

// kept is a trie, and what it has.
type kept struct {
	trie *Trie
	has  model
}

// anySteps does what bytes say to a trie and to a model, and holds them against each other behind each step; in the end all tries on the way, of which some were not asked for their Root, are asked again.
func anySteps(t *testing.T, b []byte) {
	t.Helper()
	x, m := trie.New(), model{}
	way := []kept{{x, maps.Clone(m)}}
	for ; len(b) >= 3; b = b[3:] {
		k := near(b[1])
		if b[0]&8 > 0 {
			k = with(k, int(b[2]))
		}
		if b[0]&7 < 3 {
			was, has := x, len(m)
			delete(m, k)
			if x = x.Drop(k); (x == was) != (len(m) == has) {
				t.Errorf("Drop of %x: itself %v, of %d now %d", k, x == was, has, len(m))
			}
		} else {
			x, m[k] = x.Put(k, val(int(b[2]&3))), val(int(b[2]&3))
		}
		if b[0]&16 > 0 {
			is(t, "any steps", x, m)
		}
		way = append(way, kept{x, maps.Clone(m)})
		if b[0] > 223 { // go on from an early one
			early := way[int(b[1])%len(way)]
			x, m = early.trie, maps.Clone(early.has)
		}
	}
	for i, early := range way {
		is(t, fmt.Sprint("asked behind, ", i, " of ", len(way)), early.trie, early.has)
	}
}

func TestAnySteps(t *testing.T) {
	for seed := range 120 {
		anySteps(t, noise.Bytes(uint32(seed)*7919+1, seed*2))
		if t.Failed() {
			t.FailNow()
		}
	}
}

// FuzzSteps goes over its seeds in an ordinary run, and on from them by go test -fuzz.
func FuzzSteps(f *testing.F) {
	f.Add([]byte(nil))
	for seed := range 10 {
		f.Add(noise.Bytes(uint32(seed)+1000, 30*seed))
	}
	f.Fuzz(anySteps)
}

// Two that came of one go their own ways, its Root asked for ahead, between, or behind.
func TestTwoOfOne(t *testing.T) {
	m := model{}
	for i := range 20 {
		m[near(byte(i*13))] = val(i)
	}
	for asked := range 3 {
		x := trieOf(m)
		ask := func(when int) {
			if asked == when {
				isRoot(t, fmt.Sprint("asked at ", when), x, m.root())
			}
		}
		ask(0)
		left, right := x.Put(near(255), val(1)), x.Put(near(255), val(2)).Drop(near(0))
		ask(1)
		leftModel, rightModel := maps.Clone(m), maps.Clone(m)
		leftModel[near(255)], rightModel[near(255)] = val(1), val(2)
		delete(rightModel, near(0))
		is(t, "left", left, leftModel)
		is(t, "right", right, rightModel)
		ask(2)
		is(t, "both came of", x, m)
	}
}

// R4: what keys a map tells first is another thing each time, and is not seen.
func TestNothingHangsOnAMapsOrder(t *testing.T) {
	m := model{}
	for i, k := range anyHashes(22, 200) {
		m[k] = val(i)
	}
	want, root := m.entries(), m.root()
	for range 20 {
		x := trieOf(m)
		isRoot(t, "any order", x, root)
		tells(t, "any order", x, want)
	}
}
