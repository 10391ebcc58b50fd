package proof_test

import (
	"math"
	"slices"
	"testing"

	"indenture/mountain"
	"indenture/proof"
	"indenture/tag"
)

func grownByWords(l []Hash, m int) ([]Hash, bool) {
	if m < 1 || m > len(l) {
		return nil, false
	}
	return sub(m, l, true), true
}

// sub: the chapter's SUB.
func sub(m int, l []Hash, b bool) []Hash {
	if m == len(l) {
		if b {
			return nil
		}
		return []Hash{rootByWords(l)}
	}
	k := splitByWords(len(l))
	if m <= k {
		return append(sub(m, l[:k], b), rootByWords(l[k:]))
	}
	return append(sub(m-k, l[k:], false), rootByWords(l[:k]))
}

func checksByWords(a, b Hash, m, n int, path []Hash) bool {
	if m < 1 || m > n || n > greatest {
		return false
	}
	x, y, ok := two(a, m, n, path, true)
	return ok && x == a && y == b
}

// two: the chapter's TWO; false, where path must be otherwise.
func two(a Hash, m, n int, path []Hash, w bool) (Hash, Hash, bool) {
	switch {
	case m == n && w:
		return a, a, len(path) == 0
	case m == n && len(path) == 1:
		return path[0], path[0], true
	case m == n || len(path) == 0:
		return Hash{}, Hash{}, false
	}
	last, others := path[len(path)-1], path[:len(path)-1]
	k := splitByWords(n)
	if m <= k {
		x, y, ok := two(a, m, k, others, w)
		return x, node(y, last), ok
	}
	x, y, ok := two(a, m-k, n-k, others, false)
	return node(last, x), node(last, y), ok
}

func isGrown(t *testing.T, l []Hash, m int, want ...Hash) []Hash {
	t.Helper()
	got, ok := proof.Grown(l, m)
	if !ok || !slices.Equal(got, want) {
		t.Errorf("Grown of %d of %d: %x %v, want %x", m, len(l), got, ok, want)
	}
	return got
}

func notGrown(t *testing.T, l []Hash, m int) {
	t.Helper()
	if got, ok := proof.Grown(l, m); ok || len(got) != 0 {
		t.Errorf("Grown of %d of %d: %x %v, want none", m, len(l), got, ok)
	}
}

func areChecked(t *testing.T, a, b Hash, m, n int, path []Hash, want bool) {
	t.Helper()
	if got := proof.Checks(a, b, m, n, path); got != want {
		t.Errorf("Checks of %d of %d by %d: %v, want %v", m, n, len(path), got, want)
	}
}

// neverChecked: whichever roots there are, some of which the path itself leads to, were its numbers right.
func neverChecked(t *testing.T, m, n int, path []Hash) {
	t.Helper()
	for _, a := range append([]Hash{{}, {5}, tag.Empty()}, path...) {
		areChecked(t, a, a, m, n, path, false)
		areChecked(t, a, Hash{6}, m, n, path, false)
		x, y, _ := two(a, m, n, path, true)
		areChecked(t, x, y, m, n, path, false)
	}
}

// P10.2

func TestGrownOfFew(t *testing.T) {
	l := anyHashes(21, 7)
	isGrown(t, l[:1], 1)
	isGrown(t, l[:2], 1, l[1])
	isGrown(t, l[:2], 2)
	isGrown(t, l[:3], 1, l[1], l[2])
	isGrown(t, l[:3], 2, l[2])
	isGrown(t, l[:3], 3)
	isGrown(t, l[:4], 2, tag.Node(l[2], l[3]))
	isGrown(t, l[:4], 3, l[2], l[3], tag.Node(l[0], l[1]))
	// The example of RFC 6962, of the first 3, 4 and 6 of 7.
	four, right := tag.Node(tag.Node(l[0], l[1]), tag.Node(l[2], l[3])), tag.Node(tag.Node(l[4], l[5]), l[6])
	isGrown(t, l, 3, l[2], l[3], tag.Node(l[0], l[1]), right)
	isGrown(t, l, 4, right)
	isGrown(t, l, 6, tag.Node(l[4], l[5]), l[6], four)
}

func TestGrownOfNone(t *testing.T) {
	l := anyHashes(22, 50)
	for n := range l {
		for _, m := range append(ends(), 0, -1, -n, n+1, n+2, 2*n+1) {
			if m < 1 || m > n {
				notGrown(t, l[:n], m)
			}
		}
		if n > 0 {
			isGrown(t, l[:n], n)
		}
	}
	notGrown(t, nil, 0)
	notGrown(t, nil, 1)
	notGrown(t, []Hash{}, 0)
	notGrown(t, l[:0], 1)
}

func TestGrownByWords(t *testing.T) {
	l := anyHashes(23, 71)
	alike := make([]Hash, 71)
	for n := 1; n < len(l); n++ {
		for m := 1; m <= n; m++ {
			path := isGrown(t, l[:n], m, told(grownByWords(l[:n], m))...)
			areChecked(t, rootByWords(l[:m]), rootByWords(l[:n]), m, n, path, true)
			path = isGrown(t, alike[:n], m, told(grownByWords(alike[:n], m))...)
			areChecked(t, rootByWords(alike[:m]), rootByWords(alike[:n]), m, n, path, true)
		}
	}
}

func TestGrownThatIsKnown(t *testing.T) {
	l := known()
	isGrown(t, l, 1, parsed(t,
		"96a296d224f285c67bee93c30f8a309157f0daa35dc5b87e410b78630a09cfc7",
		"5f083f0a1a33ca076a95279832580db3e0ef4584bdff1f54c8a360f50de3031e",
		"6b47aaf29ee3c2af9af889bc1fb9254dabd31177f16232dd6aab035ca39bf6e4")...)
	isGrown(t, l, 6, parsed(t,
		"0ebc5d3437fbe2db158b9f126a1d118e308181031d0a949f8dededebc558ef6a",
		"ca854ea128ed050b41b35ffc1b87b8eb2bde461e9e3b5596ece6b9d5975a0ae0",
		"d37ee418976dd95753c1c73862b9398fa2a2cf9b4ff0fdfe8b30cd95209614b7")...)
	isGrown(t, l[:5], 2, parsed(t,
		"5f083f0a1a33ca076a95279832580db3e0ef4584bdff1f54c8a360f50de3031e",
		"bc1a0643b12e4d2d7c77918f44e0f4f79a838b6cf9ec5b5c283e1f4d88599e6b")...)
}

// All of n: the roots must be the same, and nothing stands between.
func TestChecksOfAll(t *testing.T) {
	l := anyHashes(24, 41)
	for _, n := range append([]int{greatest / 2, greatest - 1, greatest}, 1, 2, 3, 4, 5, 6, 7, 8, 9, 40) {
		areChecked(t, Hash{1}, Hash{1}, n, n, nil, true)
		areChecked(t, Hash{1}, Hash{1}, n, n, []Hash{}, true)
		areChecked(t, Hash{}, Hash{}, n, n, nil, true)
		areChecked(t, Hash{1}, Hash{2}, n, n, nil, false)
		areChecked(t, Hash{}, Hash{2}, n, n, nil, false)
		areChecked(t, Hash{1}, Hash{1}, n, n, []Hash{{1}}, false)
		for count := 1; count < len(l); count++ {
			neverChecked(t, n, n, l[:count])
		}
	}
	neverChecked(t, greatest+1, greatest+1, nil)
	neverChecked(t, math.MaxInt, math.MaxInt, nil)
	neverChecked(t, 0, 0, nil)
	neverChecked(t, -1, -1, nil)
	neverChecked(t, math.MinInt, math.MinInt, nil)
}

func TestChecksOfWrongNumbers(t *testing.T) {
	path := anyHashes(25, 66)
	for _, c := range []struct{ m, n int }{
		{0, 0}, {0, 1}, {0, 7}, {0, greatest}, {-1, 0}, {-1, 1}, {-1, 7}, {math.MinInt, 7}, {math.MinInt, math.MaxInt}, {math.MinInt, greatest},
		{1, 0}, {2, 1}, {8, 7}, {9, 8}, {greatest + 1, greatest}, {math.MaxInt, 1}, {math.MaxInt, greatest}, {1, -1}, {1, math.MinInt}, {math.MaxInt, math.MinInt},
		{1, greatest + 1}, {greatest / 2, greatest + 1}, {greatest, greatest + 1}, {greatest + 1, greatest + 2}, {1, 2 * greatest}, {greatest, 2 * greatest},
		{1, 1 << 62}, {1 << 61, 1 << 62}, {1, math.MaxInt}, {1 << 62, math.MaxInt}, {math.MaxInt - 1, math.MaxInt},
	} {
		for _, count := range []int{0, 1, 2, 3, 4, 39, 40, 41, 42, 62, 63, 64, 65} {
			neverChecked(t, c.m, c.n, path[:count])
		}
	}
	// Of the first 2^40 of one leaf more the other leaf alone would show it.
	areChecked(t, Hash{1}, node(Hash{1}, Hash{2}), greatest, greatest+1, []Hash{{2}}, false)
	areChecked(t, Hash{1}, node(Hash{1}, Hash{2}), greatest/2, greatest, []Hash{{2}}, true)
}

// A path that is shorter or longer by any number of hashes, at either end, shows nothing; nor does nothing, where a path must be.
func TestChecksOfAnotherLength(t *testing.T) {
	more := anyHashes(26, 64)
	for n := 1; n < 41; n++ {
		l := anyHashes(27, n)
		for m := 1; m <= n; m++ {
			a, b := mountain.Root(l[:m]), mountain.Root(l)
			path := isGrown(t, l, m, told(grownByWords(l, m))...)
			areChecked(t, a, b, m, n, path, true)
			areChecked(t, a, b, m, n, nil, m == n)
			areChecked(t, a, a, m, n, nil, m == n)
			for cut := range path {
				areChecked(t, a, b, m, n, path[:cut], false)
				areChecked(t, a, b, m, n, path[cut+1:], false)
				neverChecked(t, m, n, path[:cut])
			}
			for _, count := range []int{1, 2, 64} {
				areChecked(t, a, b, m, n, slices.Concat(path, more[:count]), false)
				areChecked(t, a, b, m, n, slices.Concat(more[:count], path), false)
			}
			areChecked(t, a, b, m, n, slices.Concat([]Hash{a}, path), false)
			neverChecked(t, m, n, slices.Concat(path, more[:1]))
		}
	}
}

// madeUp: roots that a path, as long as it must be, shows of any hashes; false, where it is not so long.
func madeUp(m, n int, path []Hash) (Hash, Hash, bool) {
	return two(Hash{7}, m, n, path, true)
}

func TestChecksOfTheGreatest(t *testing.T) {
	path := anyHashes(28, 66)
	for _, n := range []int{greatest/2 + 1, greatest - 1, greatest} {
		for _, m := range []int{1, 2, 3, 4, greatest/4 - 1, greatest / 4, greatest/4 + 1, greatest/2 - 1, greatest / 2, greatest/2 + 1, greatest - 3, greatest - 2, greatest - 1, greatest} {
			if m > n {
				continue
			}
			lengths := 0
			for count := range path {
				a, b, ok := madeUp(m, n, path[:count])
				areChecked(t, a, b, m, n, path[:count], ok)
				areChecked(t, a, Hash{8}, m, n, path[:count], false)
				areChecked(t, Hash{8}, b, m, n, path[:count], false)
				if ok {
					lengths++
				}
			}
			if lengths != 1 {
				t.Errorf("%d of %d: paths of %d lengths show it, not of one", m, n, lengths)
			}
		}
	}
}

// Other roots, roots that change their places, another hash in the path, two that change theirs: answered by the words.
func TestChecksOfAnother(t *testing.T) {
	for n := 1; n < 41; n++ {
		l := anyHashes(29, n)
		for m := 1; m <= n; m++ {
			a, b := mountain.Root(l[:m]), mountain.Root(l)
			path := isGrown(t, l, m, told(grownByWords(l, m))...)
			areChecked(t, b, a, m, n, path, m == n)
			for _, other := range append(slices.Clone(path), Hash{}, tag.Empty()) {
				areChecked(t, other, b, m, n, path, other == a && checksByWords(a, b, m, n, path))
				areChecked(t, a, other, m, n, path, false)
			}
			for bit := range 32 {
				changed := a
				changed[bit] ^= 1 << (bit % 8)
				areChecked(t, changed, b, m, n, path, false)
				changed = b
				changed[bit] ^= 1 << (bit % 8)
				areChecked(t, a, changed, m, n, path, false)
			}
			for at := range path {
				changed := slices.Clone(path)
				changed[at][(n+m)%32] ^= 0x80 >> (at % 8)
				areChecked(t, a, b, m, n, changed, false)
				x, y, ok := two(a, m, n, changed, true)
				areChecked(t, x, y, m, n, changed, ok)
				if at > 0 {
					changed = slices.Clone(path)
					changed[at], changed[at-1] = changed[at-1], changed[at]
					areChecked(t, a, b, m, n, changed, false)
				}
			}
		}
	}
}

// Another number of first leaves, or of all: some are shown by the same path, which is as the words have it.
func TestChecksOfOtherNumbers(t *testing.T) {
	for n := 1; n < 18; n++ {
		l := anyHashes(30, n)
		for m := 1; m <= n; m++ {
			a, b := mountain.Root(l[:m]), mountain.Root(l)
			path := isGrown(t, l, m, told(grownByWords(l, m))...)
			for all := -1; all < 36; all++ {
				for some := -1; some <= all+1; some++ {
					areChecked(t, a, b, some, all, path, checksByWords(a, b, some, all, path))
				}
			}
		}
	}
}
