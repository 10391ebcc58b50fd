package proof_test

import (
	"crypto/sha256"
	"math"
	"slices"
	"testing"

	"indenture/api"
	"indenture/internal/noise"
	"indenture/mountain"
	"indenture/proof"
	"indenture/sha"
	"indenture/tag"
)

type Hash = api.Hash

const greatest = 1 << 40

// anyHashes: n hashes, no two alike, the same ones always.
func anyHashes(seed uint32, n int) []Hash {
	l := make([]Hash, n)
	for i := range l {
		l[i] = sha256.Sum256(noise.Bytes(seed*100003+uint32(i), 32))
	}
	return l
}

// node: the chapter's Node, by the library.
func node(a, b Hash) Hash {
	return sha256.Sum256(slices.Concat([]byte{1}, a[:], b[:]))
}

// splitByWords: the greatest of all powers of two that is below n.
func splitByWords(n int) int {
	found := 0
	for shift := range 63 {
		if 1<<shift < n {
			found = 1 << shift
		}
	}
	return found
}

func rootByWords(l []Hash) Hash {
	switch len(l) {
	case 0:
		return sha256.Sum256(nil)
	case 1:
		return l[0]
	}
	k := splitByWords(len(l))
	return node(rootByWords(l[:k]), rootByWords(l[k:]))
}

func pathByWords(l []Hash, i int) ([]Hash, bool) {
	if i < 0 || i >= len(l) {
		return nil, false
	}
	if len(l) == 1 {
		return nil, true
	}
	k := splitByWords(len(l))
	if i < k {
		path, _ := pathByWords(l[:k], i)
		return append(path, rootByWords(l[k:])), true
	}
	path, _ := pathByWords(l[k:], i-k)
	return append(path, rootByWords(l[:k])), true
}

// told: what stands beside a true.
func told(l []Hash, ok bool) []Hash {
	if !ok {
		panic("a path was asked for where there is none")
	}
	return l
}

// heightByWords: how long Path of leaf i of n leaves is.
func heightByWords(n, i int) int {
	k := splitByWords(n)
	switch {
	case n < 2:
		return 0
	case i < k:
		return 1 + heightByWords(k, i)
	}
	return 1 + heightByWords(n-k, i-k)
}

func climbByWords(n, i int, leaf Hash, path []Hash) (Hash, bool) {
	if n > greatest || i < 0 || i >= n || len(path) != heightByWords(n, i) {
		return Hash{}, false
	}
	return ledTo(n, i, leaf, path), true
}

// ledTo: of a path that is as long as it must be, what its last hash is joined to, on the side where leaf i is not.
func ledTo(n, i int, leaf Hash, path []Hash) Hash {
	if n == 1 {
		return leaf
	}
	k, end := splitByWords(n), len(path)-1
	if i < k {
		return node(ledTo(k, i, leaf, path[:end]), path[end])
	}
	return node(path[end], ledTo(n-k, i-k, leaf, path[:end]))
}

func isPath(t *testing.T, l []Hash, i int, want ...Hash) []Hash {
	t.Helper()
	got, ok := proof.Path(l, i)
	if !ok || !slices.Equal(got, want) {
		t.Errorf("Path of %d of %d: %x %v, want %x", i, len(l), got, ok, want)
	}
	return got
}

func noPath(t *testing.T, l []Hash, i int) {
	t.Helper()
	if got, ok := proof.Path(l, i); ok || len(got) != 0 {
		t.Errorf("Path of %d of %d: %x %v, want none", i, len(l), got, ok)
	}
}

func climbs(t *testing.T, n, i int, leaf Hash, path []Hash, want Hash) {
	t.Helper()
	if got, ok := proof.Climb(n, i, leaf, path); !ok || got != want {
		t.Errorf("Climb of %d of %d by %d: %x %v, want %x", i, n, len(path), got, ok, want)
	}
	isChecked(t, want, n, i, leaf, path, true)
	want[n%32] ^= 1
	isChecked(t, want, n, i, leaf, path, false)
}

func climbsNot(t *testing.T, n, i int, leaf Hash, path []Hash) {
	t.Helper()
	if got, ok := proof.Climb(n, i, leaf, path); ok || got != (Hash{}) {
		t.Errorf("Climb of %d of %d by %d: %x %v, want none", i, n, len(path), got, ok)
	}
	for _, root := range []Hash{{}, leaf, tag.Empty()} {
		isChecked(t, root, n, i, leaf, path, false)
	}
}

func isChecked(t *testing.T, root Hash, n, i int, leaf Hash, path []Hash, want bool) {
	t.Helper()
	if got := proof.Check(root, n, i, leaf, path); got != want {
		t.Errorf("Check of %d of %d by %d: %v, want %v", i, n, len(path), got, want)
	}
}

// climbsByWords holds Climb and Check against the words, whatever they are.
func climbsByWords(t *testing.T, n, i int, leaf Hash, path []Hash) {
	t.Helper()
	if want, ok := climbByWords(n, i, leaf, path); ok {
		climbs(t, n, i, leaf, path, want)
	} else {
		climbsNot(t, n, i, leaf, path)
	}
}

// ends: numbers about 0 and 2^40, and at both ends.
func ends() []int {
	return []int{math.MinInt, math.MinInt + 1, -greatest - 1, -greatest, -2, -1, 0, 1, 2, 3,
		greatest/2 - 1, greatest / 2, greatest/2 + 1, greatest - 2, greatest - 1, greatest, greatest + 1, greatest + 2,
		2 * greatest, 1 << 62, math.MaxInt - 1, math.MaxInt}
}

// known: leaves whose trees and proofs are known of logs by RFC 6962.
func known() []Hash {
	var l []Hash
	for _, b := range []string{"", "\x00", "\x10", "\x20\x21", "\x30\x31", "\x40\x41\x42\x43", "\x50\x51\x52\x53\x54\x55\x56\x57", "\x60\x61\x62\x63\x64\x65\x66\x67\x68\x69\x6a\x6b\x6c\x6d\x6e\x6f"} {
		l = append(l, tag.Leaf([]byte(b)))
	}
	return l
}

func parsed(t *testing.T, texts ...string) []Hash {
	t.Helper()
	var l []Hash
	for _, text := range texts {
		h, ok := sha.Parse(text)
		if !ok {
			t.Fatalf("%q is no hash", text)
		}
		l = append(l, h)
	}
	return l
}

// P10.1

func TestExample(t *testing.T) {
	l := anyHashes(1, 3)
	isPath(t, l, 2, tag.Node(l[0], l[1]))
}

func TestPathOfFew(t *testing.T) {
	l := anyHashes(2, 4)
	isPath(t, l[:1], 0)
	isPath(t, l[:2], 0, l[1])
	isPath(t, l[:2], 1, l[0])
	isPath(t, l[:3], 0, l[1], l[2])
	isPath(t, l[:3], 1, l[0], l[2])
	isPath(t, l[:3], 2, tag.Node(l[0], l[1]))
	isPath(t, l, 0, l[1], tag.Node(l[2], l[3]))
	isPath(t, l, 1, l[0], tag.Node(l[2], l[3]))
	isPath(t, l, 2, l[3], tag.Node(l[0], l[1]))
	isPath(t, l, 3, l[2], tag.Node(l[0], l[1]))
	isPath(t, []Hash{{}}, 0)
}

func TestNoLeafNoPath(t *testing.T) {
	l := anyHashes(3, 50)
	for n := range l {
		for _, i := range []int{-1, -2, -n, n, n + 1, 2*n + 1} {
			if i < 0 || i >= n {
				noPath(t, l[:n], i)
			}
		}
		for _, i := range ends() {
			if i < 0 || i >= n {
				noPath(t, l[:n], i)
			}
		}
	}
	noPath(t, nil, 0)
	noPath(t, []Hash{}, 0)
	noPath(t, l[:0], 0)
	noPath(t, nil, -1)
}

func TestPathByWords(t *testing.T) {
	l := anyHashes(4, 71)
	alike := make([]Hash, 71)
	for n := 1; n < len(l); n++ {
		for i := range n {
			want, _ := pathByWords(l[:n], i)
			path := isPath(t, l[:n], i, want...)
			climbs(t, n, i, l[i], path, rootByWords(l[:n]))
			want, _ = pathByWords(alike[:n], i)
			isPath(t, alike[:n], i, want...)
			climbs(t, n, i, Hash{}, want, rootByWords(alike[:n]))
		}
	}
}

func TestPathThatIsKnown(t *testing.T) {
	l := known()
	isPath(t, l, 0, parsed(t,
		"96a296d224f285c67bee93c30f8a309157f0daa35dc5b87e410b78630a09cfc7",
		"5f083f0a1a33ca076a95279832580db3e0ef4584bdff1f54c8a360f50de3031e",
		"6b47aaf29ee3c2af9af889bc1fb9254dabd31177f16232dd6aab035ca39bf6e4")...)
	isPath(t, l, 5, parsed(t,
		"bc1a0643b12e4d2d7c77918f44e0f4f79a838b6cf9ec5b5c283e1f4d88599e6b",
		"ca854ea128ed050b41b35ffc1b87b8eb2bde461e9e3b5596ece6b9d5975a0ae0",
		"d37ee418976dd95753c1c73862b9398fa2a2cf9b4ff0fdfe8b30cd95209614b7")...)
	isPath(t, l[:3], 2, parsed(t,
		"fac54203e7cc696cf0dfcb42c92a1d9dbaf70ad9e621f4bd8d98662f00e3c125")...)
	isPath(t, l[:5], 1, parsed(t,
		"6e340b9cffb37a989ca544e6bb780a2c78901d3fb33738768511a30617afa01d",
		"5f083f0a1a33ca076a95279832580db3e0ef4584bdff1f54c8a360f50de3031e",
		"bc1a0643b12e4d2d7c77918f44e0f4f79a838b6cf9ec5b5c283e1f4d88599e6b")...)
}

// A path that is shorter or longer by any number of hashes, at either end, leads nowhere.
func TestClimbOfAnotherLength(t *testing.T) {
	more := anyHashes(5, 70)
	for n := 1; n < 41; n++ {
		l := anyHashes(6, n)
		for i := range n {
			path := isPath(t, l, i, told(pathByWords(l, i))...)
			for cut := range path {
				climbsNot(t, n, i, l[i], path[:cut])
				climbsNot(t, n, i, l[i], path[cut+1:])
			}
			for _, count := range []int{1, 2, 64} {
				climbsNot(t, n, i, l[i], slices.Concat(path, more[:count]))
				climbsNot(t, n, i, l[i], slices.Concat(more[:count], path))
			}
		}
	}
	climbsNot(t, 2, 0, Hash{1}, nil)
	climbsNot(t, 2, 1, Hash{1}, []Hash{})
	climbsNot(t, 1, 0, Hash{1}, []Hash{{}})
	climbs(t, 1, 0, Hash{1}, nil, Hash{1})
	climbs(t, 1, 0, Hash{1}, []Hash{}, Hash{1})
}

func TestClimbOfWrongNumbers(t *testing.T) {
	path := anyHashes(7, 70)
	for _, c := range []struct{ n, i int }{
		{0, 0}, {0, -1}, {0, 1}, {-1, 0}, {-1, -1}, {-1, -2}, {-greatest, 0}, {math.MinInt, 0}, {math.MinInt, -1}, {math.MinInt, math.MinInt},
		{1, 1}, {1, -1}, {1, 2}, {1, math.MaxInt}, {1, math.MinInt}, {7, 7}, {7, 8}, {7, -1}, {8, 8},
		{greatest, greatest}, {greatest, -1}, {greatest, greatest + 1}, {greatest, math.MaxInt}, {greatest, math.MinInt},
		{greatest + 1, 0}, {greatest + 1, 1}, {greatest + 1, greatest - 1}, {greatest + 1, greatest}, {greatest + 2, greatest},
		{2 * greatest, 0}, {1 << 62, 0}, {1<<62 + 1, 1 << 62}, {math.MaxInt, 0}, {math.MaxInt, math.MaxInt - 1}, {math.MaxInt, math.MaxInt},
	} {
		for count := range path {
			climbsNot(t, c.n, c.i, Hash{2}, path[:count])
		}
	}
}

func TestClimbAtTheEnds(t *testing.T) {
	path := anyHashes(8, 70)
	for _, n := range ends() {
		for _, i := range ends() {
			for _, count := range []int{0, 1, 2, 38, 39, 40, 41, 42, 63, 64, 65} {
				climbsByWords(t, n, i, Hash{3}, path[:count])
			}
		}
	}
}

// How high the greatest trees are: the last leaf of one that is one more than a power of two is right below the root.
func TestClimbOfTheGreatest(t *testing.T) {
	path := anyHashes(9, 40)
	root := Hash{4}
	for _, h := range path {
		root = node(root, h)
	}
	climbs(t, greatest, 0, Hash{4}, path, root)
	root = Hash{4}
	for _, h := range path {
		root = node(h, root)
	}
	climbs(t, greatest, greatest-1, Hash{4}, path, root)
	climbs(t, greatest/2+1, greatest/2, Hash{4}, path[:1], node(path[0], Hash{4}))
	climbs(t, greatest/2+2, greatest/2, Hash{4}, path[:2], node(path[1], node(Hash{4}, path[0])))
	climbsNot(t, greatest, 0, Hash{4}, path[:39])
	climbsNot(t, greatest, greatest-1, Hash{4}, path[1:])
	climbsNot(t, greatest, 0, Hash{4}, append(path, Hash{}))
	climbsNot(t, greatest+1, greatest, Hash{4}, path[:1])
	climbsNot(t, greatest+1, 0, Hash{4}, append(path, Hash{}))
}

// Another place, another number of leaves: some of them lead to the same root (of 3 and of 4 the first leaf, say), which is as the words have it.
func TestClimbOfAnotherPlace(t *testing.T) {
	for n := 1; n < 18; n++ {
		l := anyHashes(10, n)
		root := mountain.Root(l)
		for i := range n {
			path := isPath(t, l, i, told(pathByWords(l, i))...)
			for other := -1; other < 36; other++ {
				for place := -1; place <= other+1; place++ {
					got, ok := climbByWords(other, place, l[i], path)
					isChecked(t, root, other, place, l[i], path, ok && got == root)
					climbsByWords(t, other, place, l[i], path)
				}
				if other >= 0 && other < n && other != i {
					isChecked(t, root, n, other, l[i], path, false)
				}
			}
		}
	}
}

// Another root, another leaf, one hash that is another one, two that change their places: not accepted.
func TestCheckOfAnother(t *testing.T) {
	for n := 1; n < 41; n++ {
		l := anyHashes(11, n)
		root := mountain.Root(l)
		for i := range n {
			path := isPath(t, l, i, told(pathByWords(l, i))...)
			isChecked(t, root, n, i, l[i], path, true)
			for _, other := range append(slices.Clone(path), Hash{}, tag.Empty(), tag.Nothing()) {
				isChecked(t, other, n, i, l[i], path, false)
				isChecked(t, root, n, i, other, path, false)
			}
			for at := range 32 {
				changed := l[i]
				changed[at] ^= 1 << (at % 8)
				isChecked(t, root, n, i, changed, path, false)
			}
			for at := range path {
				changed := slices.Clone(path)
				changed[at][(n+i)%32] ^= 0x80 >> (at % 8)
				isChecked(t, root, n, i, l[i], changed, false)
				climbsByWords(t, n, i, l[i], changed)
				if at > 0 {
					changed = slices.Clone(path)
					changed[at], changed[at-1] = changed[at-1], changed[at]
					isChecked(t, root, n, i, l[i], changed, false)
				}
			}
		}
	}
}
