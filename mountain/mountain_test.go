package mountain_test

import (
	"crypto/sha256"
	"math"
	"slices"
	"testing"

	"indenture/api"
	"indenture/internal/noise"
	"indenture/mountain"
	"indenture/sha"
	"indenture/tag"
)

type (
	Hash  = api.Hash
	Peaks = mountain.Peaks
)

const greatest = 1 << 40

// anyHashes: n hashes, no two alike, the same ones always.
func anyHashes(seed uint32, n int) []Hash {
	l := make([]Hash, n)
	for i := range l {
		l[i] = sha256.Sum256(noise.Bytes(seed*100003+uint32(i), 32))
	}
	return l
}

// node, empty: the chapter's Node and Empty, by the library.
func node(a, b Hash) Hash {
	return sha256.Sum256(slices.Concat([]byte{1}, a[:], b[:]))
}

func empty() Hash {
	return sha256.Sum256(nil)
}

// splitByWords: the greatest of all powers of two that is below n.
func splitByWords(n int) int {
	found := 0
	for shift := range 63 {
		if 1<<shift < n {
			found = 1 << shift
		}
	}
	return found
}

// bitsByWords: of all powers of two, from the greatest on, those that n is made of.
func bitsByWords(n int) []int {
	var l []int
	for shift := 62; shift >= 0 && n > 0; shift-- {
		if n/(1<<shift)%2 == 1 {
			l = append(l, 1<<shift)
		}
	}
	return l
}

func rootByWords(l []Hash) Hash {
	switch len(l) {
	case 0:
		return empty()
	case 1:
		return l[0]
	}
	k := splitByWords(len(l))
	return node(rootByWords(l[:k]), rootByWords(l[k:]))
}

// rootByLevels is the same root from below: two and two are joined, and one that is left over goes up as it is.
func rootByLevels(l []Hash) Hash {
	if len(l) == 0 {
		return empty()
	}
	for len(l) > 1 {
		var above []Hash
		for two := range slices.Chunk(l, 2) {
			if len(two) == 1 {
				above = append(above, two[0])
			} else {
				above = append(above, node(two[0], two[1]))
			}
		}
		l = above
	}
	return l[0]
}

// peaksByWords: the roots of the whole trees, each of as many leaves as its bit says.
func peaksByWords(l []Hash) Peaks {
	p := Peaks{Size: len(l)}
	for _, bit := range bitsByWords(len(l)) {
		p.Tops = append(p.Tops, rootByWords(l[:bit]))
		l = l[bit:]
	}
	return p
}

func isHash(t *testing.T, what string, got, want Hash) {
	t.Helper()
	if got != want {
		t.Errorf("%s: %x, want %x", what, got, want)
	}
}

func isPeaks(t *testing.T, what string, got, want Peaks) {
	t.Helper()
	if got.Size != want.Size || !slices.Equal(got.Tops, want.Tops) {
		t.Errorf("%s: %d %x, want %d %x", what, got.Size, got.Tops, want.Size, want.Tops)
	}
}

func isSplit(t *testing.T, n, want int) {
	t.Helper()
	if got := mountain.Split(n); got != want {
		t.Errorf("Split(%d): %d, want %d", n, got, want)
	}
}

func isBits(t *testing.T, n int, want ...int) {
	t.Helper()
	if got := mountain.Bits(n); !slices.Equal(got, want) {
		t.Errorf("Bits(%d): %d, want %d", n, got, want)
	}
}

func isGood(t *testing.T, p Peaks, want bool) {
	t.Helper()
	if got := p.Good(); got != want {
		t.Errorf("Good of a Size of %d and %d Tops: %v, want %v", p.Size, len(p.Tops), got, want)
	}
}

func isRoot(t *testing.T, p Peaks, want Hash) {
	t.Helper()
	if got := p.Root(); got != want {
		t.Errorf("Root of a Size of %d and %d Tops: %x, want %x", p.Size, len(p.Tops), got, want)
	}
}

func adds(t *testing.T, p Peaks, h Hash, want Peaks) Peaks {
	t.Helper()
	got, ok := p.Add(h)
	if !ok {
		t.Errorf("Add to a Size of %d and %d Tops: false", p.Size, len(p.Tops))
	}
	isPeaks(t, "Add", got, want)
	isGood(t, got, true)
	return got
}

func refuses(t *testing.T, p Peaks, h Hash) {
	t.Helper()
	got, ok := p.Add(h)
	if ok {
		t.Errorf("Add to a Size of %d and %d Tops: true", p.Size, len(p.Tops))
	}
	isPeaks(t, "Add that is refused", got, p)
}

// counts: numbers about all powers of two, at both ends, and small ones.
func counts() []int {
	l := []int{math.MinInt, math.MinInt + 1, -greatest, math.MaxInt - 1, math.MaxInt}
	for n := -5; n < 3000; n++ {
		l = append(l, n)
	}
	for shift := range 63 {
		for _, d := range []int{-2, -1, 0, 1, 2} {
			l = append(l, 1<<shift+d, -(1<<shift)+d)
		}
	}
	return l
}

// P9.1

func TestExample(t *testing.T) {
	isBits(t, 6, 4, 2)
	isSplit(t, 6, 4)
	isSplit(t, 4, 2)
}

func TestSplit(t *testing.T) {
	for _, c := range []struct{ n, want int }{
		{math.MinInt, 0}, {math.MinInt + 1, 0}, {-greatest, 0}, {-4, 0}, {-1, 0}, {0, 0}, {1, 0},
		{2, 1}, {3, 2}, {4, 2}, {5, 4}, {7, 4}, {8, 4}, {9, 8},
		{1023, 512}, {1024, 512}, {1025, 1024},
		{greatest - 1, greatest / 2}, {greatest, greatest / 2}, {greatest + 1, greatest},
		{1<<62 - 1, 1 << 61}, {1 << 62, 1 << 61}, {1<<62 + 1, 1 << 62},
		{math.MaxInt - 1, 1 << 62}, {math.MaxInt, 1 << 62},
	} {
		isSplit(t, c.n, c.want)
	}
	for _, n := range counts() {
		isSplit(t, n, splitByWords(n))
	}
}

func TestRootOfFew(t *testing.T) {
	l := anyHashes(1, 3)
	isHash(t, "none", mountain.Root(nil), tag.Empty())
	isHash(t, "no hashes", mountain.Root([]Hash{}), tag.Empty())
	isHash(t, "none, of a list with room", mountain.Root(l[:0]), tag.Empty())
	for _, h := range []Hash{l[0], {}, tag.Empty(), {31: 255}} {
		isHash(t, "one", mountain.Root([]Hash{h}), h)
	}
	isHash(t, "two", mountain.Root(l[:2]), tag.Node(l[0], l[1]))
	isHash(t, "three", mountain.Root(l), tag.Node(tag.Node(l[0], l[1]), l[2]))
}

// sizes: how many leaves the trees have that are held against the words: all small ones, and some about powers of two.
func sizes() []int {
	var l []int
	for n := range 71 {
		l = append(l, n)
	}
	return append(l, 127, 128, 129, 255, 256, 257, 1000, 1023, 1024, 1025)
}

func TestRoot(t *testing.T) {
	l := anyHashes(2, 2000)
	for _, n := range sizes() {
		isHash(t, "Root by the words", mountain.Root(l[:n]), rootByWords(l[:n]))
		isHash(t, "Root by levels", mountain.Root(l[:n]), rootByLevels(l[:n]))
		alike := make([]Hash, n)
		isHash(t, "Root of leaves that are alike", mountain.Root(alike), rootByLevels(alike))
	}
}

// Of these leaves, the roots of the first ones are known of logs by RFC 6962.
func TestRootThatIsKnown(t *testing.T) {
	leaves := []string{"", "\x00", "\x10", "\x20\x21", "\x30\x31", "\x40\x41\x42\x43", "\x50\x51\x52\x53\x54\x55\x56\x57", "\x60\x61\x62\x63\x64\x65\x66\x67\x68\x69\x6a\x6b\x6c\x6d\x6e\x6f"}
	var l []Hash
	for i, want := range []string{
		"6e340b9cffb37a989ca544e6bb780a2c78901d3fb33738768511a30617afa01d",
		"fac54203e7cc696cf0dfcb42c92a1d9dbaf70ad9e621f4bd8d98662f00e3c125",
		"aeb6bcfe274b70a14fb067a5e5578264db0fa9b51af5e0ba159158f329e06e77",
		"d37ee418976dd95753c1c73862b9398fa2a2cf9b4ff0fdfe8b30cd95209614b7",
		"4e3bbb1f7b478dcfe71fb631631519a3bca12c9aefca1612bfce4c13a86264d4",
		"76e67dadbcdf1e10e1b74ddc608abd2f98dfb16fbce75277b5232a127f2087ef",
		"ddb89be403809e325750d3d263cd78929c2942b7942a34b77e122c9594a74c8c",
		"5dc9da79a70659a9ad559cb701ded9a2ab9d823aad2f4960cfe370eff4604328",
	} {
		l = append(l, tag.Leaf([]byte(leaves[i])))
		if got := sha.Hex(mountain.Root(l)); got != want {
			t.Errorf("Root of %d: %s, want %s", i+1, got, want)
		}
		if got := sha.Hex(mountain.Of(l).Root()); got != want {
			t.Errorf("Of's Root of %d: %s, want %s", i+1, got, want)
		}
	}
}

// Another leaf, or two that change their places, or one more or less: another root.
func TestRootsAreApart(t *testing.T) {
	for n := range 20 {
		l := anyHashes(3, n)
		seen := map[Hash]int{mountain.Root(l): -1}
		see := func(what int, h Hash) {
			if other, ok := seen[h]; ok {
				t.Errorf("of %d leaves, changes %d and %d: one root", n, other, what)
			}
			seen[h] = what
		}
		for i := range l {
			changed := slices.Clone(l)
			changed[i][i%32] ^= 1
			see(i, mountain.Root(changed))
			if i > 0 {
				changed = slices.Clone(l)
				changed[i], changed[i-1] = changed[i-1], changed[i]
				see(100+i, mountain.Root(changed))
				see(200+i, mountain.Root(l[:i]))
			}
		}
		see(300, mountain.Root(append(slices.Clone(l), Hash{})))
	}
}

// P9.2

func TestBits(t *testing.T) {
	isBits(t, math.MinInt)
	isBits(t, math.MinInt+1)
	isBits(t, -greatest)
	isBits(t, -1)
	isBits(t, 0)
	isBits(t, 1, 1)
	isBits(t, 2, 2)
	isBits(t, 3, 2, 1)
	isBits(t, 7, 4, 2, 1)
	isBits(t, 8, 8)
	isBits(t, 9, 8, 1)
	isBits(t, 1023, 512, 256, 128, 64, 32, 16, 8, 4, 2, 1)
	isBits(t, 1024, 1024)
	isBits(t, greatest, greatest)
	isBits(t, greatest+1, greatest, 1)
	isBits(t, 1<<62, 1<<62)
	isBits(t, 1<<62+5, 1<<62, 4, 1)
	var all []int
	for shift := 62; shift >= 0; shift-- {
		all = append(all, 1<<shift)
	}
	isBits(t, math.MaxInt, all...)
	isBits(t, 1<<62-1, all[1:]...)
	isBits(t, greatest-1, all[62-39:]...)
	for _, n := range counts() {
		isBits(t, n, bitsByWords(n)...)
	}
}

// What Bits tells makes the number up.
func TestBitsMakeUp(t *testing.T) {
	for _, n := range counts() {
		sum := 0
		for _, bit := range mountain.Bits(n) {
			sum += bit
		}
		if sum != max(n, 0) {
			t.Errorf("Bits(%d) make up %d", n, sum)
		}
	}
}

func TestGood(t *testing.T) {
	tops := anyHashes(4, 70)
	for _, c := range []struct {
		size, tops int
		want       bool
	}{
		{0, 0, true}, {0, 1, false}, {0, 2, false},
		{1, 1, true}, {1, 0, false}, {1, 2, false},
		{2, 1, true}, {2, 2, false}, {3, 2, true}, {3, 1, false}, {3, 3, false},
		{6, 2, true}, {6, 1, false}, {6, 3, false}, {7, 3, true}, {8, 1, true}, {8, 3, false}, {8, 8, false},
		{greatest - 1, 40, true}, {greatest - 1, 39, false}, {greatest - 1, 41, false},
		{greatest, 1, true}, {greatest, 0, false}, {greatest, 2, false},
		{greatest + 1, 2, false}, {greatest + 1, 1, false}, {2 * greatest, 1, false},
		{1 << 62, 1, false}, {math.MaxInt, 63, false}, {math.MaxInt, 0, false},
		{-1, 0, false}, {-1, 1, false}, {-1, 64, false}, {-greatest, 0, false}, {-greatest, 24, false},
		{math.MinInt, 0, false}, {math.MinInt, 1, false}, {math.MinInt, 63, false},
	} {
		isGood(t, Peaks{Size: c.size, Tops: tops[:c.tops]}, c.want)
	}
	isGood(t, Peaks{}, true)
	isGood(t, Peaks{Tops: []Hash{}}, true)
	for _, n := range counts() {
		for count := range tops {
			isGood(t, Peaks{Size: n, Tops: tops[:count]}, n >= 0 && n <= greatest && count == len(bitsByWords(n)))
		}
	}
}

// Leaf by leaf, and Of of as many: what the words tell behind each Add.
func TestAddOneByOne(t *testing.T) {
	l := anyHashes(5, 300)
	p := mountain.Of(nil)
	isPeaks(t, "Of none", p, Peaks{})
	isRoot(t, p, empty())
	for i, h := range l {
		want := peaksByWords(l[:i+1])
		p = adds(t, p, h, want)
		isRoot(t, p, rootByWords(l[:i+1]))
		isPeaks(t, "Of", mountain.Of(l[:i+1]), want)
	}
}

func TestAddToFew(t *testing.T) {
	l := anyHashes(6, 4)
	one := adds(t, Peaks{}, l[0], Peaks{Size: 1, Tops: l[:1]})
	two := adds(t, one, l[1], Peaks{Size: 2, Tops: []Hash{tag.Node(l[0], l[1])}})
	three := adds(t, two, l[2], Peaks{Size: 3, Tops: []Hash{tag.Node(l[0], l[1]), l[2]}})
	adds(t, three, l[3], Peaks{Size: 4, Tops: []Hash{tag.Node(tag.Node(l[0], l[1]), tag.Node(l[2], l[3]))}})
	isRoot(t, one, l[0])
	isRoot(t, two, tag.Node(l[0], l[1]))
	isRoot(t, three, tag.Node(tag.Node(l[0], l[1]), l[2]))
}

// wrong: Peaks to which nothing is added, nearly all of them not Good.
func wrong() []Peaks {
	tops := anyHashes(7, 70)
	l := []Peaks{{Size: greatest, Tops: tops[:1]}}
	for _, c := range []struct{ size, tops int }{
		{0, 1}, {0, 5}, {1, 0}, {1, 2}, {2, 0}, {2, 2}, {3, 1}, {3, 3}, {6, 1}, {6, 3}, {7, 2}, {7, 4}, {7, 0},
		{-1, 0}, {-1, 1}, {-1, 64}, {-8, 1}, {math.MinInt, 0}, {math.MinInt, 1}, {math.MinInt + 1, 63},
		{greatest, 0}, {greatest, 2}, {greatest - 1, 39}, {greatest - 1, 41},
		{greatest + 1, 2}, {greatest + 1, 0}, {2 * greatest, 1}, {1 << 62, 1}, {math.MaxInt, 63}, {math.MaxInt, 62}, {math.MaxInt, 0},
	} {
		l = append(l, Peaks{Size: c.size, Tops: tops[:c.tops]})
	}
	return l
}

func TestAddRefuses(t *testing.T) {
	for _, p := range wrong() {
		refuses(t, p, Hash{1})
		refuses(t, p, Hash{})
	}
}

// joinedByWords: all Tops, joined from the last two on.
func joinedByWords(tops []Hash) Hash {
	l := slices.Clone(tops)
	for len(l) > 1 {
		l = append(l[:len(l)-2], node(l[len(l)-2], l[len(l)-1]))
	}
	return l[0]
}

// addedByWords: one leaf more, joined with the last Top as long as the bits say so.
func addedByWords(p Peaks, h Hash) Peaks {
	tops := append(slices.Clone(p.Tops), h)
	for len(tops) > len(bitsByWords(p.Size+1)) {
		tops = append(tops[:len(tops)-2], node(tops[len(tops)-2], tops[len(tops)-1]))
	}
	return Peaks{Size: p.Size + 1, Tops: tops}
}

// Of Sizes whose leaves nobody could hand in, the Tops are any hashes.
func TestGreatSizes(t *testing.T) {
	for _, size := range counts() {
		if size < 1 || size > greatest {
			continue
		}
		p := Peaks{Size: size, Tops: anyHashes(uint32(size), len(bitsByWords(size)))}
		isRoot(t, p, joinedByWords(p.Tops))
		if size == greatest {
			refuses(t, p, Hash{9})
		} else {
			isRoot(t, adds(t, p, Hash{9}, addedByWords(p, Hash{9})), joinedByWords(append(slices.Clone(p.Tops), Hash{9})))
		}
	}
}

func TestUpToTheGreatest(t *testing.T) {
	tops := anyHashes(8, 40)
	p := Peaks{Size: greatest - 1, Tops: tops}
	root := joinedByWords(append(slices.Clone(tops), Hash{5}))
	p = adds(t, p, Hash{5}, Peaks{Size: greatest, Tops: []Hash{root}})
	isRoot(t, p, root)
	refuses(t, p, Hash{6})
}

func TestRootOfPeaks(t *testing.T) {
	tops := anyHashes(9, 3)
	isRoot(t, Peaks{}, tag.Empty())
	isRoot(t, Peaks{Tops: []Hash{}}, tag.Empty())
	isRoot(t, Peaks{Size: 4, Tops: tops[:1]}, tops[0])
	isRoot(t, Peaks{Size: greatest, Tops: tops[:1]}, tops[0])
	isRoot(t, Peaks{Size: 6, Tops: tops[:2]}, tag.Node(tops[0], tops[1]))
	isRoot(t, Peaks{Size: 7, Tops: tops}, tag.Node(tops[0], tag.Node(tops[1], tops[2])))
	for _, p := range wrong()[1:] {
		isRoot(t, p, tag.Empty())
	}
}
