package trie_test

import (
	"crypto/sha256"
	"fmt"
	"maps"
	"math"
	"slices"
	"strings"
	"testing"

	"indenture/api"
	"indenture/internal/noise"
	"indenture/trie"
)

type (
	Hash = api.Hash
	Trie = trie.Trie
)

// zeros and ones: the first key of all, and the last one.
var (
	zeros Hash
	ones  = Hash(slices.Repeat([]byte{255}, 32))
)

// with is h with those bits turned.
func with(h Hash, bits ...int) Hash {
	for _, i := range bits {
		h[i/8] ^= 128 >> (i % 8)
	}
	return h
}

// val is one of the values of these tests, no two of them alike; of 0 it is all zeros.
func val(i int) Hash {
	return Hash{0: byte(i), 31: byte(i >> 8)}
}

// spread: the bits in which near keys differ, at the ends of a key, of a byte, and between.
var spread = [8]int{0, 1, 7, 8, 128, 247, 254, 255}

// near is one of 256 keys that differ in few bits.
func near(x byte) Hash {
	h := zeros
	for i, bit := range spread {
		if x>>i&1 == 1 {
			h = with(h, bit)
		}
	}
	return h
}

// anyHashes: n hashes, no two alike, the same ones always.
func anyHashes(seed uint32, n int) []Hash {
	l := make([]Hash, n)
	for i := range l {
		l[i] = sha256.Sum256(noise.Bytes(seed*100003+uint32(i), 32))
	}
	return l
}

// digits: a hash's 256 bits, as a text.
func digits(h Hash) string {
	var b strings.Builder
	for _, x := range h {
		fmt.Fprintf(&b, "%08b", x)
	}
	return b.String()
}

// model is a trie by the chapter's words alone.
type model map[Hash]Hash

type entry struct {
	key, value Hash
	digits     string
}

// entries: what a model has, in the keys' order, as bits.
func (m model) entries() []entry {
	var l []entry
	for k, v := range m {
		l = append(l, entry{k, v, digits(k)})
	}
	slices.SortFunc(l, func(a, b entry) int { return strings.Compare(a.digits, b.digits) })
	return l
}

func (m model) root() Hash { return rootByWords(m.entries()) }

func rootByWords(l []entry) Hash {
	switch len(l) {
	case 0:
		return sha256.Sum256([]byte{5})
	case 1:
		return sha256.Sum256(slices.Concat([]byte{3}, l[0].key[:], l[0].value[:]))
	}
	i := 0
	for !slices.ContainsFunc(l, func(e entry) bool { return e.digits[i] != l[0].digits[i] }) {
		i++
	}
	var sides [2][]entry
	for _, e := range l {
		sides[e.digits[i]-'0'] = append(sides[e.digits[i]-'0'], e)
	}
	left, right := rootByWords(sides[0]), rootByWords(sides[1])
	return sha256.Sum256(slices.Concat([]byte{4, byte(i)}, left[:], right[:]))
}

// trieOf puts what a model has into a trie, in no order.
func trieOf(m model) *Trie {
	x := trie.New()
	for k, v := range m {
		x = x.Put(k, v)
	}
	return x
}

func gets(t *testing.T, what string, x *Trie, k Hash, want Hash, has bool) {
	t.Helper()
	if got, ok := x.Get(k); got != want || ok != has {
		t.Errorf("%s: Get of %x: %x %v, want %x %v", what, k, got, ok, want, has)
	}
}

func isRoot(t *testing.T, what string, x *Trie, want Hash) {
	t.Helper()
	if got := x.Root(); got != want {
		t.Errorf("%s: Root %x, want %x", what, got, want)
	}
}

func isLen(t *testing.T, what string, x *Trie, want int) {
	t.Helper()
	if got := x.Len(); got != want {
		t.Errorf("%s: Len %d, want %d", what, got, want)
	}
}

// tells holds what All tells against entries.
func tells(t *testing.T, what string, x *Trie, want []entry) {
	t.Helper()
	n := 0
	for k, v := range x.All() {
		if n >= len(want) || k != want[n].key || v != want[n].value {
			t.Errorf("%s: All tells %x %x at %d of %d", what, k, v, n, len(want))
			return
		}
		n++
	}
	if n != len(want) {
		t.Errorf("%s: All tells %d, want %d", what, n, len(want))
	}
}

// is holds all that a trie answers against a model: of its keys, and of some beside each that it has not.
func is(t *testing.T, what string, x *Trie, m model) {
	t.Helper()
	if x == nil {
		t.Fatalf("%s: nil", what)
	}
	isLen(t, what, x, len(m))
	tells(t, what, x, m.entries())
	asked := []Hash{zeros, ones}
	for k := range m {
		asked = append(asked, k, with(k, 0), with(k, 7), with(k, 100), with(k, 254), with(k, 255))
	}
	for _, k := range asked {
		v, has := m[k]
		gets(t, what, x, k, v, has)
	}
	isRoot(t, what, x, m.root())
}

// P11.1

func isBit(t *testing.T, k Hash, i, want int) {
	t.Helper()
	if got := trie.Bit(k, i); got != want {
		t.Errorf("Bit of %x, %d: %d, want %d", k, i, got, want)
	}
}

func TestBit(t *testing.T) {
	isBit(t, Hash{0: 0x80}, 0, 1)
	isBit(t, Hash{0: 0x01}, 7, 1)
	isBit(t, Hash{1: 0x80}, 8, 1)
	isBit(t, Hash{31: 0x01}, 255, 1)
	isBit(t, Hash{31: 0x80}, 248, 1)
	for i := range 256 {
		isBit(t, zeros, i, 0)
		isBit(t, ones, i, 1)
		for j := range 256 {
			want := 0
			if i == j {
				want = 1
			}
			isBit(t, with(zeros, j), i, want)
			isBit(t, with(ones, j), i, 1-want)
		}
	}
}

func TestBitByWords(t *testing.T) {
	for _, k := range anyHashes(1, 50) {
		for i, digit := range digits(k) {
			isBit(t, k, i, int(digit-'0'))
		}
	}
}

func TestBitOfAnother(t *testing.T) {
	for _, i := range []int{-1, -2, -7, -8, -9, -255, -256, -257, 256, 257, 263, 264, 511, 512, 1 << 8, 1 << 16, 1 << 32, 1<<32 + 1, -1 << 32, math.MaxInt, math.MaxInt - 7, math.MinInt, math.MinInt + 7} {
		for _, k := range []Hash{zeros, ones, {0: 0x80}, {31: 1}} {
			isBit(t, k, i, 0)
		}
	}
}

func isApart(t *testing.T, a, b Hash, want int) {
	t.Helper()
	if got := trie.Apart(a, b); got != want {
		t.Errorf("Apart of %x and %x: %d, want %d", a, b, got, want)
	}
	if got := trie.Apart(b, a); got != want {
		t.Errorf("Apart of %x and %x: %d, want %d", b, a, got, want)
	}
}

func TestApart(t *testing.T) {
	for _, k := range append(anyHashes(2, 20), zeros, ones) {
		isApart(t, k, k, 256)
		isApart(t, k, with(k, 0), 0)
		isApart(t, k, with(k, 255), 255)
		isApart(t, k, with(k, 0, 255), 0)
		isApart(t, k, with(k, 7, 8), 7)
		isApart(t, k, with(k, 8, 9, 200), 8)
		isApart(t, k, with(k, 254, 255), 254)
		for i := range 256 {
			isApart(t, k, with(k, i), i)
			for j := i + 1; j < 256; j += 13 {
				isApart(t, k, with(k, i, j), i)
			}
		}
	}
	isApart(t, zeros, ones, 0)
}

func TestApartByWords(t *testing.T) {
	l := anyHashes(3, 60)
	for i, a := range l {
		for _, b := range l[i+1:] {
			x, y, want := digits(a), digits(b), 0
			for x[want] == y[want] {
				want++
			}
			isApart(t, a, b, want)
		}
	}
}

func TestNew(t *testing.T) {
	is(t, "a new one", trie.New(), model{})
	gets(t, "a new one", trie.New(), zeros, Hash{}, false)
	if trie.New() == trie.New() {
		t.Error("two new ones are the same")
	}
}

func TestPut(t *testing.T) {
	a, b, c := near(1), near(2), near(128)
	x := trie.New().Put(a, val(1))
	is(t, "one", x, model{a: val(1)})
	x = x.Put(b, val(2))
	is(t, "two", x, model{a: val(1), b: val(2)})
	x = x.Put(c, val(1))
	is(t, "three", x, model{a: val(1), b: val(2), c: val(1)})
}

// A value of zeros is one, too, and so is a key of zeros.
func TestPutOfZerosAndOnes(t *testing.T) {
	x := trie.New().Put(zeros, zeros)
	is(t, "zeros at zeros", x, model{zeros: zeros})
	gets(t, "zeros at zeros", x, zeros, zeros, true)
	x = x.Put(ones, zeros)
	is(t, "zeros and ones", x, model{zeros: zeros, ones: zeros})
	x = x.Put(ones, ones).Put(zeros, ones)
	is(t, "ones at both", x, model{zeros: ones, ones: ones})
	is(t, "ones alone", x.Drop(zeros), model{ones: ones})
	is(t, "zeros alone", x.Drop(ones), model{zeros: ones})
}

func TestPutOfAKeyThatIsThere(t *testing.T) {
	m := model{near(0): val(1), near(3): val(2), near(129): val(3), near(255): val(4)}
	x := trieOf(m)
	for k, v := range m {
		is(t, "the same value", x.Put(k, v), m)
		other := maps.Clone(m)
		other[k] = val(9)
		is(t, "another value", x.Put(k, val(9)), other)
		is(t, "as before", x, m)
		is(t, "changed and changed back", x.Put(k, val(9)).Put(k, v), m)
		is(t, "dropped and put again", x.Drop(k).Put(k, v), m)
	}
}

func TestDrop(t *testing.T) {
	m := model{near(0): val(1), near(3): val(2), near(129): val(3), near(255): val(4)}
	x := trieOf(m)
	for k := range m {
		other := maps.Clone(m)
		delete(other, k)
		is(t, "one dropped", x.Drop(k), other)
		is(t, "as before", x, m)
		for l := range other {
			two := maps.Clone(other)
			delete(two, l)
			is(t, "two dropped", x.Drop(k).Drop(l), two)
		}
	}
}

func TestDropOfAKeyThatIsNotThere(t *testing.T) {
	m := model{}
	for n := range 40 {
		x := trieOf(m)
		root := x.Root()
		for _, k := range append(anyHashes(4, 5), zeros, ones, near(byte(n)), with(near(byte(n)), 200), with(near(byte(n/2)), 255)) {
			if _, has := m[k]; has {
				continue
			}
			if x.Drop(k) != x {
				t.Errorf("of %d, Drop of %x, which is not there: another one", n, k)
			}
		}
		isRoot(t, "behind Drops of none", x, root)
		is(t, "behind Drops of none", x, m)
		m[near(byte(n))] = val(n)
	}
}

func TestDropOfTheLast(t *testing.T) {
	for _, k := range []Hash{zeros, ones, near(7), with(zeros, 255)} {
		x := trie.New().Put(k, val(1)).Drop(k)
		is(t, "behind the last", x, model{})
		if x.Drop(k) != x {
			t.Error("Drop of what was dropped: another one")
		}
		is(t, "put again", x.Put(k, val(2)), model{k: val(2)})
		is(t, "another one put", x.Put(with(k, 3), val(2)), model{with(k, 3): val(2)})
	}
}

// A key whose way leads to another one's item is not there, whichever bit they differ in.
func TestGetOfAKeyThatIsNotThere(t *testing.T) {
	one := trie.New().Put(near(5), val(1))
	two := one.Put(with(near(5), 100), val(2))
	for i := range 256 {
		gets(t, "one", one, with(near(5), i), Hash{}, false)
		if i != 100 {
			gets(t, "two", two, with(near(5), i), Hash{}, false)
			gets(t, "two", two, with(near(5), i, 100), Hash{}, false)
		}
	}
	gets(t, "two", two, near(5), val(1), true)
	gets(t, "two", two, with(near(5), 100), val(2), true)
}

func TestAllIsInOrder(t *testing.T) {
	m := model{}
	for i, k := range anyHashes(5, 300) {
		m[k] = val(i)
	}
	for x := range 256 {
		m[near(byte(x))] = val(x)
	}
	for i := range 256 {
		m[with(ones, i)] = val(i)
		m[with(zeros, i)] = val(i)
	}
	x := trieOf(m)
	is(t, "many", x, m)
	var last string
	for k := range x.All() {
		if now := digits(k); now <= last {
			t.Fatalf("%s behind %s", now, last)
		} else {
			last = now
		}
	}
}

func TestAllBrokenOff(t *testing.T) {
	m := model{}
	for i, k := range anyHashes(6, 30) {
		m[k] = val(i)
	}
	x, want := trieOf(m), m.entries()
	all := x.All()
	for most := 1; most <= len(want); most++ {
		n := 0
		for k, v := range all {
			if k != want[n].key || v != want[n].value {
				t.Errorf("%x at %d", k, n)
			}
			if n++; n == most {
				break
			}
		}
		if n != most {
			t.Errorf("%d told, want %d", n, most)
		}
	}
	calls := 0
	all(func(_, _ Hash) bool { calls++; return false })
	if calls != 1 {
		t.Errorf("told %d to who wants no more behind the first", calls)
	}
	tells(t, "behind all that was broken off", x, want)
}

func TestAllAgainAndNested(t *testing.T) {
	m := model{near(1): val(1), near(2): val(2), near(200): val(3), ones: val(4)}
	want := m.entries()
	all := trieOf(m).All()
	for range 3 {
		i := 0
		for k := range all {
			j := 0
			for l, v := range all {
				if k != want[i].key || l != want[j].key || v != want[j].value {
					t.Errorf("%x and %x at %d and %d", k, l, i, j)
				}
				j++
			}
			i++
			if j != len(want) {
				t.Errorf("%d within, want %d", j, len(want))
			}
		}
		if i != len(want) {
			t.Errorf("%d told, want %d", i, len(want))
		}
	}
}

func TestAllOfNone(t *testing.T) {
	for range trie.New().All() {
		t.Error("a new one tells something")
	}
	for range trie.New().Put(ones, ones).Drop(ones).All() {
		t.Error("one behind the last Drop tells something")
	}
}

// What is told is as it was when it was asked for, whatever becomes of the Trie, or of the variable that it stands in.
func TestAllIsAsItWas(t *testing.T) {
	x := trie.New().Put(near(1), val(1)).Put(near(2), val(2))
	here := *x
	all := here.All()
	here = *x.Put(near(3), val(3)).Drop(near(1))
	var told []Hash
	for k, v := range all {
		told = append(told, k, v)
		x = x.Drop(k)
	}
	if want := []Hash{near(2), val(2), near(1), val(1)}; !slices.Equal(told, want) {
		t.Errorf("told %x, want %x", told, want)
	}
	is(t, "where all that was told was dropped", x, model{})
	is(t, "the other one", &here, model{near(2): val(2), near(3): val(3)})
}

// A Trie that no call made

func TestNoCallMade(t *testing.T) {
	for what, x := range map[string]*Trie{"nil": nil, "a zero value": {}} {
		for range 2 {
			for _, k := range []Hash{zeros, ones, near(7)} {
				if got := x.Put(k, val(1)); got != nil {
					t.Errorf("%s: Put: %v", what, got)
				}
				if got := x.Drop(k); got != nil {
					t.Errorf("%s: Drop: %v", what, got)
				}
				gets(t, what, x, k, Hash{}, false)
			}
			isRoot(t, what, x, Hash{})
			isLen(t, what, x, 0)
			tells(t, what, x, nil)
			tells(t, what+", of what Put told", x.Put(zeros, zeros).Put(ones, ones).Drop(ones), nil)
		}
	}
	if x := new(Trie); x.Put(ones, ones) != nil || *x != (Trie{}) {
		t.Error("a zero value has changed")
	}
}
