package member_test

import (
	"crypto/sha256"
	"fmt"
	"maps"
	"slices"
	"strings"
	"testing"

	"indenture/api"
	"indenture/internal/noise"
	"indenture/member"
	"indenture/sha"
	"indenture/tag"
	"indenture/trie"
)

type (
	Hash  = api.Hash
	Trie  = trie.Trie
	Step  = member.Step
	Proof = member.Proof
)

// zeros and ones: the first key of all, and the last one.
var (
	zeros Hash
	ones  = Hash(slices.Repeat([]byte{255}, 32))
)

// with is h with those bits turned.
func with(h Hash, bits ...int) Hash {
	for _, i := range bits {
		h[i/8] ^= 128 >> (i % 8)
	}
	return h
}

// val is one of the values of these tests, no two of them alike; of 0 it is all zeros.
func val(i int) Hash {
	return Hash{0: byte(i), 31: byte(i >> 8)}
}

// spread: the bits in which near keys differ, at the ends of a key, of a byte, and between.
var spread = [8]int{0, 1, 7, 8, 128, 247, 254, 255}

// near is one of 256 keys that differ in few bits.
func near(x byte) Hash {
	h := zeros
	for i, bit := range spread {
		if x>>i&1 == 1 {
			h = with(h, bit)
		}
	}
	return h
}

// anyHashes: n hashes, no two alike, the same ones always.
func anyHashes(seed uint32, n int) []Hash {
	l := make([]Hash, n)
	for i := range l {
		l[i] = sha256.Sum256(noise.Bytes(seed*100003+uint32(i), 32))
	}
	return l
}

// digits: a hash's 256 bits, as a text.
func digits(h Hash) string {
	b := make([]byte, 0, 256)
	for _, x := range h {
		for place := byte(128); place > 0; place /= 2 {
			b = append(b, '0'+min(x&place, 1))
		}
	}
	return string(b)
}

// The hashes of chapter 4's words.

func item(k, v Hash) Hash { return sha256.Sum256(slices.Concat([]byte{3}, k[:], v[:])) }

func fork(bit int, a, b Hash) Hash {
	return sha256.Sum256(slices.Concat([]byte{4, byte(bit)}, a[:], b[:]))
}

func nothing() Hash { return sha256.Sum256([]byte{5}) }

// model is a trie by the chapters' words alone.
type model map[Hash]Hash

type entry struct {
	key, value Hash
	digits     string
}

func (m model) entries() []entry {
	var l []entry
	for k, v := range m {
		l = append(l, entry{k, v, digits(k)})
	}
	return l
}

// parted: the first bit in which not all of two or more are alike, those with 0 there, and those with 1.
func parted(l []entry) (int, [2][]entry) {
	i := 0
	for !slices.ContainsFunc(l, func(e entry) bool { return e.digits[i] != l[0].digits[i] }) {
		i++
	}
	var sides [2][]entry
	for _, e := range l {
		sides[e.digits[i]-'0'] = append(sides[e.digits[i]-'0'], e)
	}
	return i, sides
}

func rootByWords(l []entry) Hash {
	switch len(l) {
	case 0:
		return nothing()
	case 1:
		return item(l[0].key, l[0].value)
	}
	i, sides := parted(l)
	return fork(i, rootByWords(sides[0]), rootByWords(sides[1]))
}

func (m model) root() Hash { return rootByWords(m.entries()) }

func proveByWords(l []entry, k string) Proof {
	switch len(l) {
	case 0:
		return Proof{}
	case 1:
		return Proof{Leaf: true, Key: l[0].key, Value: l[0].value}
	}
	i, sides := parted(l)
	own, other := sides[0], sides[1]
	if k[i] == '1' {
		own, other = other, own
	}
	p := proveByWords(own, k)
	p.Steps = append([]Step{{Bit: i, Side: rootByWords(other)}}, p.Steps...)
	return p
}

func (m model) prove(k Hash) Proof { return proveByWords(m.entries(), digits(k)) }

// trieOf puts what a model has into a trie, in no order.
func trieOf(m model) *Trie {
	x := trie.New()
	for k, v := range m {
		x = x.Put(k, v)
	}
	return x
}

// anyModel: n keys that have nothing to do with one another.
func anyModel(seed uint32, n int) model {
	m := model{}
	for i, k := range anyHashes(seed, n) {
		m[k] = val(i)
	}
	return m
}

// nearModel: n keys that differ in few bits.
func nearModel(n int) model {
	m := model{}
	for x := range n {
		m[near(byte(x*29))] = val(x)
	}
	return m
}

// text: a proof, for who reads what failed.
func text(p Proof) string {
	var b strings.Builder
	for _, s := range p.Steps {
		fmt.Fprintf(&b, "%d %x, ", s.Bit, s.Side)
	}
	fmt.Fprintf(&b, "%v %x %x", p.Leaf, p.Key, p.Value)
	return b.String()
}

func alike(a, b Proof) bool {
	return slices.Equal(a.Steps, b.Steps) && a.Leaf == b.Leaf && a.Key == b.Key && a.Value == b.Value
}

func isProof(t *testing.T, what string, got, want Proof) {
	t.Helper()
	if !alike(got, want) {
		t.Errorf("%s: %s, want %s", what, text(got), text(want))
	}
}

// proves holds what Prove tells against a proof.
func proves(t *testing.T, what string, x *Trie, k Hash, want Proof) Proof {
	t.Helper()
	got := member.Prove(x, k)
	isProof(t, fmt.Sprintf("%s: Prove of %x", what, k), got, want)
	return got
}

// shows holds all that the calls say of one key against a model: the proof, where it leads, and what it says there.
func shows(t *testing.T, what string, x *Trie, m model, k Hash) {
	t.Helper()
	p := proves(t, what, x, k, m.prove(k))
	isGood(t, p, true)
	climbs(t, k, p, x.Root())
	v, has := m[k]
	isChecked(t, x.Root(), k, p, v, has, true)
}

// keys: what a model has, in order, so that a test that fails fails again.
func (m model) keys() []Hash {
	return slices.SortedFunc(maps.Keys(m), func(a, b Hash) int { return slices.Compare(a[:], b[:]) })
}

// asked: all keys of a model, some that it has not beside each, and both ends.
func asked(m model) []Hash {
	l := []Hash{zeros, ones}
	for _, k := range m.keys() {
		l = append(l, k, with(k, 0), with(k, 7), with(k, 100), with(k, 254), with(k, 255), with(k, 0, 255))
	}
	return l
}

// P12.1

func TestProveOfNone(t *testing.T) {
	for _, x := range []*Trie{trie.New(), trie.New().Put(near(1), val(1)).Drop(near(1))} {
		for _, k := range append(anyHashes(1, 5), zeros, ones) {
			p := proves(t, "none", x, k, Proof{})
			if len(p.Steps) != 0 || p.Leaf {
				t.Errorf("none: %v", p)
			}
			shows(t, "none", x, model{}, k)
		}
	}
}

// The item of the one key is told, whichever key is asked for.
func TestProveOfOne(t *testing.T) {
	for n, k := range append(anyHashes(2, 5), zeros, ones) {
		x := trie.New().Put(k, val(n))
		want := Proof{Leaf: true, Key: k, Value: val(n)}
		proves(t, "its own", x, k, want)
		shows(t, "its own", x, model{k: val(n)}, k)
		for i := range 256 {
			proves(t, "another", x, with(k, i), want)
			shows(t, "another", x, model{k: val(n)}, with(k, i))
		}
	}
}

// Two keys that differ in one bit alone, the first and the last among them: one step, with the other one's item, and no other bit is asked for.
func TestProveOfTwo(t *testing.T) {
	for _, k := range []Hash{zeros, ones, near(0x5a), anyHashes(3, 1)[0]} {
		for i := range 256 {
			l := with(k, i)
			x := trie.New().Put(l, val(2)).Put(k, val(1))
			first := Proof{[]Step{{i, tag.Item(l, val(2))}}, true, k, val(1)}
			second := Proof{[]Step{{i, tag.Item(k, val(1))}}, true, l, val(2)}
			proves(t, "the first", x, k, first)
			proves(t, "the second", x, l, second)
			for _, j := range []int{0, 1, 100, 254, 255} {
				if j != i {
					proves(t, "beside the first", x, with(k, j), first)
					proves(t, "beside the second", x, with(l, j), second)
				}
			}
			m := model{k: val(1), l: val(2)}
			shows(t, "two", x, m, k)
			shows(t, "two", x, m, l)
			shows(t, "two", x, m, with(l, (i+1)%256))
		}
	}
}

func TestProveOfThree(t *testing.T) {
	a, b, c := with(zeros, 255), with(zeros, 0, 7), with(zeros, 0, 8)
	x := trie.New().Put(c, val(3)).Put(a, val(1)).Put(b, val(2))
	right := tag.Fork(7, tag.Item(c, val(3)), tag.Item(b, val(2)))
	proves(t, "a", x, a, Proof{[]Step{{0, right}}, true, a, val(1)})
	proves(t, "b", x, b, Proof{[]Step{{0, tag.Item(a, val(1))}, {7, tag.Item(c, val(3))}}, true, b, val(2)})
	proves(t, "c", x, c, Proof{[]Step{{0, tag.Item(a, val(1))}, {7, tag.Item(b, val(2))}}, true, c, val(3)})
	// None of these is there: each way ends at another one's item.
	proves(t, "zeros", x, zeros, Proof{[]Step{{0, right}}, true, a, val(1)})
	proves(t, "beside a", x, with(zeros, 7), Proof{[]Step{{0, right}}, true, a, val(1)})
	proves(t, "ones", x, ones, Proof{[]Step{{0, tag.Item(a, val(1))}, {7, tag.Item(c, val(3))}}, true, b, val(2)})
	proves(t, "beside c", x, with(zeros, 0), Proof{[]Step{{0, tag.Item(a, val(1))}, {7, tag.Item(b, val(2))}}, true, c, val(3)})
}

func TestProveByWords(t *testing.T) {
	for n := range 40 {
		for what, m := range map[string]model{"any keys": anyModel(uint32(n)+10, n), "near keys": nearModel(n)} {
			x := trieOf(m)
			for _, k := range asked(m) {
				shows(t, what, x, m, k)
			}
		}
	}
}

// All that few keys may have.
func TestProveOfAllContents(t *testing.T) {
	for _, keys := range [][]Hash{
		{zeros, ones, with(zeros, 0), with(zeros, 255), with(ones, 255)},
		{near(1), near(2), near(3), near(128), near(129)},
	} {
		for chosen := range 1 << len(keys) {
			m := model{}
			for i, k := range keys {
				if chosen>>i&1 == 1 {
					m[k] = val(i)
				}
			}
			x := trieOf(m)
			for _, k := range append(asked(m), keys...) {
				shows(t, "all contents", x, m, k)
			}
		}
	}
}

// The longest way that may be: a fork at each bit.
func TestProveOfTheHighest(t *testing.T) {
	for _, k := range []Hash{zeros, ones, anyHashes(4, 1)[0]} {
		m := model{k: val(1)}
		want := Proof{Leaf: true, Key: k, Value: val(1)}
		for i := range 256 {
			m[with(k, i)] = val(i + 2)
			want.Steps = append(want.Steps, Step{i, tag.Item(with(k, i), val(i+2))})
		}
		x := trieOf(m)
		proves(t, "the highest", x, k, want)
		for _, asked := range []Hash{k, with(k, 0), with(k, 128), with(k, 255), with(k, 100, 101), with(k, 254, 255)} {
			shows(t, "the highest", x, m, asked)
		}
	}
}

// A value of zeros is one, and so is a key of zeros: what is told is not taken for none.
func TestProveOfZeros(t *testing.T) {
	x := trie.New().Put(zeros, zeros)
	proves(t, "zeros at zeros", x, zeros, Proof{Leaf: true})
	shows(t, "zeros at zeros", x, model{zeros: zeros}, zeros)
	shows(t, "zeros at zeros", x, model{zeros: zeros}, ones)
	x = x.Put(ones, zeros)
	for _, k := range []Hash{zeros, ones, with(ones, 0), with(zeros, 0)} {
		shows(t, "zeros at both", x, model{zeros: zeros, ones: zeros}, k)
	}
}

func parsed(t *testing.T, text string) Hash {
	t.Helper()
	h, ok := sha.Parse(text)
	if !ok {
		t.Fatalf("%s is no hash", text)
	}
	return h
}

// Proofs that were reckoned by another program, of the chapters' words: of keys a to g with values 1 to 7.
func TestProveThatIsKnown(t *testing.T) {
	x := trie.New()
	for i, name := range strings.Split("abcdefg", "") {
		x = x.Put(tag.Key(name), tag.Value(fmt.Sprint(i+1)))
	}
	root := parsed(t, "9a16735ed5f577bb799444bc53dce7091ce3800dbb8ff187fc3cb06f13491821")
	d := proves(t, "d", x, tag.Key("d"), Proof{[]Step{
		{0, parsed(t, "1bc9b0877e3dcb99b0fc13c2a620d63d06171e9afad8d18a868f8d47dc308205")},
		{1, parsed(t, "411840bca3c9ac5409b812ece0e5f257ca58869888e4b885d27e83cea34ca8dc")},
		{4, parsed(t, "130c9cbb47e829a93164a684571a5bae92d78a6435b51c2cf4615e23a833b785")},
	}, true, parsed(t, "fa345019a25f632945e06308a3369199bffbed38ae888d91378857677bc544cd"), parsed(t, "7c780e8d1180b5c258bdc08506855bca08c111a40cb4b38313b153a712504948")})
	isChecked(t, root, tag.Key("d"), d, tag.Value("4"), true, true)
	z := proves(t, "z", x, tag.Key("z"), Proof{[]Step{
		{0, parsed(t, "d94ee8b968784e8043cfa3533e95a3bead799ad1f0189ad7993e4d7214049613")},
		{1, parsed(t, "62c257ed653fa8bd77b09339e49caa63adcdb253ce825e9bf1a7d0f3e56ad2ce")},
		{4, parsed(t, "b4d2783276d39f557ad6c4b0b7d83ffb09af8aa6db30b0a41dc082ad3f1b320c")},
	}, true, parsed(t, "67f008a37d381d7a4ba30910232b2c5b0937354176a197c4831e04efc9a702f2"), parsed(t, "cf6ca93952c5bfe9078b6b7d9a0245849966de46ef787ccf9ca35f55b071c705")})
	isChecked(t, root, tag.Key("z"), z, Hash{}, false, true)
}

// Many

// areProofs holds what Many tells against Prove of each.
func areProofs(t *testing.T, what string, x *Trie, l []Hash) []Proof {
	t.Helper()
	got := member.Many(x, l)
	if len(got) != len(l) {
		t.Fatalf("%s: Many of %d tells %d", what, len(l), len(got))
	}
	for i, k := range l {
		isProof(t, fmt.Sprintf("%s: Many at %d of %d", what, i, len(l)), got[i], member.Prove(x, k))
	}
	return got
}

func TestManyOfNoKeys(t *testing.T) {
	for _, x := range []*Trie{nil, {}, trie.New(), trieOf(nearModel(9))} {
		areProofs(t, "nil", x, nil)
		areProofs(t, "an empty list", x, []Hash{})
	}
}

func TestMany(t *testing.T) {
	for n := range 20 {
		m := nearModel(n)
		x, l := trieOf(m), asked(m)
		for _, count := range []int{1, 2, 3, len(l)} {
			areProofs(t, "some", x, l[:min(count, len(l))])
		}
		for i, p := range member.Many(x, l) {
			isProof(t, "by the words", p, m.prove(l[i]))
		}
	}
}

// What is told stands as it was asked for, one key twice, too, and in no order of keys.
func TestManyOfOneKeyTwice(t *testing.T) {
	m := nearModel(12)
	x := trieOf(m)
	for _, k := range m.keys() {
		other := with(k, 3)
		l := areProofs(t, "twice", x, []Hash{k, k})
		isProof(t, "the first", l[0], m.prove(k))
		isProof(t, "the second", l[1], m.prove(k))
		areProofs(t, "between others", x, []Hash{ones, k, other, k, zeros, other, k, ones})
	}
}

// A Trie that no call made

func TestNoCallMade(t *testing.T) {
	for what, x := range map[string]*Trie{"nil": nil, "a zero value": {}, "what Put tells of one": (*Trie)(nil).Put(zeros, zeros)} {
		for _, k := range []Hash{zeros, ones, near(7), {}} {
			p := proves(t, what, x, k, Proof{})
			for i, p := range member.Many(x, []Hash{k, ones, k}) {
				isProof(t, fmt.Sprintf("%s: Many at %d", what, i), p, Proof{})
			}
			// It is a proof of an empty map, and of nothing else: such a Trie's Root is none of these.
			isGood(t, p, true)
			climbs(t, k, p, nothing())
			isChecked(t, x.Root(), k, p, Hash{}, false, false)
		}
	}
	if x := new(Trie); len(member.Prove(x, ones).Steps) != 0 || *x != (Trie{}) {
		t.Error("a zero value has changed")
	}
}

func TestExample(t *testing.T) {
	p := member.Prove(trie.New(), zeros)
	if len(p.Steps) != 0 || p.Leaf {
		t.Errorf("of an empty trie: %v", p)
	}
	if root, ok := member.Climb(zeros, p); !ok || root != tag.Nothing() {
		t.Errorf("of an empty trie: the root is %x %v", root, ok)
	}
}
