package member_test

import (
	"math"
	"slices"
	"testing"

	"indenture/member"
	"indenture/tag"
	"indenture/trie"
)

func goodByWords(p Proof) bool {
	if !p.Leaf {
		return len(p.Steps) == 0 && p.Key == Hash{} && p.Value == Hash{}
	}
	for i, s := range p.Steps {
		if s.Bit < 0 || s.Bit > 255 || i > 0 && p.Steps[i-1].Bit >= s.Bit {
			return false
		}
	}
	return true
}

func climbByWords(k Hash, p Proof) (Hash, bool) {
	if !goodByWords(p) {
		return Hash{}, false
	}
	if !p.Leaf {
		return nothing(), true
	}
	ks, keys := digits(k), digits(p.Key)
	root := item(p.Key, p.Value)
	for i := len(p.Steps) - 1; i >= 0; i-- {
		s := p.Steps[i]
		switch {
		case keys[s.Bit] != ks[s.Bit]:
			return Hash{}, false
		case ks[s.Bit] == '0':
			root = fork(s.Bit, root, s.Side)
		default:
			root = fork(s.Bit, s.Side, root)
		}
	}
	return root, true
}

func checkByWords(root, k Hash, p Proof) (Hash, bool, bool) {
	got, ok := climbByWords(k, p)
	switch {
	case !ok || got != root:
		return Hash{}, false, false
	case p.Leaf && p.Key == k:
		return p.Value, true, true
	}
	return Hash{}, false, true
}

func isGood(t *testing.T, p Proof, want bool) {
	t.Helper()
	if got := member.Good(p); got != want {
		t.Errorf("Good of %s: %v, want %v", text(p), got, want)
	}
}

func climbs(t *testing.T, k Hash, p Proof, want Hash) {
	t.Helper()
	if got, ok := member.Climb(k, p); got != want || !ok {
		t.Errorf("Climb of %x by %s: %x %v, want %x", k, text(p), got, ok, want)
	}
}

func isChecked(t *testing.T, root, k Hash, p Proof, value Hash, has, ok bool) {
	t.Helper()
	if v, h, o := member.Check(root, k, p); v != value || h != has || o != ok {
		t.Errorf("Check of %x by %s: %x %v %v, want %x %v %v", k, text(p), v, h, o, value, has, ok)
	}
}

// refused: not accepted, and nothing is said beside.
func refused(t *testing.T, root, k Hash, p Proof) {
	t.Helper()
	isChecked(t, root, k, p, Hash{}, false, false)
}

// climbsNot: there is no root, so that none is accepted, not even that of zeros.
func climbsNot(t *testing.T, k Hash, p Proof) {
	t.Helper()
	if got, ok := member.Climb(k, p); got != (Hash{}) || ok {
		t.Errorf("Climb of %x by %s: %x %v, want none", k, text(p), got, ok)
	}
	for _, root := range []Hash{{}, nothing(), item(p.Key, p.Value), item(k, p.Value)} {
		refused(t, root, k, p)
	}
}

// agrees holds Good, Climb and Check against the words, and tells whether there is a root.
func agrees(t *testing.T, k Hash, p Proof) bool {
	t.Helper()
	isGood(t, p, goodByWords(p))
	root, ok := climbByWords(k, p)
	if !ok {
		climbsNot(t, k, p)
		return false
	}
	climbs(t, k, p, root)
	value, has, ok := checkByWords(root, k, p)
	isChecked(t, root, k, p, value, has, ok)
	refused(t, with(root, 255), k, p)
	refused(t, Hash{}, k, p)
	return true
}

// byBits is a way of steps at those bits to an item of zeros at zeros.
func byBits(bits ...int) Proof {
	p := Proof{Leaf: true}
	for i, bit := range bits {
		p.Steps = append(p.Steps, Step{bit, val(i + 1)})
	}
	return p
}

// P12.2

func TestGoodBits(t *testing.T) {
	all := make([]int, 256)
	for i := range all {
		all[i] = i
	}
	for _, bits := range [][]int{{}, {0}, {255}, {0, 1}, {0, 255}, {254, 255}, {7, 8, 9, 200}, all, all[1:], all[:255]} {
		isGood(t, byBits(bits...), true)
		agrees(t, zeros, byBits(bits...))
	}
	for _, bits := range [][]int{
		{-1}, {256}, {257}, {-256}, {math.MinInt}, {math.MaxInt}, {math.MinInt, math.MaxInt}, {math.MaxInt, math.MinInt}, {math.MinInt, math.MinInt}, {math.MaxInt, math.MaxInt},
		{-1, 0}, {math.MinInt, 0}, {-2, -1}, {0, 256}, {255, 256}, {0, math.MaxInt}, {1, math.MinInt}, {0, 1, 2, 256}, {-1, 1, 2}, {0, -1}, {1 << 32}, {0, 1 << 32}, {0, 1<<32 + 1}, {-1 << 32},
		{0, 0}, {255, 255}, {7, 7}, {1, 2, 2}, {1, 1, 2}, {1, 2, 2, 3},
		{1, 0}, {255, 254}, {255, 0}, {0, 2, 1}, {2, 1, 3}, {5, 6, 7, 0}, {8, 7},
		append(slices.Clone(all), 256), append(slices.Clone(all), 255), append(slices.Clone(all), 0), append([]int{-1}, all...), append([]int{0}, all...),
	} {
		isGood(t, byBits(bits...), false)
		for _, k := range []Hash{zeros, ones} {
			p := byBits(bits...)
			climbsNot(t, k, p)
			p.Key = k
			climbsNot(t, k, p)
		}
	}
}

// All ways of three steps, at bits about both ends.
func TestGoodByWords(t *testing.T) {
	few := []int{math.MinInt, -256, -1, 0, 1, 2, 128, 254, 255, 256, 257, math.MaxInt}
	for _, a := range few {
		agrees(t, zeros, byBits(a))
		for _, b := range few {
			agrees(t, zeros, byBits(a, b))
			for _, c := range few {
				agrees(t, zeros, byBits(a, b, c))
			}
		}
	}
}

// Without Leaf there is nothing at all; with it, Key and Value may be zero.
func TestGoodWithoutLeaf(t *testing.T) {
	isGood(t, Proof{}, true)
	isGood(t, Proof{Steps: []Step{}}, true)
	isGood(t, Proof{Steps: []Step{{5, val(1)}}[:0]}, true)
	isGood(t, Proof{Leaf: true}, true)
	isGood(t, Proof{Leaf: true, Key: ones, Value: ones}, true)
	for _, p := range []Proof{
		{Steps: []Step{{0, val(1)}}},
		{Steps: []Step{{}}},
		{Steps: []Step{{1, val(1)}, {2, val(2)}}},
		{Steps: []Step{{-1, val(1)}}},
		{Key: ones}, {Value: ones}, {Key: ones, Value: ones},
		{Key: Hash{31: 1}}, {Value: Hash{31: 1}}, {Key: Hash{0: 128}}, {Value: Hash{0: 128}},
		{Steps: []Step{{0, val(1)}}, Key: ones, Value: ones},
	} {
		isGood(t, p, false)
		for _, k := range []Hash{zeros, ones, p.Key} {
			climbsNot(t, k, p)
		}
	}
}

func TestClimbOfNone(t *testing.T) {
	for _, k := range append(anyHashes(21, 5), zeros, ones) {
		climbs(t, k, Proof{}, tag.Nothing())
		climbs(t, k, Proof{Steps: []Step{}}, tag.Nothing())
		isChecked(t, tag.Nothing(), k, Proof{}, Hash{}, false, true)
		refused(t, Hash{}, k, Proof{})
		refused(t, tag.Empty(), k, Proof{})
		refused(t, tag.Item(zeros, zeros), k, Proof{})
		refused(t, tag.Nothing(), k, Proof{Leaf: true})
	}
}

// Without steps all keys end at the one item.
func TestClimbWithoutSteps(t *testing.T) {
	for i, key := range append(anyHashes(22, 5), zeros, ones) {
		p := Proof{Leaf: true, Key: key, Value: val(i)}
		root := tag.Item(key, val(i))
		climbs(t, key, p, root)
		isChecked(t, root, key, p, val(i), true, true)
		for j := range 256 {
			climbs(t, with(key, j), p, root)
			isChecked(t, root, with(key, j), p, Hash{}, false, true)
		}
	}
}

// At each bit alone: the way goes to the side that k's bit says.
func TestClimbOfOneStep(t *testing.T) {
	for i := range 256 {
		p := Proof{[]Step{{i, val(9)}}, true, zeros, val(1)}
		climbs(t, zeros, p, tag.Fork(i, tag.Item(zeros, val(1)), val(9)))
		climbs(t, with(ones, i), p, tag.Fork(i, tag.Item(zeros, val(1)), val(9)))
		climbsNot(t, with(zeros, i), p)
		climbsNot(t, ones, p)
		p.Key = ones
		climbs(t, ones, p, tag.Fork(i, val(9), tag.Item(ones, val(1))))
		climbs(t, with(zeros, i), p, tag.Fork(i, val(9), tag.Item(ones, val(1))))
		climbsNot(t, with(ones, i), p)
		climbsNot(t, zeros, p)
	}
}

func TestClimbOfThreeSteps(t *testing.T) {
	k := with(zeros, 8, 255)
	p := Proof{[]Step{{0, val(1)}, {8, val(2)}, {255, val(3)}}, true, k, val(4)}
	root := tag.Fork(0, tag.Fork(8, val(2), tag.Fork(255, val(3), tag.Item(k, val(4)))), val(1))
	climbs(t, k, p, root)
	climbs(t, with(k, 7), p, root)
	isChecked(t, root, k, p, val(4), true, true)
	isChecked(t, root, with(k, 7), p, Hash{}, false, true)
	isChecked(t, root, with(k, 254, 1), p, Hash{}, false, true)
}

// One bit of k that a step asks for, turned: that item does not stand on k's way. Any other bit is not asked for.
func TestClimbOfAKeyOfAnotherWay(t *testing.T) {
	key := anyHashes(23, 1)[0]
	p := Proof{Leaf: true, Key: key, Value: val(1)}
	for _, bit := range []int{0, 1, 7, 8, 63, 128, 200, 254, 255} {
		p.Steps = append(p.Steps, Step{bit, val(bit)})
	}
	root, ok := climbByWords(key, p)
	if !ok {
		t.Fatal("no root")
	}
	for i := range 256 {
		k := with(key, i)
		if slices.ContainsFunc(p.Steps, func(s Step) bool { return s.Bit == i }) {
			climbsNot(t, k, p)
			refused(t, root, k, p)
			continue
		}
		climbs(t, k, p, root)
		isChecked(t, root, k, p, Hash{}, false, true)
		// Two such bits at once, one that is asked for and one that is not.
		refused(t, root, with(k, 63), p)
	}
}

// some: a few maps, of all kinds of ways.
func some() []model {
	return []model{{}, {near(3): val(1)}, {zeros: zeros}, {zeros: val(1), with(zeros, 255): val(2)}, {zeros: val(1), with(zeros, 0): val(2)}, nearModel(7), nearModel(40), anyModel(24, 30)}
}

func TestCheckUnderAnotherRoot(t *testing.T) {
	for _, m := range some() {
		x := trieOf(m)
		for _, k := range asked(m) {
			p := member.Prove(x, k)
			others := []Hash{{}, with(x.Root(), 0), with(x.Root(), 255), x.Put(k, val(99)).Root(), p.Key, p.Value}
			if x.Len() != 0 {
				others = append(others, tag.Nothing())
			}
			if x.Len() != 1 {
				others = append(others, tag.Item(p.Key, p.Value))
			}
			for _, s := range p.Steps {
				others = append(others, s.Side)
			}
			for _, root := range others {
				refused(t, root, k, p)
			}
		}
	}
}

// changed: proofs that differ from one in one thing, none of which leads to the same root.
func changed(p Proof) []Proof {
	var l []Proof
	add := func(change func(*Proof)) {
		other := p
		other.Steps = slices.Clone(p.Steps)
		change(&other)
		l = append(l, other)
	}
	add(func(o *Proof) { o.Leaf = !o.Leaf })
	for _, i := range []int{0, 1, 7, 8, 127, 254, 255} {
		add(func(o *Proof) { o.Key = with(o.Key, i) })
		add(func(o *Proof) { o.Value = with(o.Value, i) })
	}
	for at := range p.Steps {
		for i := range 9 {
			add(func(o *Proof) { o.Steps[at].Bit ^= 1 << i })
		}
		for _, by := range []int{-256, -1, 1, 256, math.MinInt} {
			add(func(o *Proof) { o.Steps[at].Bit += by })
		}
		for _, i := range []int{0, 100, 255} {
			add(func(o *Proof) { o.Steps[at].Side = with(o.Steps[at].Side, i) })
		}
		add(func(o *Proof) { o.Steps = slices.Delete(o.Steps, at, at+1) })
		add(func(o *Proof) { o.Steps = slices.Insert(o.Steps, at, o.Steps[at]) })
		if at > 0 {
			add(func(o *Proof) { o.Steps[at], o.Steps[at-1] = o.Steps[at-1], o.Steps[at] })
			add(func(o *Proof) { o.Steps[at].Side, o.Steps[at-1].Side = o.Steps[at-1].Side, o.Steps[at].Side })
		}
	}
	for at := range len(p.Steps) + 1 {
		for _, bit := range []int{-1, 0, 1, 9, 130, 253, 255, 256} {
			add(func(o *Proof) { o.Steps = slices.Insert(o.Steps, at, Step{bit, val(77)}) })
		}
	}
	add(func(o *Proof) { o.Key, o.Value = o.Value, o.Key })
	return l
}

// A turned Bit, Side, Key, Value or Leaf, a step too few, or too many, wherever it stands.
func TestCheckOfAChangedProof(t *testing.T) {
	for _, m := range some() {
		x := trieOf(m)
		root := x.Root()
		for _, k := range asked(m) {
			p := member.Prove(x, k)
			for _, other := range changed(p) {
				if !alike(other, p) {
					refused(t, root, k, other)
				}
				agrees(t, k, other)
			}
		}
	}
}

// Of another key than the one it was told for a proof is refused, or, where their ways are one, says what there is of that one.
func TestCheckOfAnotherKey(t *testing.T) {
	for _, m := range some() {
		x := trieOf(m)
		keys := asked(m)
		proofs := member.Many(x, keys)
		for _, p := range proofs {
			for i, other := range keys {
				if !alike(p, proofs[i]) {
					refused(t, x.Root(), other, p)
					climbsNot(t, other, p)
					continue
				}
				v, has := m[other]
				isChecked(t, x.Root(), other, p, v, has, true)
			}
		}
	}
}

// A proof of one map under another one's root, which has one thing more, or less, or otherwise.
func TestCheckOfAnotherMapsProof(t *testing.T) {
	for _, m := range some() {
		x := trieOf(m)
		for _, k := range asked(m) {
			p := member.Prove(x, k)
			for _, y := range []*Trie{x.Put(k, val(98)), x.Put(with(k, 5), val(98)), x.Drop(p.Key)} {
				if y.Root() != x.Root() {
					refused(t, y.Root(), k, p)
					refused(t, x.Root(), k, member.Prove(y, k))
				}
			}
		}
	}
}

// More steps than there are bits, however many: there is no such way.
func TestProofsThatAreTooLong(t *testing.T) {
	for _, count := range []int{257, 258, 1000, 100000} {
		p := Proof{Leaf: true}
		for i := range count {
			p.Steps = append(p.Steps, Step{Bit: i})
		}
		climbsNot(t, zeros, p)
		isGood(t, p, false)
		for i := range p.Steps {
			p.Steps[i].Bit = i % 256
		}
		climbsNot(t, zeros, p)
		isGood(t, p, false)
	}
}

// What was told ahead of a change says what there was, under the old root alone; what is told behind it, what there is.
func TestProofsAheadAndBehind(t *testing.T) {
	changes := []func(*Trie, Hash) *Trie{
		func(x *Trie, k Hash) *Trie { return x.Put(k, val(50)) },
		func(x *Trie, k Hash) *Trie { return x.Drop(k) },
		func(x *Trie, k Hash) *Trie { return x.Put(with(k, 200), val(51)) },
		func(x *Trie, k Hash) *Trie { return x.Put(with(k, 0), val(52)) },
	}
	x := trie.New()
	for i := range 60 {
		k := near(byte(i * 37))
		y := changes[i%7%4](x, k)
		ahead, behind := member.Prove(x, k), member.Prove(y, k)
		was, had := x.Get(k)
		is, has := y.Get(k)
		isChecked(t, x.Root(), k, ahead, was, had, true)
		isChecked(t, y.Root(), k, behind, is, has, true)
		if x.Root() != y.Root() {
			refused(t, y.Root(), k, ahead)
			refused(t, x.Root(), k, behind)
		}
		isProof(t, "told again of the old one", member.Prove(x, k), ahead)
		x = y
	}
	if x.Len() < 10 {
		t.Errorf("%d keys are too few to tell", x.Len())
	}
}
