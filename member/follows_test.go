package member_test

import (
	"slices"
	"testing"

	"indenture/internal/noise"
	"indenture/member"
	"indenture/trie"
)

// P12.3

// saysWhatThereIs: of each key what Prove tells is accepted, and says what the trie has.
func saysWhatThereIs(t *testing.T, x *Trie, keys []Hash) {
	t.Helper()
	proofs := areProofs(t, "many", x, keys)
	for i, k := range keys {
		v, has := x.Get(k)
		isChecked(t, x.Root(), k, proofs[i], v, has, true)
	}
}

func TestWhatIsToldIsAccepted(t *testing.T) {
	for _, n := range []int{0, 1, 2, 3, 50, 128} {
		for _, m := range []model{anyModel(uint32(n)+100, n), nearModel(n)} {
			x := trieOf(m)
			saysWhatThereIs(t, x, append(m.keys(), zeros, ones))
			saysWhatThereIs(t, x, anyHashes(101, 50))
		}
	}
}

// Many keys: what Prove does grows no faster than they do, and Many goes over them once, or this would not end.
func TestManyKeys(t *testing.T) {
	keys := anyHashes(102, 20000)
	x := trie.New()
	for i, k := range keys[:10000] {
		x = x.Put(k, val(i))
	}
	proofs := member.Many(x, keys)
	if len(proofs) != len(keys) {
		t.Fatalf("%d proofs", len(proofs))
	}
	root := x.Root()
	for i, p := range proofs {
		if i < 10000 {
			isChecked(t, root, keys[i], p, val(i), true, true)
		} else {
			isChecked(t, root, keys[i], p, Hash{}, false, true)
		}
		if i%2000 == 0 {
			isProof(t, "one", member.Prove(x, keys[i]), p)
		}
	}
}

// endsOf: what proofs of some keys might end at: all items of those values, and none.
func endsOf(keys, values []Hash) []Proof {
	l := []Proof{{}}
	for _, k := range keys {
		for _, v := range values {
			l = append(l, Proof{Leaf: true, Key: k, Value: v})
		}
	}
	return l
}

// lengthened: each of l, with a step of each of those ahead of its others.
func lengthened(l []Proof, steps []Step) []Proof {
	var out []Proof
	for _, p := range l {
		for _, s := range steps {
			longer := p
			longer.Steps = append([]Step{s}, p.Steps...)
			out = append(out, longer)
		}
	}
	return out
}

// Of all proofs that are made of a map's own hashes, of a key one alone is accepted: that which Prove tells. Another one would show two inputs of one hash, of which none are known.
func TestOneProofIsAccepted(t *testing.T) {
	keys := []Hash{zeros, with(zeros, 0), with(zeros, 255)}
	for chosen := range 1 << len(keys) {
		m := model{}
		for i, k := range keys {
			if chosen>>i&1 == 1 {
				m[k] = val(i % 2)
			}
		}
		x := trieOf(m)
		sides := []Hash{nothing(), {}, x.Root(), x.Drop(with(zeros, 0)).Root()}
		for _, k := range m.keys() {
			sides = append(sides, item(k, m[k]))
		}
		slices.SortFunc(sides, func(a, b Hash) int { return slices.Compare(a[:], b[:]) })
		sides = slices.Compact(sides)
		var steps []Step
		for _, bit := range []int{0, 100, 255} {
			for _, side := range sides {
				steps = append(steps, Step{bit, side})
			}
		}
		none := endsOf(keys, []Hash{val(0), val(1)})
		one := lengthened(none, steps)
		two := lengthened(one, steps)
		for _, k := range append(keys, ones, with(zeros, 100)) {
			accepted := 0
			for _, p := range slices.Concat(none, one, two) {
				if _, _, ok := member.Check(x.Root(), k, p); ok {
					accepted++
					isProof(t, "accepted", p, m.prove(k))
				}
			}
			if accepted != 1 {
				t.Errorf("of %x in %x: %d are accepted, want one", k, m, accepted)
			}
		}
	}
}

// R3

// roomy is l at the begin of a longer list, all of which is told, too.
func roomy[T any](l []T, spare T) ([]T, []T) {
	room := append(slices.Clone(l), slices.Repeat([]T{spare}, 8)...)
	return room[:len(l)], room
}

func spoil(p Proof) {
	all := p.Steps[:cap(p.Steps)]
	for i := range all {
		all[i] = Step{-9, Hash{66}}
	}
}

// Whoever writes to a proof, its room too, changes no other one, nor what is told next; whoever writes to the keys changes none.
func TestProofsAreNewMemory(t *testing.T) {
	for n := range 30 {
		m := nearModel(n)
		x := trieOf(m)
		root := x.Root()
		for spoilt := range min(n, 6) {
			l, room := roomy(append(asked(m)[:min(n, 6)], near(0), near(0)), ones)
			was := slices.Clone(room)
			proofs := member.Many(x, l)
			single := member.Prove(x, l[spoilt])
			if !slices.Equal(room, was) {
				t.Error("the keys, or their room, have changed")
			}
			clear(room)
			spoil(proofs[spoilt])
			for i, p := range proofs {
				if i != spoilt {
					isProof(t, "beside a changed one", p, m.prove(was[i]))
				}
			}
			isProof(t, "told alone", single, m.prove(was[spoilt]))
			spoil(single)
			proves(t, "told again", x, was[spoilt], m.prove(was[spoilt]))
		}
		if x.Root() != root || root != m.root() || x.Len() != len(m) {
			t.Error("the trie has changed")
		}
	}
}

// The list of proofs is new memory, too.
func TestListsOfProofsAreNewMemory(t *testing.T) {
	m := nearModel(9)
	x, l := trieOf(m), []Hash{near(0), near(29), ones}
	first := member.Many(x, l)
	second := member.Many(x, l)
	clear(first[:cap(first)])
	for i, p := range second {
		isProof(t, "behind a changed list", p, m.prove(l[i]))
	}
	areProofs(t, "behind a changed list", x, l)
}

func TestChecksChangeNothing(t *testing.T) {
	m := nearModel(40)
	x := trieOf(m)
	for _, k := range asked(m) {
		p := member.Prove(x, k)
		var room []Step
		p.Steps, room = roomy(p.Steps, Step{77, Hash{77}})
		was := slices.Clone(room)
		for range 2 {
			shows(t, "roomy", x, m, k)
			agrees(t, k, p)
			if !slices.Equal(room, was) {
				t.Fatal("a proof's steps, or their room, have changed")
			}
		}
	}
}

// A trie that was not asked for its Root yet, or whose relations were, is shown as another one.
func TestProveOfATrieThatWasNotAsked(t *testing.T) {
	m := nearModel(20)
	x := trieOf(m)
	x.Put(near(255), val(1)).Root()
	proves(t, "not asked", x, near(29), m.prove(near(29)))
	n := 0
	for k, v := range x.All() {
		if proves(t, "within All", x, k, m.prove(k)).Value != v {
			t.Errorf("%x has another value", k)
		}
		n++
	}
	if n != len(m) {
		t.Errorf("%d told", n)
	}
}

// R4: what keys a map tells first is another thing each time, and is not seen.
func TestNothingHangsOnAMapsOrder(t *testing.T) {
	m := anyModel(103, 100)
	k := anyHashes(104, 1)[0]
	want := m.prove(k)
	for range 20 {
		proves(t, "any order", trieOf(m), k, want)
	}
}

// R1

// anySteps does what bytes say to a trie and to a model, and holds what is shown of them against each other behind each step.
func anySteps(t *testing.T, b []byte) {
	t.Helper()
	x, m := trie.New(), model{}
	for ; len(b) >= 3; b = b[3:] {
		k := near(b[1])
		if b[0]&8 > 0 {
			k = with(k, int(b[2]))
		}
		if b[0]&7 < 3 {
			x = x.Drop(k)
			delete(m, k)
		} else {
			x, m[k] = x.Put(k, val(int(b[2]&3))), val(int(b[2]&3))
		}
		for _, asked := range []Hash{k, with(k, int(b[2])), near(b[2]), ones} {
			shows(t, "any steps", x, m, asked)
		}
	}
}

// anyProof is what bytes say: a way that may be one, or none. Some of its Bits rise, and some of its Keys go k's way.
func anyProof(b []byte) (Hash, Proof) {
	var head [8]byte
	b = b[copy(head[:], b):]
	k := with(near(head[0]), int(head[1]))
	p := Proof{Leaf: head[2]%8 > 0, Key: near(head[3]), Value: val(int(head[4] % 2))}
	if head[5]%4 > 0 {
		p.Key = with(k, int(head[3]))
	}
	if head[5]%16 == 5 {
		p.Key, p.Value = Hash{}, Hash{}
	}
	at := -1
	for ; len(b) >= 2; b = b[2:] {
		at += int(b[0]%16) + 1
		if b[0] > 248 {
			at = int(b[1]) - 2
		}
		if b[0] > 253 {
			at = int(int8(b[1])) << (b[1] % 64)
		}
		p.Steps = append(p.Steps, Step{at, val(int(b[1]))})
	}
	if head[6]%16 == 0 {
		p.Steps = nil
	}
	return k, p
}

func TestAnySteps(t *testing.T) {
	for seed := range 100 {
		anySteps(t, noise.Bytes(uint32(seed)*7919+3, seed*2))
		if t.Failed() {
			t.FailNow()
		}
	}
}

func TestAnyProofs(t *testing.T) {
	climbed := 0
	for seed := range 6000 {
		k, p := anyProof(noise.Bytes(uint32(seed)*7919+7, 8+seed%40))
		if agrees(t, k, p) {
			climbed++
		}
	}
	if climbed < 600 || climbed > 5400 {
		t.Errorf("of 6000, %d climb: these are too few to tell, or the others", climbed)
	}
}

// FuzzSteps and FuzzProofs go over their seeds in an ordinary run, and on from them by go test -fuzz.
func FuzzSteps(f *testing.F) {
	f.Add([]byte(nil))
	for seed := range 10 {
		f.Add(noise.Bytes(uint32(seed)+4000, 30*seed))
	}
	f.Fuzz(anySteps)
}

func FuzzProofs(f *testing.F) {
	f.Add([]byte(nil))
	for seed := range 10 {
		f.Add(noise.Bytes(uint32(seed)+5000, 8+6*seed))
	}
	f.Fuzz(func(t *testing.T, b []byte) {
		k, p := anyProof(b)
		agrees(t, k, p)
	})
}
