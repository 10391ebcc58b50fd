package trie_test

import (
	"slices"
	"testing"

	"indenture/sha"
	"indenture/tag"
	"indenture/trie"
)

// P11.2

func TestRootOfNone(t *testing.T) {
	isRoot(t, "none", trie.New(), tag.Nothing())
}

func TestRootOfOne(t *testing.T) {
	for i, k := range append(anyHashes(11, 20), zeros, ones) {
		isRoot(t, "one", trie.New().Put(k, val(i)), tag.Item(k, val(i)))
	}
	isRoot(t, "zeros at zeros", trie.New().Put(zeros, zeros), tag.Item(zeros, zeros))
}

// Two keys that differ in one bit alone, or in all behind it, too: the one with 0 there is on the left, whichever came first.
func TestRootOfTwo(t *testing.T) {
	for _, k := range []Hash{zeros, ones, near(0x5a), anyHashes(12, 1)[0]} {
		for i := range 256 {
			other := with(k, i)
			far := other
			for j := i + 1; j < 256; j++ {
				far = with(far, j)
			}
			for _, l := range []Hash{other, far} {
				left, right := tag.Item(k, val(1)), tag.Item(l, val(2))
				if digits(k)[i] == '1' {
					left, right = right, left
				}
				want := tag.Fork(i, left, right)
				isRoot(t, "two", trie.New().Put(k, val(1)).Put(l, val(2)), want)
				isRoot(t, "two", trie.New().Put(l, val(2)).Put(k, val(1)), want)
			}
		}
	}
}

func TestRootOfThree(t *testing.T) {
	a, b, c := with(zeros, 255), with(zeros, 0, 7), with(zeros, 0, 8)
	x := trie.New().Put(c, val(3)).Put(a, val(1)).Put(b, val(2))
	want := tag.Fork(0, tag.Item(a, val(1)), tag.Fork(7, tag.Item(c, val(3)), tag.Item(b, val(2))))
	isRoot(t, "three", x, want)
	isRoot(t, "without a", x.Drop(a), tag.Fork(7, tag.Item(c, val(3)), tag.Item(b, val(2))))
	isRoot(t, "without b", x.Drop(b), tag.Fork(0, tag.Item(a, val(1)), tag.Item(c, val(3))))
	isRoot(t, "without c", x.Drop(c), tag.Fork(0, tag.Item(a, val(1)), tag.Item(b, val(2))))
}

// Roots that were reckoned by another program, of the chapter's words.
func TestRootThatIsKnown(t *testing.T) {
	x := trie.New()
	for i, want := range []string{
		"e77b9a9ae9e30b0dbdb6f510a264ef9de781501d7b6b92ae89eb059c5ab743db",
		"15761a84a5b24356cb138ef302f2f5284d4daf9b9d3993a7605c5f95a42338a5",
		"6a2b542129be48a3b2dbbaa75b9ee15eea8a0ead7192a1628f8b1bb9f365a1fd",
		"62f81f6cd8f3bf8dd08c7c7837234780d39d616b317834d74720572b284570b9",
	} {
		if got := sha.Hex(x.Root()); got != want {
			t.Errorf("of %d: %s, want %s", i, got, want)
		}
		name := "abc"[min(i, 2):][:1]
		x = x.Put(tag.Key(name), tag.Value(name+name))
	}
}

// The highest trie that may be: at each bit one key goes another way, and the last fork is at the last bit.
func TestRootOfTheHighest(t *testing.T) {
	for _, k := range []Hash{zeros, ones, anyHashes(13, 1)[0]} {
		m := model{k: val(1)}
		for i := range 256 {
			m[with(k, i)] = val(i + 2)
		}
		up, down := trie.New(), trie.New().Put(k, val(1))
		for i := range 256 {
			up = up.Put(with(k, 255-i), val(257-i))
			down = down.Put(with(k, i), val(i+2))
		}
		is(t, "from above", down, m)
		is(t, "from below", up.Put(k, val(1)), m)
		for i := range 256 {
			delete(m, with(k, i))
			if down = down.Drop(with(k, i)); i%32 == 31 {
				is(t, "fewer", down, m)
			}
		}
		isRoot(t, "one left", down, tag.Item(k, val(1)))
	}
}

// A Root is told again and again, and asking for it changes nothing else.
func TestRootAskedAgain(t *testing.T) {
	m := model{}
	for i, k := range anyHashes(14, 50) {
		m[k] = val(i)
	}
	x := trieOf(m)
	for range 3 {
		is(t, "asked again", x, m)
	}
}

// Ways

func isReckoned(t *testing.T, what string, x *Trie, want, wantAll int) {
	t.Helper()
	if got, all := trie.Reckoned(x); got != want || all != wantAll {
		t.Errorf("%s: %d hashes of %d nodes, want %d of %d", what, got, all, want, wantAll)
	}
}

// Nothing is hashed ahead of being asked for, and then all is, once: what another trie has in common with it has its hashes already.
func TestHashesAreReckonedWhenAskedFor(t *testing.T) {
	x := trie.New()
	for i := range 64 {
		x = x.Put(with(zeros, i), val(i))
	}
	x.Get(zeros)
	x.Len()
	for range x.All() {
	}
	isReckoned(t, "unasked", x, 0, 127)
	low := x.Put(with(zeros, 0), val(99)) // a new item, and the fork above it
	deep := x.Put(with(zeros, 63), val(99))
	x.Root()
	isReckoned(t, "asked", x, 127, 127)
	isReckoned(t, "that has all but two of it", low, 125, 127)
	isReckoned(t, "that has all but the way to the lowest", deep, 63, 127)
	low.Root()
	isReckoned(t, "asked, too", low, 127, 127)
	isReckoned(t, "not asked still", deep, 63, 127)
	isReckoned(t, "of which one is dropped", x.Drop(with(zeros, 0)), 125, 125)
}

func TestHashesAreReckonedOnce(t *testing.T) {
	x := trie.New()
	for i, k := range anyHashes(15, 500) {
		x = x.Put(k, val(i))
	}
	x.Root()
	if n := testing.AllocsPerRun(20, func() { x.Root() }); n > 4 {
		t.Errorf("asked again, Root takes memory %v times: it hashes again", n)
	}
}

// Many keys, the Root of each step asked for: what a step costs grows with the way to its key alone, or this would not end.
func TestManyKeys(t *testing.T) {
	keys := anyHashes(16, 20000)
	x := trie.New()
	seen := map[Hash]int{x.Root(): 1}
	for i, k := range keys {
		x = x.Put(k, val(i))
		seen[x.Root()]++
	}
	if len(seen) != len(keys)+1 {
		t.Errorf("%d Roots of %d steps", len(seen), len(keys))
	}
	isLen(t, "many", x, len(keys))
	for i, k := range slices.Backward(keys) {
		gets(t, "many", x, k, val(i), true)
		x = x.Drop(k)
		if seen[x.Root()] != 1 {
			t.Fatalf("of %d, dropped down to: another Root than on the way up", i)
		}
	}
	is(t, "none left", x, model{})
}
