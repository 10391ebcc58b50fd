package proof_test

import (
	"encoding/binary"
	"slices"
	"testing"

	"indenture/internal/noise"
	"indenture/mountain"
	"indenture/proof"
)

// P10.3

func TestWhatIsToldIsAccepted(t *testing.T) {
	l := anyHashes(41, 260)
	for _, n := range []int{1, 2, 3, 40, 41, 63, 64, 65, 100, 127, 128, 129, 255, 256, 257} {
		root := mountain.Root(l[:n])
		for i := range n {
			path, ok := proof.Path(l[:n], i)
			if !ok || !proof.Check(root, n, i, l[i], path) {
				t.Errorf("Path of %d of %d is not accepted", i, n)
			}
			grown, ok := proof.Grown(l[:n], i+1)
			if !ok || !proof.Checks(mountain.Root(l[:i+1]), root, i+1, n, grown) {
				t.Errorf("Grown of %d of %d is not accepted", i+1, n)
			}
		}
	}
}

// A tree of many leaves: what each call does with them grows no faster than they do, or this would not end.
func TestManyLeaves(t *testing.T) {
	l := make([]Hash, 1<<15+3)
	for i := range l {
		binary.BigEndian.PutUint64(l[i][:], uint64(i))
	}
	n, root := len(l), mountain.Root(l)
	for _, i := range []int{0, 1<<14 - 1, 1 << 14, 29999, 1<<15 - 1, 1 << 15, n - 2, n - 1} {
		path := isPath(t, l, i, told(pathByWords(l, i))...)
		isChecked(t, root, n, i, l[i], path, true)
		grown := isGrown(t, l, i+1, told(grownByWords(l, i+1))...)
		areChecked(t, mountain.Root(l[:i+1]), root, i+1, n, grown, true)
	}
}

// pool: hashes of a tree, its inner ones too, and some that are not there.
func pool(l []Hash) []Hash {
	out := append(slices.Clone(l), Hash{})
	for n := 2; n <= len(l); n++ {
		out = append(out, mountain.Root(l[:n]), mountain.Root(l[n-2:n]))
	}
	slices.SortFunc(out, func(a, b Hash) int { return slices.Compare(a[:], b[:]) })
	return slices.Compact(out)
}

// pathsOf: all paths of that length, of those hashes.
func pathsOf(hashes []Hash, length int) [][]Hash {
	if length == 0 {
		return [][]Hash{nil}
	}
	var out [][]Hash
	for _, path := range pathsOf(hashes, length-1) {
		for _, h := range hashes {
			out = append(out, append(slices.Clone(path), h))
		}
	}
	return out
}

// At one place two leaves, or two paths, that led to one root would show two inputs of one hash, of which none are known.
func TestPlacesAreApart(t *testing.T) {
	for n := 1; n <= 5; n++ {
		hashes := pool(anyHashes(42, min(n, 3)))
		for i := range n {
			seen := map[Hash]int{}
			for _, path := range pathsOf(hashes, heightByWords(n, i)) {
				for _, leaf := range hashes {
					root, ok := proof.Climb(n, i, leaf, path)
					if seen[root]++; !ok || seen[root] > 1 {
						t.Fatalf("of %d of %d: %v, or a root that another leaf or path has", i, n, ok)
					}
				}
			}
		}
	}
}

// Of all hashes of a tree, its inner ones too, one leaf with one path is accepted at a place.
func TestOneLeafIsAccepted(t *testing.T) {
	for n := 1; n <= 5; n++ {
		l := anyHashes(43, n)
		hashes, root := pool(l), mountain.Root(l)
		for i := range n {
			accepted := 0
			for _, path := range pathsOf(hashes, heightByWords(n, i)) {
				for _, leaf := range hashes {
					if !proof.Check(root, n, i, leaf, path) {
						continue
					}
					accepted++
					if leaf != l[i] {
						t.Errorf("of %d of %d another leaf is accepted", i, n)
					}
				}
			}
			if accepted != 1 {
				t.Errorf("of %d of %d: %d are accepted, want one", i, n, accepted)
			}
		}
	}
}

// R3

// roomy is l at the begin of a longer list, all of which is told, too.
func roomy(l []Hash) ([]Hash, []Hash) {
	room := append(slices.Clone(l), slices.Repeat([]Hash{{77}}, 8)...)
	return room[:len(l)], room
}

func spoil(l []Hash, with Hash) {
	for i := range l[:cap(l)] {
		l[:cap(l)][i] = with
	}
}

func isUntouched(t *testing.T, what string, room, was []Hash) {
	t.Helper()
	if !slices.Equal(room, was) {
		t.Errorf("%s: what was handed in, or its room, has changed", what)
	}
}

// tellsNewMemory: what call tells of leaves and a number is as want has it, whoever writes to the leaves, or to another answer.
func tellsNewMemory(t *testing.T, what string, plain []Hash, i int, call, want func([]Hash, int) ([]Hash, bool)) {
	t.Helper()
	wanted := told(want(plain, i))
	l, room := roomy(plain)
	was := slices.Clone(room)
	first, _ := call(l, i)
	second, _ := call(l, i)
	isUntouched(t, what, room, was)
	spoil(first, Hash{66})
	isUntouched(t, what+" behind a changed answer", room, was)
	if third, _ := call(l, i); !slices.Equal(second, wanted) || !slices.Equal(third, wanted) {
		t.Errorf("%s of %d of %d, behind another changed answer: %x and %x, want %x", what, i, len(l), second, third, wanted)
	}
	spoil(room, Hash{55})
	if !slices.Equal(second, wanted) {
		t.Errorf("%s of %d of %d, behind changed leaves: %x, want %x", what, i, len(l), second, wanted)
	}
}

func TestProofsAreNewMemory(t *testing.T) {
	for n := 1; n < 20; n++ {
		l := anyHashes(44, n)
		for i := range n {
			tellsNewMemory(t, "Path", l, i, proof.Path, pathByWords)
			tellsNewMemory(t, "Grown", l, i+1, proof.Grown, grownByWords)
		}
	}
}

func TestChecksChangeNothing(t *testing.T) {
	for n := 1; n < 20; n++ {
		l := anyHashes(45, n)
		root := mountain.Root(l)
		for i := range n {
			path, room := roomy(told(proof.Path(l, i)))
			was := slices.Clone(room)
			for range 2 {
				climbs(t, n, i, l[i], path, root)
				isUntouched(t, "Climb and Check", room, was)
			}
			path, room = roomy(told(proof.Grown(l, i+1)))
			was = slices.Clone(room)
			for range 2 {
				areChecked(t, mountain.Root(l[:i+1]), root, i+1, n, path, true)
				isUntouched(t, "Checks", room, was)
			}
		}
	}
}

// R1, R4

// asked: leaves, numbers and a path for all calls.
type asked struct {
	leaves  []Hash
	n, i, m int
	leaf    Hash
	path    []Hash
}

// agrees holds all calls against the words.
func agrees(t *testing.T, q asked) {
	t.Helper()
	if want, ok := pathByWords(q.leaves, q.i); ok {
		isPath(t, q.leaves, q.i, want...)
	} else {
		noPath(t, q.leaves, q.i)
	}
	if want, ok := grownByWords(q.leaves, q.m); ok {
		isGrown(t, q.leaves, q.m, want...)
	} else {
		notGrown(t, q.leaves, q.m)
	}
	climbsByWords(t, q.n, q.i, q.leaf, q.path)
	a, b := q.leaf, q.leaf
	if q.m > 0 && q.m <= q.n {
		a, b, _ = two(q.leaf, q.m, q.n, q.path, true)
	}
	areChecked(t, a, b, q.m, q.n, q.path, checksByWords(a, b, q.m, q.n, q.path))
	areChecked(t, q.leaf, b, q.m, q.n, q.path, checksByWords(q.leaf, b, q.m, q.n, q.path))
}

// anyOf: what is asked, from bytes. Some of the numbers fit each other, and some of the paths the numbers.
func anyOf(b []byte) asked {
	var head [40]byte
	b = b[copy(head[:], b):]
	number := func(at int) int { return int(binary.BigEndian.Uint64(head[at:]) >> (head[at] % 64)) }
	q := asked{leaves: anyHashes(uint32(head[32]), int(head[33])%40), n: number(0), i: number(8), m: number(16), leaf: Hash{head[24], 31: head[25]}}
	if head[34]%4 > 0 && q.n > 0 {
		q.i, q.m = int(uint(q.i)%uint(q.n)), int(uint(q.m)%uint(q.n))+1
	}
	if head[34]%4 > 1 {
		q.n = max(len(q.leaves), 1)
		q.i, q.m = int(uint(q.i)%uint(q.n)), int(uint(q.m)%uint(q.n))+1
	}
	count := int(head[35]) % 66
	if head[36]%4 > 0 && q.n > 0 && q.i >= 0 && q.i < q.n {
		count = heightByWords(q.n, q.i) + int(head[36]%4) - 2
	}
	q.path = anyHashes(uint32(head[37]), max(count, 0))
	for i := range q.path {
		b = b[copy(q.path[i][:], b):]
	}
	return q
}

func TestAnyCalls(t *testing.T) {
	climbed, checked := 0, 0
	for seed := range 6000 {
		q := anyOf(noise.Bytes(uint32(seed)*7919+5, 40+seed%200))
		if _, ok := proof.Climb(q.n, q.i, q.leaf, q.path); ok {
			climbed++
		}
		if q.m > 0 && q.m <= q.n {
			if a, b, _ := madeUp(q.m, q.n, q.path); proof.Checks(a, b, q.m, q.n, q.path) {
				checked++
			}
		}
		agrees(t, q)
	}
	if min(climbed, checked) < 300 || max(climbed, checked) > 5700 {
		t.Errorf("of 6000, %d climb and %d are shown: the others are too few to tell, or these", climbed, checked)
	}
}

// FuzzCalls goes over its seeds in an ordinary run, and on from them by go test -fuzz.
func FuzzCalls(f *testing.F) {
	f.Add([]byte(nil))
	for seed := range 10 {
		f.Add(noise.Bytes(uint32(seed)+3000, 40+20*seed))
	}
	f.Fuzz(func(t *testing.T, b []byte) {
		agrees(t, anyOf(b))
	})
}
