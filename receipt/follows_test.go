package receipt_test

import (
	"bytes"
	"fmt"
	"math"
	"slices"
	"testing"

	"indenture/api"
	"indenture/internal/noise"
	"indenture/receipt"
	"indenture/record"
)

// P17.4

// hashesOf tells all hashes that stand in the tree of those leaves.
func hashesOf(l []Hash) []Hash {
	if len(l) == 1 {
		return []Hash{l[0]}
	}
	k := half(len(l))
	return slices.Concat([]Hash{rootOf(l)}, hashesOf(l[:k]), hashesOf(l[k:]))
}

// pathsOf tells all paths of up to most of those hashes.
func pathsOf(l []Hash, most int) [][]Hash {
	all, level := [][]Hash{nil}, [][]Hash{nil}
	for range most {
		var longer [][]Hash
		for _, p := range level {
			for _, h := range l {
				longer = append(longer, append(slices.Clip(p), h))
			}
		}
		all, level = append(all, longer...), longer
	}
	return all
}

// Of all receipts under one digest that can be made of a small tree's own hashes, one alone is accepted: it names the record that stands there.
func TestOneRecordAlone(t *testing.T) {
	for n := 1; n <= 6; n++ {
		l := ledgerOf(n + 1)
		d := l.digest(n)
		paths := pathsOf(append(hashesOf(l.leaves[:n]), Hash{}), 3)
		accepted := 0
		for _, r := range slices.Concat(l.records, []Record{{}, {Session: 1}, {Session: 1, Writes: []Pair{drop("z")}}}) {
			leaf, may := leafOf(r), record.Good(r) && r.Snap < n
			for _, p := range paths {
				x := Receipt{At: n - 1, Record: r, Path: p, Digest: d}
				root, ok := climb(n, n-1, leaf, p)
				want := may && ok && root == d.Log
				if got := receipt.Check(x); got != want {
					t.Errorf("of %d: Check is %v, want %v: %s", n, got, want, brief(x))
				}
				if want {
					accepted++
					if !alike(x, l.receipt(n-1)) {
						t.Errorf("of %d: what was not there is accepted: %s", n, brief(x))
					}
				}
			}
			endIfFailed(t)
		}
		if accepted != 1 {
			t.Errorf("of %d: %d are accepted", n, accepted)
		}
	}
}

// Two that part at a leaf part on each step up, too: else the step where they meet has two inputs of one hash. So two records under one digest would show them.
func TestWaysUpDoNotMeet(t *testing.T) {
	const most = 33
	l := ledgerOf(most)
	for at := range most {
		own := l.receipt(at)
		for other := range most {
			r := deep(own)
			r.Record = l.records[other]
			a, _ := climb(at+1, at, leafOf(own.Record), own.Path)
			b, _ := climb(at+1, at, leafOf(r.Record), r.Path)
			if (a == b) != (at == other) || receipt.Check(r) != (a == b) {
				t.Errorf("records %d and %d at %d: %x and %x, Check is %v", at, other, at, a, b, receipt.Check(r))
			}
		}
	}
}

// What is accepted under a digest is accepted under each that grew on from it: Later does not ask for a path for the record itself.
func TestAcceptedForEver(t *testing.T) {
	const most = 66
	l := ledgerOf(most)
	for at := range most {
		r, e := receipt.Read(receipt.Bytes(l.receipt(at)))
		if e != api.OK || !receipt.Check(r) {
			t.Fatalf("at %d: %v, Check is %v", at, e, receipt.Check(r))
		}
		for n := at + 1; n <= most; n++ {
			if !receipt.Later(r, l.digest(n), l.grown(at+1, n)) {
				t.Errorf("the receipt at %d is not accepted under %d", at, n)
			}
		}
	}
}

// Each small receipt: what it is, that it comes back, and that no other one has its bytes.
func TestAllSmallReceipts(t *testing.T) {
	seen := map[string]Receipt{}
	kinds := map[kind]int{}
	numbers := []int{-1, 0, 1, 2, 3, 4}
	for _, at := range numbers {
		for _, size := range numbers {
			for _, snap := range numbers {
				for _, session := range []int{0, 1, 9} {
					for count := range 4 {
						r := Receipt{At: at, Record: Record{Session: session, Snap: snap}, Path: hashes(8, count), Digest: Digest{Size: size}}
						if at >= 0 && at < size {
							r.Digest.Log, _ = climb(size, at, leafOf(r.Record), r.Path)
						}
						k := model{}.kind(r)
						kinds[k]++
						is(t, "a small receipt", r, k)
						if k == bad {
							continue
						}
						b := string(receipt.Bytes(r))
						if other, ok := seen[b]; ok {
							t.Errorf("%s and %s have the same bytes", brief(other), brief(r))
						}
						seen[b] = r
					}
					endIfFailed(t)
				}
			}
		}
	}
	if kinds[bad] < 2000 || kinds[good] < 30 || kinds[shown] < 10 {
		t.Errorf("%v: these receipts are too few", kinds)
	}
}

// maker makes receipts from bytes; behind their end there are noughts.
type maker struct {
	bytes []byte
}

func (m *maker) next() int {
	if len(m.bytes) == 0 {
		return 0
	}
	x := m.bytes[0]
	m.bytes = m.bytes[1:]
	return int(x)
}

func (m *maker) text(most int) string {
	return string(bytes.Repeat([]byte{byte('a' + m.next()%4)}, m.next()%most))
}

func (m *maker) record(at int) Record {
	r := Record{Session: m.next()%8 + 1, Strict: m.next()%2 == 1}
	switch m.next() % 8 {
	case 0:
		r.Session = m.next() - 128
	case 1:
		r.Snap = at + m.next()%3 - 1
	case 2:
		r.Snap = m.next()
	case 3:
		r.Snap = at
	}
	for range m.next() % 4 {
		x := one(fmt.Sprintf("%s%d", m.text(3), len(r.Reads)))
		if m.next()%3 == 0 {
			x = scan(m.text(3), "z")
		}
		if m.next()%2 == 0 {
			x.Pairs = append(x.Pairs, put(x.Key, m.text(300)))
		}
		r.Reads = append(r.Reads, x)
	}
	for i := range m.next() % 4 {
		p := put(fmt.Sprintf("w%d%s", i, m.text(9)), m.text(255))
		if m.next()%4 == 0 {
			p = drop(p.Key)
		}
		if m.next()%32 == 0 {
			p.Key = ""
		}
		r.Writes = append(r.Writes, p)
	}
	return r
}

func (m *maker) hash() Hash { return Hash{byte(m.next()), 31: byte(m.next())} }

// receipt tells a receipt, most of which are Good, and some shown.
func (m *maker) receipt() Receipt {
	at := []int{m.next(), m.next() % 8, m.next()<<8 | m.next(), greatestAt - m.next()%3, 1<<(m.next()%42) - m.next()%3, -m.next(), math.MaxInt - m.next()}[min(m.next()%16, 6)%7]
	if m.next()%2 == 0 {
		at = m.next() % 20
	}
	r := Receipt{At: at, Record: m.record(at), Digest: Digest{Log: m.hash(), Map: m.hash()}}
	if at < math.MaxInt {
		r.Digest.Size = at + 1
	}
	for range m.next() % 8 {
		r.Path = append(r.Path, m.hash())
	}
	if m.next()%16 == 0 {
		r.Path = hashes(uint32(m.next()), m.next()%70)
	}
	if at >= 0 && at < greatestAt && m.next()%4 > 0 {
		if m.next()%4 > 0 {
			r.Path = nil
			for n, i := at+1, at; n > 1; {
				if k := half(n); i < k {
					n = k
				} else {
					n, i = n-k, i-k
				}
				r.Path = append(r.Path, m.hash())
			}
		}
		r.Digest.Log, _ = climb(at+1, at, leafOf(r.Record), r.Path)
	}
	switch m.next() % 16 {
	case 0:
		r.Digest.Size += m.next()%5 - 2
	case 1:
		r.Digest.Size = m.next()
	case 2:
		r.At = m.next()
	}
	return r
}

// later tells a digest and a path that may show that it grew from r's.
func (m *maker) later(r Receipt) (Digest, []Hash) {
	d := Digest{Size: r.Digest.Size, Log: m.hash(), Map: m.hash()}
	switch m.next() % 4 {
	case 0:
		d.Size = m.next()
	case 1:
		d.Size = 1 << (m.next() % 42)
	default:
		if d.Size < math.MaxInt/2 {
			d.Size += m.next() % 9
		}
	}
	count := m.next() % 7
	for n := range 45 {
		if _, _, ok := both(r.Digest.Log, max(r.Digest.Size, 1), max(d.Size, r.Digest.Size, 1), hashes(0, n), true); ok && m.next()%4 > 0 {
			count = n
		}
	}
	var path []Hash
	for range count {
		path = append(path, m.hash())
	}
	if 0 < r.Digest.Size && r.Digest.Size <= d.Size {
		_, d.Log, _ = both(r.Digest.Log, r.Digest.Size, d.Size, path, true)
	}
	return d, path
}

// agrees holds all calls against the words; it tells of which kind the first receipt was, and whether Later was.
func agrees(t *testing.T, m *maker) (kind, bool) {
	t.Helper()
	a := m.receipt()
	k := model{}.kind(a)
	is(t, "a receipt", a, k)
	d, path := m.later(a)
	later := model{}.later(a, d, path)
	isLater(t, "a receipt", a, d, path, later)
	b := deep(a)
	if m.next()%2 == 0 {
		b = m.receipt()
	}
	if got := receipt.Same(a, b); got != alike(a, b) {
		t.Errorf("Same is %v, want %v: %s, %s", got, alike(a, b), brief(a), brief(b))
	}
	if k != bad && (model{}).good(b) && bytes.Equal(receipt.Bytes(a), receipt.Bytes(b)) != alike(a, b) {
		t.Errorf("the bytes are not alike just if the receipts are: %s, %s", brief(a), brief(b))
	}
	return k, later
}

func TestAnyReceipts(t *testing.T) {
	kinds, later := map[kind]int{}, 0
	for seed := range 8000 {
		k, l := agrees(t, &maker{bytes: noise.Bytes(uint32(seed)*7919+3, 60+seed%300)})
		if kinds[k]++; l {
			later++
		}
		endIfFailed(t)
	}
	if min(kinds[bad], kinds[good], kinds[shown]) < 800 || later < 100 {
		t.Errorf("%v, and %d of them later: these receipts are too few", kinds, later)
	}
}

// FuzzReceipts goes over its seeds in an ordinary run, and on from them by go test -fuzz.
func FuzzReceipts(f *testing.F) {
	f.Add([]byte(nil))
	for seed := range 10 {
		f.Add(noise.Bytes(uint32(seed)+3000, 40+20*seed))
	}
	f.Fuzz(func(t *testing.T, b []byte) {
		agrees(t, &maker{bytes: b})
	})
}

// FuzzRead reads any bytes.
func FuzzRead(f *testing.F) {
	f.Add([]byte(nil))
	for _, r := range samples() {
		f.Add(receipt.Bytes(r))
	}
	f.Fuzz(func(t *testing.T, b []byte) {
		if isRead(t, "any bytes", b) != api.OK {
			return
		}
		r, _ := receipt.Read(b)
		if got := receipt.Bytes(r); !bytes.Equal(got, b) {
			t.Errorf("what was read of %s is put as %s", brief(b), brief(got))
		}
	})
}
