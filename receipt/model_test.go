package receipt_test

import (
	"crypto/sha256"
	"fmt"
	"slices"
	"strings"
	"testing"

	"indenture/api"
	"indenture/internal/noise"
	"indenture/record"
)

type (
	Pair    = api.Pair
	Read    = api.Read
	Record  = api.Record
	Hash    = api.Hash
	Digest  = api.Digest
	Receipt = api.Receipt
)

const (
	greatestAt = 1 << 40
	mostHashes = 64
)

func hashOf(kind byte, pieces ...[]byte) Hash {
	return sha256.Sum256(slices.Concat(append([][]byte{{kind}}, pieces...)...))
}

func leafOf(r Record) Hash { return hashOf(0, record.Bytes(r)) }

func nodeOf(a, b Hash) Hash { return hashOf(1, a[:], b[:]) }

func keyOf(k string) Hash { return hashOf(2, []byte(k)) }

func valueOf(v string) Hash { return hashOf(6, []byte(v)) }

// half is the greatest power of two below n.
func half(n int) int {
	k := 1
	for k*2 < n {
		k *= 2
	}
	return k
}

// rootOf, pathOf and grownOf are RFC 6962's words, which chapters 9 and 10 follow.
func rootOf(l []Hash) Hash {
	switch len(l) {
	case 0:
		return sha256.Sum256(nil)
	case 1:
		return l[0]
	}
	k := half(len(l))
	return nodeOf(rootOf(l[:k]), rootOf(l[k:]))
}

func pathOf(l []Hash, i int) []Hash {
	if len(l) == 1 {
		return nil
	}
	k := half(len(l))
	if i < k {
		return append(pathOf(l[:k], i), rootOf(l[k:]))
	}
	return append(pathOf(l[k:], i-k), rootOf(l[:k]))
}

func grownOf(l []Hash, m int, whole bool) []Hash {
	if m == len(l) {
		if whole {
			return nil
		}
		return []Hash{rootOf(l)}
	}
	k := half(len(l))
	if m <= k {
		return append(grownOf(l[:k], m, whole), rootOf(l[k:]))
	}
	return append(grownOf(l[k:], m-k, false), rootOf(l[:k]))
}

// climb tells the root to which a path leads from leaf i of n.
func climb(n, i int, leaf Hash, path []Hash) (Hash, bool) {
	if n == 1 || len(path) == 0 {
		return leaf, n == 1 && len(path) == 0
	}
	k, rest, last := half(n), path[:len(path)-1], path[len(path)-1]
	if i < k {
		h, ok := climb(k, i, leaf, rest)
		return nodeOf(h, last), ok
	}
	h, ok := climb(n-k, i-k, leaf, rest)
	return nodeOf(last, h), ok
}

// both tells the roots of m and of n leaves to which a path leads; a is the root of all m, if whole.
func both(a Hash, m, n int, path []Hash, whole bool) (Hash, Hash, bool) {
	if m == n {
		if whole {
			return a, a, len(path) == 0
		}
		if len(path) != 1 {
			return a, a, false
		}
		return path[0], path[0], true
	}
	if len(path) == 0 {
		return a, a, false
	}
	k, rest, last := half(n), path[:len(path)-1], path[len(path)-1]
	if m <= k {
		early, late, ok := both(a, m, k, rest, whole)
		return early, nodeOf(late, last), ok
	}
	early, late, ok := both(a, m-k, n-k, rest, false)
	return nodeOf(last, early), nodeOf(last, late), ok
}

// model is the chapter's words.
type model struct{}

func (model) good(r Receipt) bool {
	return record.Good(r.Record) &&
		r.At >= 0 && r.At <= greatestAt &&
		r.Digest.Size-1 == r.At && r.Digest.Size > 0 &&
		r.Record.Snap <= r.At &&
		len(r.Path) <= mostHashes
}

func (m model) check(r Receipt) bool {
	if !m.good(r) || r.Digest.Size > greatestAt {
		return false
	}
	root, ok := climb(r.Digest.Size, r.At, leafOf(r.Record), r.Path)
	return ok && root == r.Digest.Log
}

func (m model) later(r Receipt, d Digest, path []Hash) bool {
	if !m.check(r) || r.Digest.Size > d.Size || d.Size > greatestAt {
		return false
	}
	early, late, ok := both(r.Digest.Log, r.Digest.Size, d.Size, path, true)
	return ok && early == r.Digest.Log && late == d.Log
}

// num puts a number, the shortest way.
func (model) num(n uint64) []byte {
	if n < 248 {
		return []byte{byte(n)}
	}
	var b []byte
	for ; n > 0; n >>= 8 {
		b = append([]byte{byte(n)}, b...)
	}
	return append([]byte{byte(247 + len(b))}, b...)
}

// piece is a part of a receipt's bytes: a number, or not.
type piece struct {
	bytes    []byte
	n        uint64
	isNumber bool
}

// pieces tells what bytes say r, whatever it is.
func (m model) pieces(r Receipt) []piece {
	number := func(n int) piece { return piece{bytes: m.num(uint64(n)), n: uint64(n), isNumber: true} }
	own := record.Bytes(r.Record)
	l := []piece{number(len(own)), {bytes: own}, number(r.At), number(r.Digest.Size), {bytes: r.Digest.Log[:]}, {bytes: r.Digest.Map[:]}, number(len(r.Path))}
	for _, h := range r.Path {
		l = append(l, piece{bytes: slices.Clone(h[:])})
	}
	return l
}

func (m model) bytes(r Receipt) []byte {
	var b []byte
	for _, p := range m.pieces(r) {
		b = append(b, p.bytes...)
	}
	return b
}

// read tells the Good receipt of which Bytes is b: what any bytes begin with is taken, and put again.
func (m model) read(b []byte) (Receipt, api.Errno) {
	r, left := Receipt{}, b
	number := func() int {
		if len(left) == 0 {
			return 0
		}
		n, size := 0, 1
		if left[0] < 248 {
			n = int(left[0])
		} else {
			size += int(left[0] - 247)
			for _, x := range left[1:min(size, len(left))] {
				n = n<<8 | int(x)
			}
		}
		left = left[min(size, len(left)):]
		return n
	}
	take := func(n int) []byte {
		if n < 0 {
			n = 0
		}
		got := left[:min(n, len(left))]
		left = left[len(got):]
		return got
	}
	r.Record, _ = record.Read(take(number()))
	r.At, r.Digest.Size = number(), number()
	copy(r.Digest.Log[:], take(32))
	copy(r.Digest.Map[:], take(32))
	for n := number(); n > 0 && len(left) > 0; n-- {
		var h Hash
		copy(h[:], take(32))
		r.Path = append(r.Path, h)
	}
	if !m.good(r) || string(m.bytes(r)) != string(b) {
		return Receipt{}, api.ErrBad
	}
	return r, api.OK
}

func put(key, value string) Pair { return Pair{Key: key, Value: value} }

func drop(key string) Pair { return Pair{Key: key, Dead: true} }

func one(key string, pairs ...Pair) Read { return Read{Key: key, Pairs: pairs} }

func scan(from, to string, pairs ...Pair) Read {
	return Read{Scan: true, Key: from, To: to, Pairs: pairs}
}

// recordAt tells some record that may stand at a place; those of other places are others.
func recordAt(at int) Record {
	r := Record{Session: at%api.MaxSessions + 1, Snap: at - at%3, Strict: at%2 == 1}
	r.Writes = []Pair{put(fmt.Sprintf("k%04d", at), fmt.Sprint("v", at)), drop("z")}
	if at%3 > 0 {
		r.Reads = append(r.Reads, one("a"), scan("b", "d", put("b", ""), put("c", fmt.Sprint(at))))
	}
	if at%5 == 4 {
		r.Writes = nil
		r.Reads = append(r.Reads, one(fmt.Sprint("r", at), put(fmt.Sprint("r", at), "x")))
	}
	return r
}

// ledger is records, and the hashes of their leaves.
type ledger struct {
	records []Record
	leaves  []Hash
}

func ledgerOf(n int) ledger {
	var l ledger
	for at := range n {
		r := recordAt(at)
		l.records, l.leaves = append(l.records, r), append(l.leaves, leafOf(r))
	}
	return l
}

func (l ledger) digest(n int) Digest {
	return Digest{Size: n, Log: rootOf(l.leaves[:n]), Map: hashOf(99, []byte{byte(n)})}
}

func (l ledger) receipt(at int) Receipt {
	return Receipt{At: at, Record: deepRecord(l.records[at]), Path: pathOf(l.leaves[:at+1], at), Digest: l.digest(at + 1)}
}

func (l ledger) grown(m, n int) []Hash { return grownOf(l.leaves[:n], m, true) }

// placed tells a receipt that Check accepts: of any record at any place, by a made-up path of as many hashes as it must have.
func placed(t *testing.T, r Record, at int) Receipt {
	t.Helper()
	high := 0
	for n, i := at+1, at; n > 1; high++ {
		if k := half(n); i < k {
			n = k
		} else {
			n, i = n-k, i-k
		}
	}
	x := Receipt{At: at, Record: r, Path: hashes(uint32(at), high), Digest: Digest{Size: at + 1, Map: Hash{1: 9}}}
	root, ok := climb(at+1, at, leafOf(r), x.Path)
	if !ok {
		t.Fatalf("no way up from leaf %d with %d hashes", at, high)
	}
	x.Digest.Log = root
	return x
}

func hashes(seed uint32, n int) []Hash {
	l := make([]Hash, n)
	for i := range l {
		copy(l[i][:], noise.Bytes(seed*977+uint32(i), 32))
	}
	return l
}

// sized tells a Good record of just n bytes, or one that would be Good, were it not too long.
func sized(t *testing.T, n int) Record {
	t.Helper()
	r := Record{Session: 1, Strict: true}
	for i := 0; ; i++ {
		key := fmt.Sprintf("%04d", i)
		r.Writes = append(r.Writes, put(key, ""))
		last := &r.Writes[i]
		for size := range api.MaxValue + 1 {
			last.Value = strings.Repeat("v", size)
			if len(record.Bytes(r)) == n {
				return r
			}
		}
		last.Value = strings.Repeat("v", 200)
		if i == api.MaxOps {
			t.Fatalf("no record of %d bytes", n)
		}
	}
}

func deepRecord(r Record) Record {
	r.Reads, r.Writes = append([]Read(nil), r.Reads...), append([]Pair(nil), r.Writes...)
	for i := range r.Reads {
		r.Reads[i].Pairs = append([]Pair(nil), r.Reads[i].Pairs...)
	}
	return r
}

// deep tells a receipt that shares nothing with r.
func deep(r Receipt) Receipt {
	r.Record, r.Path = deepRecord(r.Record), append([]Hash(nil), r.Path...)
	return r
}

func sameRead(x, y Read) bool {
	return x.Scan == y.Scan && x.Key == y.Key && x.To == y.To && slices.Equal(x.Pairs, y.Pairs)
}

func alike(x, y Receipt) bool {
	a, b := x.Record, y.Record
	return x.At == y.At && x.Digest == y.Digest && slices.Equal(x.Path, y.Path) &&
		a.Session == b.Session && a.Snap == b.Snap && a.Strict == b.Strict &&
		slices.EqualFunc(a.Reads, b.Reads, sameRead) && slices.Equal(a.Writes, b.Writes)
}

// brief is as much of a thing as a failed test tells of it.
func brief(x any) string {
	const most = 700
	s := fmt.Sprintf("%+v", x)
	if len(s) > most {
		return s[:most] + " .."
	}
	return s
}
