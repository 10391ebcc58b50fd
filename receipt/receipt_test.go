package receipt_test

import (
	"bytes"
	"fmt"
	"math"
	"slices"
	"strings"
	"testing"

	"indenture/api"
	"indenture/receipt"
)

// kind is what a receipt is by the chapter.
type kind int

const (
	bad   kind = iota // not Good
	good              // Good, but Check refuses it
	shown             // Check accepts it
)

func (k kind) String() string { return [...]string{"bad", "good", "shown"}[k] }

func (m model) kind(r Receipt) kind {
	switch {
	case m.check(r):
		return shown
	case m.good(r):
		return good
	}
	return bad
}

// is holds all that is told of one receipt against the kind that it is, and against the model.
func is(t *testing.T, what string, r Receipt, want kind) {
	t.Helper()
	if got := (model{}).kind(r); got != want {
		t.Errorf("%s: the model says %v, want %v", what, got, want)
	}
	was := deep(r)
	if got := receipt.Good(r); got != (want != bad) {
		t.Errorf("%s: Good is %v, want a receipt that is %v: %s", what, got, want, brief(r))
	}
	if got := receipt.Check(r); got != (want == shown) {
		t.Errorf("%s: Check is %v, want a receipt that is %v: %s", what, got, want, brief(r))
	}
	// A log has grown of itself by nothing: so Later says just what Check does, but for a size that proof refuses.
	if got := receipt.Later(r, r.Digest, nil); got != (want == shown) {
		t.Errorf("%s: Later of its own digest is %v, want a receipt that is %v: %s", what, got, want, brief(r))
	}
	var all []byte
	if want != bad {
		all = model{}.bytes(r)
	}
	got := receipt.Bytes(r)
	if !bytes.Equal(got, all) {
		t.Errorf("%s: Bytes are %s, want %s", what, brief(got), brief(all))
	}
	if want != bad {
		reads(t, what, got, r, api.OK)
	} else {
		reads(t, what, got, Receipt{}, api.ErrBad)
	}
	isRead(t, what, model{}.bytes(r))
	if !alike(r, was) {
		t.Errorf("%s: what came in was changed: %s, was %s", what, brief(r), brief(was))
	}
}

// reads holds Read of b against what it should tell.
func reads(t *testing.T, what string, b []byte, want Receipt, fault api.Errno) {
	t.Helper()
	was := bytes.Clone(b)
	got, e := receipt.Read(b)
	if !alike(got, want) || e != fault {
		t.Errorf("%s: Read of %s: %s %v, want %s %v", what, brief(b), brief(got), e, brief(want), fault)
	}
	if !bytes.Equal(b, was) {
		t.Errorf("%s: Read changed what came in: %s, was %s", what, brief(b), brief(was))
	}
}

// isRead holds Read of any bytes against the model.
func isRead(t *testing.T, what string, b []byte) api.Errno {
	t.Helper()
	want, e := model{}.read(b)
	reads(t, what, b, want, e)
	return e
}

// isLater holds Later against the model, and against what is wanted.
func isLater(t *testing.T, what string, r Receipt, d Digest, path []Hash, want bool) {
	t.Helper()
	wasReceipt, wasPath := deep(r), slices.Clone(path)
	if got := (model{}).later(r, d, path); got != want {
		t.Errorf("%s: the model says %v, want %v", what, got, want)
	}
	if got := receipt.Later(r, d, path); got != want {
		t.Errorf("%s: Later is %v, want %v: %s, %s, %s", what, got, want, brief(r), brief(d), brief(path))
	}
	if !alike(r, wasReceipt) || !slices.Equal(path, wasPath) {
		t.Errorf("%s: Later changed what came in", what)
	}
}

func endIfFailed(t *testing.T) {
	t.Helper()
	if t.Failed() {
		t.FailNow()
	}
}

// P17.1

// The chapter's example.
func TestOfOneRecord(t *testing.T) {
	r := Receipt{Record: Record{Session: 1, Writes: []Pair{put("a", "1")}}, Digest: Digest{Size: 1}}
	is(t, "another Log", r, good)
	r.Digest.Log = hashOf(0, []byte{1, 0, 0, 0, 1, 1, 97, 0, 1, 49})
	is(t, "an empty path", r, shown)
	is(t, "a path that is not nil", Receipt{Record: r.Record, Digest: r.Digest, Path: []Hash{}}, shown)
	is(t, "a path", Receipt{Record: r.Record, Digest: r.Digest, Path: []Hash{{}}}, good)
	is(t, "a path of its Log", Receipt{Record: r.Record, Digest: r.Digest, Path: []Hash{r.Digest.Log}}, good)
	r.At = 1
	is(t, "another place", r, bad)
}

func TestNothing(t *testing.T) {
	is(t, "a zero receipt", Receipt{}, bad)
	is(t, "a digest alone", Receipt{Digest: Digest{Size: 1}}, bad)
	is(t, "a session's alone", Receipt{Record: Record{Session: 1}, Digest: Digest{Size: 1}}, good)
	isLater(t, "a zero receipt", Receipt{}, Digest{}, nil, false)
	isLater(t, "a zero receipt and a digest", Receipt{}, Digest{Size: 1}, nil, false)
}

func TestRecord(t *testing.T) {
	for i, x := range []struct {
		record Record
		want   kind
	}{
		{Record{Session: 1}, shown},
		{Record{Session: 8, Strict: true, Writes: []Pair{drop("a")}}, shown},
		{Record{Session: 0}, bad},
		{Record{Session: 9}, bad},
		{Record{Session: 1, Snap: -1}, bad},
		{Record{Session: 1, Snap: math.MinInt}, bad},
		{Record{Session: 1, Writes: []Pair{put("", "")}}, bad},
		{Record{Session: 1, Writes: []Pair{put("b", ""), put("a", "")}}, bad},
		{Record{Session: 1, Writes: []Pair{put("a", ""), put("b", "")}}, shown},
		{Record{Session: 1, Writes: []Pair{put(strings.Repeat("k", api.MaxKey+1), "")}}, bad},
		{Record{Session: 1, Reads: []Read{one("a"), one("a")}}, bad},
		{Record{Session: 1, Reads: []Read{one("a"), scan("a", "b", put("a", ""))}}, shown},
		{Record{Session: 1, Reads: []Read{one("a", drop("a"))}}, bad},
		{sized(t, api.MaxRecord-1), shown},
		{sized(t, api.MaxRecord), shown},
		{sized(t, api.MaxRecord+1), bad},
		{sized(t, api.MaxRecord+100), bad},
	} {
		for _, at := range []int{0, 1, 2, 6, 7, 300} {
			is(t, fmt.Sprint("record ", i, " at ", at), placed(t, x.record, at), x.want)
		}
	}
}

func TestAt(t *testing.T) {
	for _, at := range []int{0, 1, 2, 3, 4, 7, 8, 246, 247, 248, 255, 256, 65535, 65536, 1<<20 - 1, 1<<32 - 1, 1 << 32, greatestAt - 2, greatestAt - 1} {
		is(t, fmt.Sprint("at ", at), placed(t, Record{Session: 1}, at), shown)
	}
	// Of more than 2^40 leaves there is no tree that proof knows: such a receipt is Good, and not accepted.
	for n := range 45 {
		r := placed(t, Record{Session: 1, Snap: greatestAt}, greatestAt)
		r.Path = hashes(uint32(n), n)
		is(t, fmt.Sprint("the greatest place, a path of ", n), r, good)
	}
	is(t, "the greatest place, with the path of its tree", placed(t, Record{Session: 1, Snap: greatestAt}, greatestAt), good)
	is(t, "a place too great", placed(t, Record{Session: 1}, greatestAt+1), bad)
	for _, at := range []int{-1, -2, math.MinInt, greatestAt + 1, greatestAt * 2, 1 << 56, math.MaxInt - 1, math.MaxInt} {
		for _, size := range []int{at, max(at-1, at), min(at+1, at), at + 1, math.MinInt, 0, 1, math.MaxInt} {
			r := placed(t, Record{Session: 1}, 0)
			r.At, r.Digest.Size = at, size
			is(t, fmt.Sprint("at ", at, " size ", size), r, bad)
		}
	}
}

func TestSize(t *testing.T) {
	for _, at := range []int{0, 1, 2, 3, 6, 7, 8, 1000, 1<<40 - 1} {
		for size := at - 2; size <= at+4; size++ {
			want := bad
			if size == at+1 {
				want = shown
			}
			r := placed(t, Record{Session: 1}, at)
			r.Digest.Size = size
			is(t, fmt.Sprint("at ", at, " size ", size), r, want)
		}
		for _, size := range []int{math.MinInt, -1, -at - 1, at + 1 + 1<<32, math.MaxInt} {
			r := placed(t, Record{Session: 1}, at)
			r.Digest.Size = size
			is(t, fmt.Sprint("at ", at, " size ", size), r, bad)
		}
	}
}

func TestSnap(t *testing.T) {
	for _, at := range []int{0, 1, 2, 3, 7, 8, 247, 248, 1<<40 - 1} {
		for _, snap := range []int{0, 1, at - 1, at, at + 1, at + 2, at + 1<<32, 1 << 40, math.MaxInt} {
			want := bad
			if snap >= 0 && snap <= at {
				want = shown
			}
			is(t, fmt.Sprint("at ", at, " snap ", snap), placed(t, Record{Session: 1, Snap: snap}, at), want)
		}
	}
	is(t, "the greatest snap", Receipt{At: greatestAt, Record: Record{Session: 1, Snap: greatestAt}, Digest: Digest{Size: greatestAt + 1}}, good)
	is(t, "a snap too great", Receipt{At: greatestAt, Record: Record{Session: 1, Snap: greatestAt + 1}, Digest: Digest{Size: greatestAt + 1}}, bad)
}

func TestHowManyHashes(t *testing.T) {
	for _, at := range []int{0, 1, 6, 7, 1<<40 - 1} {
		for _, n := range []int{0, 1, 2, 3, 4, 39, 40, 41, mostHashes - 1, mostHashes, mostHashes + 1, mostHashes + 2, 247, 248, 300} {
			r := placed(t, Record{Session: 1}, at)
			want := good
			switch {
			case n == len(r.Path):
				want = shown
			case n > mostHashes:
				want = bad
			}
			r.Path = hashes(uint32(at), n)
			is(t, fmt.Sprint("at ", at, ", ", n, " hashes"), r, want)
		}
	}
}

// Each record of a ledger, under the digest behind it; and all that is not just so.
func TestOfALedger(t *testing.T) {
	const most = 40
	l := ledgerOf(most)
	for at := range most {
		r := l.receipt(at)
		what := fmt.Sprint("at ", at)
		is(t, what, r, shown)

		otherwise := func(what string, change func(r *Receipt)) {
			x := deep(r)
			change(&x)
			if alike(x, r) {
				t.Errorf("at %d, %s: nothing is changed", at, what)
			}
			is(t, fmt.Sprint("at ", at, ", ", what), x, min(model{}.kind(x), good))
		}
		otherwise("another Log", func(r *Receipt) { r.Digest.Log[31] ^= 1 })
		otherwise("a Log of nothing", func(r *Receipt) { r.Digest.Log = Hash{} })
		otherwise("the Map as Log", func(r *Receipt) { r.Digest.Log = r.Digest.Map })
		otherwise("a hash more at the end", func(r *Receipt) { r.Path = append(r.Path, Hash{}) })
		otherwise("a hash more at the begin", func(r *Receipt) { r.Path = append([]Hash{l.leaves[at]}, r.Path...) })
		otherwise("the next Log", func(r *Receipt) { r.Digest.Log = rootOf(ledgerOf(at + 2).leaves) })
		otherwise("the Log ahead", func(r *Receipt) { r.Digest.Log = rootOf(l.leaves[:at]) })
		otherwise("another session", func(r *Receipt) { r.Record.Session = r.Record.Session%8 + 1 })
		otherwise("strict or not", func(r *Receipt) { r.Record.Strict = !r.Record.Strict })
		otherwise("a write more", func(r *Receipt) { r.Record.Writes = append(r.Record.Writes, put("zz", "")) })
		otherwise("no writes, or one", func(r *Receipt) {
			if len(r.Record.Writes) > 0 {
				r.Record.Writes = nil
			} else {
				r.Record.Writes = []Pair{drop("a")}
			}
		})
		for i := range r.Path {
			otherwise(fmt.Sprint("a bit of hash ", i), func(r *Receipt) { r.Path[i][i%32] ^= 128 >> (i % 8) })
			otherwise(fmt.Sprint("without hash ", i), func(r *Receipt) { r.Path = slices.Delete(r.Path, i, i+1) })
			otherwise(fmt.Sprint("hash ", i, " twice"), func(r *Receipt) { r.Path = slices.Insert(r.Path, i, r.Path[i]) })
			if i > 0 {
				otherwise(fmt.Sprint("hash ", i, " earlier"), func(r *Receipt) { r.Path[i], r.Path[i-1] = r.Path[i-1], r.Path[i] })
			}
		}
		// Another record at its place, and itself at another's.
		for other := range most {
			if other == at {
				continue
			}
			otherwise(fmt.Sprint("the record of ", other), func(r *Receipt) { r.Record = l.records[other] })
			otherwise(fmt.Sprint("the path of ", other), func(r *Receipt) {
				if r.Path = l.receipt(other).Path; len(r.Path) == len(l.receipt(at).Path) && other == at^1 {
					r.Path = append(r.Path, Hash{})
				}
				if slices.Equal(r.Path, l.receipt(at).Path) {
					r.Path = append(r.Path, Hash{})
				}
			})
			otherwise(fmt.Sprint("the place of ", other), func(r *Receipt) { r.At = other })
			// The last leaf of a tree is on the right all the way up: at another place such a way may be as long, and a Log does not say of how many it is. The digest does.
			x := deep(r)
			x.At, x.Digest.Size = other, other+1
			is(t, fmt.Sprint("at ", at, ", the place and size of ", other), x, model{}.kind(x))
			otherwise(fmt.Sprint("the digest of ", other), func(r *Receipt) { r.Digest = l.digest(other + 1) })
		}
		// What the map has, no path says.
		x := deep(r)
		x.Digest.Map = Hash{}
		is(t, what+", another Map", x, shown)
		endIfFailed(t)
	}
}

// A path for a leaf of a tree, which is not the digest's last one: the place and the size do not fit each other.
func TestOfAnEarlierLeaf(t *testing.T) {
	l := ledgerOf(20)
	for n := 1; n <= 20; n++ {
		for at := range n {
			r := Receipt{At: at, Record: l.records[at], Path: pathOf(l.leaves[:n], at), Digest: l.digest(n)}
			want := bad
			if at == n-1 {
				want = shown
			}
			is(t, fmt.Sprint("leaf ", at, " of ", n), r, want)
		}
	}
}

func TestLater(t *testing.T) {
	const most = 34
	l := ledgerOf(most)
	for at := range most {
		r := l.receipt(at)
		for n := range most + 1 {
			what := fmt.Sprint("at ", at, " under ", n)
			d := l.digest(n)
			if n <= at {
				for count := range 8 {
					isLater(t, what, r, d, hashes(1, count), false)
				}
				if n > 0 {
					isLater(t, what+", the way back", r, d, l.grown(n, at+1), false)
				}
				continue
			}
			path := l.grown(at+1, n)
			isLater(t, what, r, d, path, true)
			isLater(t, what+", another Map", r, Digest{Size: n, Log: d.Log}, path, true)

			isLater(t, what+", a hash more", r, d, append(slices.Clone(path), Hash{}), false)
			isLater(t, what+", a hash more ahead", r, d, append([]Hash{r.Digest.Log}, path...), false)
			isLater(t, what+", none", r, d, nil, n == at+1)
			isLater(t, what+", its own path", r, d, r.Path, slices.Equal(path, r.Path))
			isLater(t, what+", another Log", r, Digest{Size: n, Log: hashes(5, 1)[0]}, path, false)
			isLater(t, what+", the Log as Map", r, Digest{Size: n, Map: d.Log}, path, false)
			for i := range path {
				x := slices.Clone(path)
				x[i][(i+at)%32] ^= 1 << (n % 8)
				isLater(t, what+", a bit", r, d, x, false)
				isLater(t, what+", a hash less", r, d, slices.Delete(slices.Clone(path), i, i+1), false)
			}
			for _, size := range []int{-1, 0, math.MinInt, n - 1, n + 1, 2 * n, greatestAt, greatestAt + 1, math.MaxInt} {
				x := Digest{Size: size, Log: d.Log, Map: d.Map}
				isLater(t, fmt.Sprint(what, " as if of ", size), r, x, path, model{}.later(r, x, path))
			}
			// Of a receipt that Check refuses nothing is shown.
			for _, change := range []func(r *Receipt){
				func(r *Receipt) { r.Path = append(r.Path, Hash{}) },
				func(r *Receipt) { r.Record.Session = r.Record.Session%8 + 1 },
				func(r *Receipt) { r.Record.Session = 0 },
				func(r *Receipt) { r.Record.Snap = at + 1 },
				func(r *Receipt) { r.At-- },
				func(r *Receipt) { r.At++ },
				func(r *Receipt) { r.Digest.Log[7]++ },
			} {
				x := deep(r)
				change(&x)
				isLater(t, what+", refused", x, d, path, false)
			}
			endIfFailed(t)
		}
	}
}

// Trees as great as may be: no one has their leaves, but paths lead through them.
func TestLaterOfGreatTrees(t *testing.T) {
	shown := 0
	for _, m := range []int{1, 2, 3, 5, 1 << 20, 1<<39 - 1, 1 << 39, 1<<39 + 1, greatestAt - 1, greatestAt} {
		r := placed(t, Record{Session: 1}, m-1)
		for _, n := range []int{m, m + 1, 1<<39 + 1, greatestAt - 1, greatestAt, greatestAt + 1} {
			if n < m {
				continue
			}
			for count := range 43 {
				path := hashes(uint32(n), count)
				// Where the m leaves are one whole part, any hashes lead to some root of n.
				if early, late, ok := both(r.Digest.Log, m, n, path, true); ok && early == r.Digest.Log {
					isLater(t, fmt.Sprint(m, " of ", n), r, Digest{Size: n, Log: late}, path, n <= greatestAt)
					shown++
				} else {
					isLater(t, fmt.Sprint(m, " of ", n), r, Digest{Size: n, Log: late}, path, false)
				}
			}
		}
	}
	if shown < 20 {
		t.Errorf("%d are shown: these are too few", shown)
	}
}
