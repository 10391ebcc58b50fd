package buffer_test

import (
	"fmt"
	"math"
	"slices"
	"strings"
	"testing"

	"indenture/api"
	"indenture/buffer"
)

type Pair = api.Pair

func put(key, value string) Pair { return Pair{Key: key, Value: value} }

func drop(key string) Pair { return Pair{Key: key, Dead: true} }

// beyond is above all keys.
var beyond = strings.Repeat("\xff", api.MaxKey+1)

var (
	longKey   = strings.Repeat("k", api.MaxKey)
	longValue = strings.Repeat("v", api.MaxValue)
)

func isErr(t *testing.T, what string, got, want api.Errno) {
	t.Helper()
	if got != want {
		t.Errorf("%s: %v, want %v", what, got, want)
	}
}

func isList(t *testing.T, what string, got, want []Pair) {
	t.Helper()
	if !slices.Equal(got, want) {
		t.Errorf("%s: %s, want %s", what, shown(got), shown(want))
	}
}

// shown is a list as a test tells it, whatever its bytes are.
func shown(l []Pair) string {
	var out []string
	for _, p := range l {
		if p.Dead {
			out = append(out, fmt.Sprintf("%q Dead %q", p.Key, p.Value))
		} else {
			out = append(out, fmt.Sprintf("%q %q", p.Key, p.Value))
		}
	}
	return fmt.Sprint(out)
}

func gets(t *testing.T, b *buffer.Buffer, want Pair) {
	t.Helper()
	if got, ok := b.Get(want.Key); got != want || !ok {
		t.Errorf("Get(%q): %s %v, want %s", want.Key, shown([]Pair{got}), ok, shown([]Pair{want}))
	}
}

func getsNone(t *testing.T, b *buffer.Buffer, key string) {
	t.Helper()
	if got, ok := b.Get(key); got != (Pair{}) || ok {
		t.Errorf("Get(%q): %s %v, want nothing", key, shown([]Pair{got}), ok)
	}
}

// has holds all that a buffer tells of itself against the pairs that it should have, by keys.
func has(t *testing.T, what string, b *buffer.Buffer, want ...Pair) {
	t.Helper()
	isList(t, what+": Writes", b.Writes(), want)
	if b.Len() != len(want) {
		t.Errorf("%s: Len %d, want %d", what, b.Len(), len(want))
	}
	for _, p := range want {
		gets(t, b, p)
	}
}

// write has b have p, by Put or by Drop.
func write(b *buffer.Buffer, p Pair) api.Errno {
	if p.Dead {
		return b.Drop(p.Key)
	}
	return b.Put(p.Key, p.Value)
}

// of tells a buffer into which that was written, in that order.
func of(t *testing.T, l ...Pair) *buffer.Buffer {
	t.Helper()
	b := buffer.New()
	for _, p := range l {
		if e := write(b, p); e != api.OK {
			t.Fatalf("%s: %v", shown([]Pair{p}), e)
		}
	}
	return b
}

// P13.1

func TestNew(t *testing.T) {
	b := buffer.New()
	if b == nil {
		t.Fatal("New: nil")
	}
	has(t, "a new one", b)
	for _, key := range []string{"", "a", longKey, beyond} {
		getsNone(t, b, key)
	}
	other := buffer.New()
	isErr(t, "Put", b.Put("a", "1"), api.OK)
	has(t, "another new one", other)
}

// Each order of five writes, each followed by what is told.
func TestAllOrders(t *testing.T) {
	all := []Pair{put("a", "1"), drop("b"), put("c", ""), drop("d"), put("e", "5")}
	orders := 0
	var walk func(order []Pair)
	walk = func(order []Pair) {
		if len(order) == len(all) {
			orders++
			b := buffer.New()
			for i, p := range order {
				getsNone(t, b, p.Key)
				isErr(t, "write", write(b, p), api.OK)
				want := slices.Clone(order[:i+1])
				slices.SortFunc(want, func(x, y Pair) int { return strings.Compare(x.Key, y.Key) })
				has(t, "some of five", b, want...)
			}
			return
		}
		for _, p := range all {
			if !slices.Contains(order, p) {
				walk(append(slices.Clone(order), p))
			}
		}
	}
	walk(nil)
	if orders != 120 {
		t.Errorf("%d orders", orders)
	}
}

func TestLengths(t *testing.T) {
	for _, p := range []Pair{put("a", "x"), put("\x00", "x"), put(longKey, "x"), put("a", ""), put("a", longValue), put(longKey, longValue), drop("a"), drop("\xff"), drop(longKey)} {
		has(t, "one", of(t, p), p)
	}
}

func TestRefuses(t *testing.T) {
	was := []Pair{put("a", "1"), drop("b")}
	b := of(t, was...)
	for _, x := range []struct {
		p    Pair
		want api.Errno
	}{
		{put("", "x"), api.ErrArg},
		{put("", ""), api.ErrArg},
		{put(longKey+"k", "x"), api.ErrArg},
		{put(strings.Repeat("k", 1<<20), "x"), api.ErrArg},
		{drop(""), api.ErrArg},
		{drop(longKey + "k"), api.ErrArg},
		{drop(strings.Repeat("k", 1<<20)), api.ErrArg},
		{put("c", longValue+"v"), api.ErrLong},
		{put("a", longValue+"v"), api.ErrLong},
		{put("b", longValue+"v"), api.ErrLong},
		{put("c", strings.Repeat("v", 1<<20)), api.ErrLong},
		{put("", longValue+"v"), api.ErrArg},
		{put(longKey+"k", longValue+"v"), api.ErrArg},
	} {
		what := fmt.Sprintf("a key of %d, a value of %d bytes, Dead %v", len(x.p.Key), len(x.p.Value), x.p.Dead)
		isErr(t, what, write(b, x.p), x.want)
		has(t, what, b, was...)
		if x.want == api.ErrArg {
			getsNone(t, b, x.p.Key)
		}
	}
	getsNone(t, b, "c")
}

// full tells a buffer with MaxOps keys, each other one dropped, and what it has.
func full(t *testing.T) (*buffer.Buffer, []Pair) {
	t.Helper()
	var l []Pair
	for i := range api.MaxOps {
		key := fmt.Sprintf("key %03d", i)
		if i%2 == 0 {
			l = append(l, put(key, fmt.Sprint(i)))
		} else {
			l = append(l, drop(key))
		}
	}
	return of(t, l...), l
}

func TestMany(t *testing.T) {
	b, l := full(t)
	has(t, "MaxOps keys", b, l...)
	for _, p := range []Pair{put("new", "x"), put("new", ""), put(longKey, longValue), put("a", "ahead of all"), drop("new"), drop("a"), drop(longKey)} {
		isErr(t, "one more", write(b, p), api.ErrMany)
		has(t, "behind one more", b, l...)
		getsNone(t, b, p.Key)
	}
	for _, p := range []Pair{put("", "x"), drop(""), put(longKey+"k", "x"), drop(longKey + "k"), put("", longValue+"v")} {
		isErr(t, "one more, of a key that is none", write(b, p), api.ErrArg)
	}
	isErr(t, "one more, of a long value", b.Put("new", longValue+"v"), api.ErrLong)
	isErr(t, "a long value of a key that is there", b.Put(l[0].Key, longValue+"v"), api.ErrLong)
	has(t, "behind what was refused", b, l...)
}

// A key that is there may be written again, however many there are, and takes no more room.
func TestWrittenAgainWhenFull(t *testing.T) {
	b, l := full(t)
	for i := range l {
		l[i] = drop(l[i].Key)
		isErr(t, "Drop of what is there", b.Drop(l[i].Key), api.OK)
		has(t, "dropped again", b, l...)
		l[i] = put(l[i].Key, longValue)
		isErr(t, "Put of what is there", b.Put(l[i].Key, longValue), api.OK)
		has(t, "put again", b, l...)
	}
	isErr(t, "one more", b.Put("new", ""), api.ErrMany)
}

// What was dropped is still a key that was written, and takes its room.
func TestDropMakesNoRoom(t *testing.T) {
	b, l := full(t)
	for i := range l {
		l[i] = drop(l[i].Key)
		isErr(t, "Drop", b.Drop(l[i].Key), api.OK)
	}
	isErr(t, "one more by Put", b.Put("new", "x"), api.ErrMany)
	isErr(t, "one more by Drop", b.Drop("new"), api.ErrMany)
	has(t, "all dropped", b, l...)
}

// The last of MaxOps keys is taken, by Put and by Drop, and the one behind it is not.
func TestLastOfMany(t *testing.T) {
	for _, last := range []Pair{put("z", "x"), drop("z")} {
		for _, more := range []Pair{put("zz", "x"), drop("zz")} {
			_, l := full(t)
			l[len(l)-1] = last
			b := of(t, l[:len(l)-1]...)
			isErr(t, "the last one", write(b, last), api.OK)
			has(t, "just MaxOps", b, l...)
			isErr(t, "one more", write(b, more), api.ErrMany)
			has(t, "behind one more", b, l...)
		}
	}
}

func TestDroppedWithoutHavingBeenPut(t *testing.T) {
	b := of(t, drop("a"))
	has(t, "dropped", b, drop("a"))
	isErr(t, "Drop again", b.Drop("a"), api.OK)
	has(t, "dropped again", b, drop("a"))
}

func TestGetOfWhatWasNotWritten(t *testing.T) {
	b := of(t, put("b", "2"), drop("d"), put("bb", "22"))
	for _, key := range []string{"", "a", "B", "b\x00", "ba", "bbb", "c", "d\x00", "\x00b", "dd", beyond, longKey} {
		getsNone(t, b, key)
	}
}

// keysByBytes: keys in order whose bytes are not text, and such as begin with one another.
func keysByBytes() []string {
	return []string{"\x00", "\x00\x00", "\x00\x01", " ", "A", "Z", "a", "a\x00", "a\x00b", "a\x01", "aa", "aaa", "ab", "b", longKey[1:], longKey, "z", "\x7f", "\x80", "\xc3", "\xc3\x28", "ä", "é", "€", "\xed\xa0\x80", "\xef\xbf\xbd", "😀", "\xfe", "\xff", "\xff\x00", "\xff\xff"}
}

func TestKeysByBytes(t *testing.T) {
	keys := keysByBytes()
	if !slices.IsSorted(keys) {
		t.Fatal("these keys do not rise")
	}
	b := buffer.New()
	var want []Pair
	for i, key := range slices.Backward(keys) {
		p := put(key, fmt.Sprint(i))
		if i%3 == 0 {
			p = drop(key)
		}
		isErr(t, "write", write(b, p), api.OK)
		want = slices.Insert(want, 0, p)
		has(t, "keys that are no text", b, want...)
	}
	isList(t, "Over", b.Over(nil, "", beyond, math.MaxInt), alive(want))
	for i, from := range keys {
		for j, to := range keys {
			isList(t, "Over", b.Over(nil, from, to, math.MaxInt), alive(want[i:max(i, j)]))
		}
	}
}

// alive: those of l that are not Dead.
func alive(l []Pair) []Pair {
	var out []Pair
	for _, p := range l {
		if !p.Dead {
			out = append(out, p)
		}
	}
	return out
}

func TestValuesThatAreNoText(t *testing.T) {
	p := put("a", "\xff\x00\xfe")
	has(t, "a value that is no text", of(t, p), p)
}

// R5

func TestNoCallMade(t *testing.T) {
	for name, b := range map[string]*buffer.Buffer{"nil": nil, "zero": {}} {
		for range 2 { // again, behind calls that change nothing
			isErr(t, name+" Put", b.Put("a", "1"), api.ErrMade)
			isErr(t, name+" Put of wrong ones", b.Put("", longValue+"v"), api.ErrMade)
			isErr(t, name+" Put of a long value", b.Put("a", longValue+"v"), api.ErrMade)
			isErr(t, name+" Drop", b.Drop("a"), api.ErrMade)
			isErr(t, name+" Drop of a wrong one", b.Drop(""), api.ErrMade)
			isErr(t, name+" Drop of a long one", b.Drop(longKey+"k"), api.ErrMade)
			has(t, name, b)
			getsNone(t, b, "a")
			getsNone(t, b, "")
			l := []Pair{put("a", "1"), drop("b"), put("c", "3"), put("d", "")}
			for _, most := range []int{math.MinInt, -1, 0, 1, 2, 3, 4, math.MaxInt} {
				want := alive(l)[:max(0, min(most, 3))]
				isList(t, name+" Over", b.Over(l, "", beyond, most), want)
				isList(t, name+" Over of no range", b.Over(l, "c", "a", most), want)
				isList(t, name+" Over of an empty range", b.Over(l, "", "", most), want)
				isList(t, name+" Over of none", b.Over(nil, "", beyond, most), nil)
			}
		}
	}
}
