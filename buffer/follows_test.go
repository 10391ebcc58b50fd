package buffer_test

import (
	"math"
	"slices"
	"strings"
	"testing"

	"indenture/api"
	"indenture/buffer"
	"indenture/internal/noise"
)

// model is a buffer by the chapter's words alone: all that was written, as it came.
type model []Pair

// last tells what was written last of a key; false: nothing.
func (m model) last(key string) (Pair, bool) {
	for _, p := range slices.Backward(m) {
		if p.Key == key {
			return p, true
		}
	}
	return Pair{}, false
}

// writes tells what each key has, by keys.
func (m model) writes() []Pair {
	var l []Pair
	for i, p := range m {
		if !slices.ContainsFunc(m[i+1:], func(later Pair) bool { return later.Key == p.Key }) {
			l = append(l, p)
		}
	}
	slices.SortFunc(l, func(x, y Pair) int { return strings.Compare(x.Key, y.Key) })
	return l
}

func (m model) write(p Pair) (model, api.Errno) {
	_, has := m.last(p.Key)
	switch {
	case len(p.Key) == 0 || len(p.Key) > api.MaxKey:
		return m, api.ErrArg
	case len(p.Value) > api.MaxValue:
		return m, api.ErrLong
	case !has && len(m.writes())+1 > api.MaxOps:
		return m, api.ErrMany
	}
	return append(slices.Clone(m), p), api.OK
}

// laid is Overlay by the chapter's words alone: w is written behind l, and what is not Dead is told.
func laid(l, w []Pair) []Pair {
	return alive(model(slices.Concat(l, w)).writes())
}

func (m model) over(l []Pair, from, to string, most int) []Pair {
	var w []Pair
	for _, p := range m.writes() {
		if p.Key >= from && p.Key < to {
			w = append(w, p)
		}
	}
	out := laid(l, w)
	return out[:max(0, min(most, len(out)))]
}

// agrees holds each call that asks, of those keys and all ranges between them, against the model.
func agrees(t *testing.T, b *buffer.Buffer, m model, l []Pair, keys []string) {
	t.Helper()
	has(t, "any", b, m.writes()...)
	for _, key := range keys {
		if p, ok := m.last(key); ok {
			gets(t, b, p)
		} else {
			getsNone(t, b, key)
		}
		for _, to := range keys {
			for most := -1; most <= 4; most++ {
				isList(t, "Over", b.Over(l, key, to, most), m.over(l, key, to, most))
			}
		}
	}
	isList(t, "Over", b.Over(l, "", beyond, math.MaxInt), m.over(l, "", beyond, math.MaxInt))
}

// P13.3

// What each key has is what was written last, on every way of up to four writes of two keys.
func TestAllShortWays(t *testing.T) {
	steps := []Pair{put("a", "1"), put("a", "2"), drop("a"), put("b", ""), put("b", "1"), drop("b")}
	l := []Pair{put("a", "l"), put("b", "l"), put("c", "l")}
	ways := 0
	var walk func(m model)
	walk = func(m model) {
		ways++
		agrees(t, of(t, m...), m, l, []string{"", "a", "b", "c"})
		for _, p := range steps {
			if len(m) < 4 {
				walk(append(slices.Clone(m), p))
			}
		}
	}
	walk(nil)
	if ways != 1+6+36+216+1296 {
		t.Errorf("%d ways", ways)
	}
}

func TestWrittenLast(t *testing.T) {
	b := of(t, put("a", "1"), drop("a"))
	has(t, "put, then dropped", b, drop("a"))
	over(t, b, []Pair{put("a", "l")}, "", beyond, 9)
	isErr(t, "Put", b.Put("a", "2"), api.OK)
	has(t, "dropped, then put", b, put("a", "2"))
	over(t, b, []Pair{put("a", "l")}, "", beyond, 9, put("a", "2"))
	isErr(t, "Put", b.Put("a", ""), api.OK)
	has(t, "put, then put", b, put("a", ""))
	isErr(t, "Put of a long value", b.Put("a", longValue+"v"), api.ErrLong)
	has(t, "behind what was refused", b, put("a", ""))
	has(t, "dropped first", of(t, drop("a"), put("a", "1")), put("a", "1"))
	has(t, "dropped twice", of(t, put("a", "1"), drop("a"), drop("a")), drop("a"))
}

// lists: all lists in which each of the keys is not there, has a value, or is Dead.
func lists(value string, keys ...string) [][]Pair {
	all := [][]Pair{nil}
	for _, key := range keys {
		for _, l := range all {
			all = append(all, append(slices.Clone(l), put(key, value)), append(slices.Clone(l), drop(key)))
		}
	}
	return all
}

func TestOverlayOfAllShortLists(t *testing.T) {
	for _, l := range lists("l", "a", "b", "c", "d") {
		for _, w := range lists("w", "a", "b", "c", "d") {
			overlays(t, l, w, laid(l, w)...)
		}
	}
}

// Laid one behind another they are as laid at once.
func TestOverlayOfOverlay(t *testing.T) {
	all := lists("x", "a", "b", "c")
	for _, l := range all {
		for _, v := range lists("v", "a", "b", "c") {
			for _, w := range lists("w", "a", "b", "c") {
				both := model(slices.Concat(v, w)).writes()
				isList(t, "Overlay", buffer.Overlay(buffer.Overlay(l, v), w), buffer.Overlay(l, both))
			}
		}
	}
}

// anySteps writes what the bytes say, holds what is told against the model behind each step, and tells how often each Errno was answered.
func anySteps(t *testing.T, bytes []byte) map[api.Errno]int {
	answered := map[api.Errno]int{}
	var keys []string
	for _, key := range keysByBytes() {
		keys = append(keys, key, key[:1]+"0", key[:1]+"1", key[:1]+"2")
	}
	keys = append(keys, "", beyond)
	b, m := buffer.New(), model(nil)
	var under []Pair
	for ; len(bytes) >= 4; bytes = bytes[4:] {
		key := keys[int(bytes[0])%len(keys)]
		p := put(key, strings.Repeat("v", int(bytes[1])+int(bytes[2])%16))
		if bytes[2] >= 160 {
			p = drop(key)
		}
		var e api.Errno
		m, e = m.write(p)
		isErr(t, "write", write(b, p), e)
		answered[e]++
		under = laid(under, []Pair{put(keys[int(bytes[3])%len(keys)], "l")})
		from, to, most := keys[int(bytes[1])%len(keys)], keys[int(bytes[2])%len(keys)], int(bytes[3])/2-4
		has(t, "any", b, m.writes()...)
		isList(t, "Over", b.Over(under, from, to, most), m.over(under, from, to, most))
		isList(t, "Overlay", buffer.Overlay(under, b.Writes()), m.over(under, "", beyond, math.MaxInt))
	}
	agrees(t, b, m, under, []string{"", "a", "a\x00", "b", "\xff", beyond})
	return answered
}

func TestAnySteps(t *testing.T) {
	answered := map[api.Errno]int{}
	for seed := range 100 {
		for e, n := range anySteps(t, noise.Bytes(uint32(seed)*977+3, 8*seed)) {
			answered[e] += n
		}
	}
	for _, e := range []api.Errno{api.OK, api.ErrArg, api.ErrLong, api.ErrMany} {
		if answered[e] < 50 {
			t.Errorf("%v was answered %d times alone: these steps are too few", e, answered[e])
		}
	}
}

// FuzzSteps goes over its seeds in an ordinary run, and on from them by go test -fuzz.
func FuzzSteps(f *testing.F) {
	f.Add([]byte(nil))
	for seed := range 10 {
		f.Add(noise.Bytes(uint32(seed)+1000, 40*seed))
	}
	f.Fuzz(func(t *testing.T, b []byte) { anySteps(t, b) })
}

// R4

// The order of what is told hangs on no map's: of buffers that are alike it is the same always.
func TestToldTheSameAlways(t *testing.T) {
	_, want := full(t)
	for range 50 {
		b := of(t, want...)
		isList(t, "Writes", b.Writes(), want)
		isList(t, "Over", b.Over(nil, "", beyond, math.MaxInt), alive(want))
	}
}

// R3

// spoil changes all of a list, and its room.
func spoil(l []Pair) {
	for i := range l[:cap(l)] {
		l[:cap(l)][i] = Pair{Key: "spoilt", Value: "spoilt", Dead: true}
	}
}

// roomy is l at the begin of a longer list, all of which is told, too.
func roomy(l []Pair) ([]Pair, []Pair) {
	room := append(slices.Clone(l), slices.Repeat([]Pair{put("room", "room")}, 8)...)
	return room[:len(l)], room
}

// handed: lists of which some need not be changed at all to be the answer.
func handed() [][]Pair {
	return [][]Pair{nil, {put("a", "1")}, {put("a", "1"), put("c", "3"), put("e", "5")}, {put("a", "1"), drop("c"), put("e", "5")}, {drop("a"), put("b", "2")}}
}

func TestOverlayTellsNewMemory(t *testing.T) {
	for _, plainL := range handed() {
		for _, plainW := range handed() {
			want := laid(plainL, plainW)
			l, roomL := roomy(plainL)
			w, roomW := roomy(plainW)
			wasL, wasW := slices.Clone(roomL), slices.Clone(roomW)
			first, second := buffer.Overlay(l, w), buffer.Overlay(l, w)
			isList(t, "Overlay where there is room", first, want)
			spoil(first)
			isList(t, "l and its room, behind a changed answer", roomL, wasL)
			isList(t, "w and its room, behind a changed answer", roomW, wasW)
			isList(t, "Overlay behind another changed answer", second, want)
			spoil(roomL)
			spoil(roomW)
			isList(t, "Overlay behind what was handed in was changed", second, want)
		}
	}
}

func TestOverTellsNewMemory(t *testing.T) {
	for _, plain := range handed() {
		for _, most := range []int{0, 1, 2, 9} {
			for _, to := range []string{"", "c", beyond} {
				m := model{put("b", "w"), drop("c"), put("d", "w")}
				b := of(t, m...)
				want := m.over(plain, "", to, most)
				l, room := roomy(plain)
				was := slices.Clone(room)
				first, second := b.Over(l, "", to, most), b.Over(l, "", to, most)
				isList(t, "Over where there is room", first, want)
				spoil(first)
				isList(t, "l and its room, behind a changed answer", room, was)
				has(t, "behind a changed answer", b, m...)
				isList(t, "Over behind another changed answer", second, want)
				spoil(room)
				isErr(t, "Put", b.Put("b", "later"), api.OK)
				isErr(t, "Drop", b.Drop("d"), api.OK)
				isErr(t, "Put", b.Put("aa", "later"), api.OK)
				isList(t, "Over behind what was written later", second, want)
			}
		}
	}
}

// Of a buffer that no call made there is nothing to lay over l; the answer is still not l.
func TestOverOfNoBufferTellsNewMemory(t *testing.T) {
	for _, b := range []*buffer.Buffer{nil, {}, buffer.New()} {
		l, room := roomy([]Pair{put("a", "1"), put("b", "2")})
		was := slices.Clone(room)
		spoil(b.Over(l, "", beyond, 9))
		spoil(b.Over(l, "", beyond, 1))
		isList(t, "l and its room, behind a changed answer", room, was)
	}
}

func TestWritesTellsNewMemory(t *testing.T) {
	want := []Pair{put("a", "1"), drop("b"), put("c", "3")}
	b := of(t, want...)
	first, second := b.Writes(), b.Writes()
	spoil(first)
	has(t, "behind a changed answer", b, want...)
	isList(t, "Writes behind another changed answer", second, want)
	isErr(t, "Put", b.Put("a", "later"), api.OK)
	isErr(t, "Drop", b.Drop("c"), api.OK)
	isErr(t, "Put", b.Put("aa", "later"), api.OK)
	isList(t, "Writes behind what was written later", second, want)
	has(t, "behind what was written later", b, put("a", "later"), put("aa", "later"), drop("b"), drop("c"))
}

// Asking changes nothing: what is told is told again.
func TestAskingChangesNothing(t *testing.T) {
	want := []Pair{put("a", "1"), drop("b"), put("c", "3")}
	b := of(t, want...)
	for range 3 {
		over(t, b, []Pair{put("a", "l"), put("b", "l")}, "b", "c", 1, put("a", "l"))
		getsNone(t, b, "d")
		getsNone(t, b, "")
		has(t, "asked", b, want...)
	}
}
