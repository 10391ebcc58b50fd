package store_test

import (
	"fmt"
	"math"
	"slices"
	"strings"
	"testing"

	"indenture/api"
	"indenture/internal/noise"
	"indenture/store"
)

// marks are ends of ranges, and keys: such as stand in the stores of these tests, such as lie between, and such as no key can be.
var marks = []string{"", "A", "a", "a\x00", "aa", "b", "bb", "c", "d", "e", "m", "x", "y3", "z", beyond}

// later tells what a store tells of the snapshots from one on, line by line.
func later(s *store.Store, from int) []string {
	lines := []string{fmt.Sprint("Last ", s.Last())}
	for snap := from; snap <= s.Last()+1; snap++ {
		for i, key := range marks {
			v, e := s.Get(key, snap)
			lines = append(lines, fmt.Sprintf("%d %q: %q %v, %v", snap, key, v, e, s.Wrote(key, snap)))
			for _, to := range marks[i:] {
				lines = append(lines, fmt.Sprintf("%d %q to %q: %v", snap, key, to, s.Within(key, to, snap)))
			}
		}
		for _, most := range []int{1, 3, math.MaxInt} {
			l, e := s.Scan("", beyond, snap, most)
			lines = append(lines, fmt.Sprintf("%d all, at most %d: %v %v", snap, most, l, e))
		}
	}
	return lines
}

// all tells what a store tells.
func all(s *store.Store) []string {
	return append(later(s, -1), fmt.Sprint("Floor ", s.Floor(), ", Versions ", s.Versions()))
}

func isTold(t *testing.T, what string, got, want []string) {
	t.Helper()
	if len(got) != len(want) {
		t.Errorf("%s: %d lines, want %d", what, len(got), len(want))
		return
	}
	for i := range got {
		if got[i] != want[i] {
			t.Errorf("%s: %s, want %s", what, got[i], want[i])
			return
		}
	}
}

func isAll(t *testing.T, what string, s *store.Store, want []string) {
	t.Helper()
	isTold(t, what, all(s), want)
}

// version is one of a model.
type version struct {
	at int
	Pair
}

// model is a store by the chapter's words alone: all versions, as they came.
type model struct {
	versions    []version
	last, floor int
}

func (m *model) copied() *model {
	return &model{slices.Clone(m.versions), m.last, m.floor}
}

func (m *model) install(at int, l []Pair) api.Errno {
	if !isRight(l) || at-1 != m.last {
		return api.ErrArg
	}
	for _, p := range l {
		m.versions = append(m.versions, version{at, p})
	}
	m.last = at
	return api.OK
}

func isRight(l []Pair) bool {
	for i, p := range l {
		if len(p.Key) < 1 || len(p.Key) > api.MaxKey || len(p.Value) > api.MaxValue || i > 0 && p.Key <= l[i-1].Key || p.Dead && len(p.Value) > 0 {
			return false
		}
	}
	return true
}

// had tells the last version of a key up to a snapshot, and its place.
func (m *model) had(key string, snap int) (version, int) {
	v, place := version{}, -1
	for i, x := range m.versions {
		if x.Key == key && x.at <= snap {
			v, place = x, i
		}
	}
	return v, place
}

func (m *model) get(key string, snap int) (string, api.Errno) {
	if snap < m.floor {
		return "", api.ErrGone
	}
	if snap > m.last {
		return "", api.ErrArg
	}
	v, place := m.had(key, snap)
	if place < 0 || v.Dead {
		return "", api.ErrNone
	}
	return v.Value, api.OK
}

func (m *model) scan(from, to string, snap, most int) ([]Pair, api.Errno) {
	if _, e := m.get("a", snap); e != api.OK && e != api.ErrNone {
		return nil, e
	}
	var l []Pair
	for i, x := range m.versions {
		v, place := m.had(x.Key, snap)
		if i == place && !v.Dead && v.Key >= from && v.Key < to {
			l = append(l, v.Pair)
		}
	}
	slices.SortFunc(l, byKeys)
	return l[:max(0, min(most, len(l)))], api.OK
}

func (m *model) wrote(key string, snap int) bool {
	return m.within(key, key+"\x00", snap)
}

func (m *model) within(from, to string, snap int) bool {
	return slices.ContainsFunc(m.versions, func(v version) bool { return v.at > snap && v.Key >= from && v.Key < to })
}

func (m *model) collect(snap int) api.Errno {
	if snap < m.floor || snap > m.last {
		return api.ErrArg
	}
	var left []version
	for i, v := range m.versions {
		if _, place := m.had(v.Key, snap); v.at > snap || i == place && !v.Dead {
			left = append(left, v)
		}
	}
	m.versions, m.floor = left, snap
	return api.OK
}

// agrees holds each call that asks, at a snapshot, of those keys and of all ranges between them, against the model.
func agrees(t *testing.T, s *store.Store, m *model, snap int, keys []string) {
	t.Helper()
	has(t, "any", s, m.last, m.floor, len(m.versions))
	for _, key := range keys {
		v, e := m.get(key, snap)
		gets(t, s, key, snap, v, e)
		wrote(t, s, key, snap, m.wrote(key, snap))
		for _, to := range keys {
			within(t, s, key, to, snap, m.within(key, to, snap))
			for most := -1; most <= 3; most++ {
				scanAgrees(t, s, m, key, to, snap, most)
			}
		}
	}
	scanAgrees(t, s, m, "", beyond, snap, math.MaxInt)
	within(t, s, "", beyond, snap, m.within("", beyond, snap))
}

func scanAgrees(t *testing.T, s *store.Store, m *model, from, to string, snap, most int) {
	t.Helper()
	if l, e := m.scan(from, to, snap, most); e != api.OK {
		scanFails(t, s, from, to, snap, most, e)
	} else {
		scans(t, s, from, to, snap, most, l...)
	}
}

// lists: all lists in which each of the keys is not there, has a value, or is Dead.
func lists(keys ...string) [][]Pair {
	all := [][]Pair{nil}
	for _, key := range keys {
		for _, l := range all {
			all = append(all, append(slices.Clone(l), put(key, key+"!")), append(slices.Clone(l), drop(key)))
		}
	}
	return all
}

// TestAllShortWays goes every way of four steps on two keys. Each step is done to a copy, and what it was copied from is asked again behind it.
func TestAllShortWays(t *testing.T) {
	ways := 0
	var walk func(s *store.Store, m *model, steps int)
	walk = func(s *store.Store, m *model, steps int) {
		ways++
		for snap := -1; snap <= m.last+1; snap++ {
			agrees(t, s, m, snap, []string{"a", "b"})
		}
		if steps == 0 || t.Failed() {
			return
		}
		for _, l := range lists("a", "b") {
			other, otherModel := s.Copy(), m.copied()
			isErr(t, "Install", other.Install(m.last+1, l), otherModel.install(m.last+1, l))
			walk(other, otherModel, steps-1)
		}
		for snap := m.floor - 1; snap <= m.last+1; snap++ {
			other, otherModel := s.Copy(), m.copied()
			e := otherModel.collect(snap)
			isErr(t, "Collect", other.Collect(snap), e)
			if e == api.OK {
				walk(other, otherModel, steps-1)
			}
		}
		agrees(t, s, m, m.last, []string{"a", "b"})
	}
	walk(store.New(), &model{}, 4)
	if ways < 5000 {
		t.Errorf("%d ways are too few", ways)
	}
}

// P8.4

// What a store was told to collect on any way is not missed by any snapshot from there on, whatever comes behind.
func TestCollectIsNotSeenFromItOn(t *testing.T) {
	some := []string{"", "a", "b", "c", beyond}
	for seed := range 300 {
		b := noise.Bytes(uint32(seed)*31+5, 400)
		plain := store.New()
		collected := store.New()
		for ; len(b) >= 8; b = b[8:] {
			l := anyList(b, "abc")
			at := plain.Last() + 1
			isErr(t, "Install", plain.Install(at, l), api.OK)
			isErr(t, "Install", collected.Install(at, l), api.OK)
			if b[7]%4 == 0 {
				floor := collected.Floor()
				collect(t, collected, floor+int(b[6])%(at-floor+1))
			}
			for snap := collected.Floor(); snap <= at; snap++ {
				sameAt(t, plain, collected, snap, some)
			}
			if t.Failed() {
				t.FailNow()
			}
		}
		if collected.Versions() >= plain.Versions() || plain.Floor() != 0 {
			t.Errorf("%d versions of %d are left", collected.Versions(), plain.Versions())
		}
	}
}

// sameAt holds two stores against one another at a snapshot.
func sameAt(t *testing.T, x, y *store.Store, snap int, keys []string) {
	t.Helper()
	for _, key := range keys {
		v, e := x.Get(key, snap)
		gets(t, y, key, snap, v, e)
		wrote(t, y, key, snap, x.Wrote(key, snap))
		within(t, y, "a", key, snap, x.Within("a", key, snap))
		l, _ := x.Scan("a", key, snap, 9)
		scans(t, y, "a", key, snap, 9, l...)
	}
}

// anyList: of each of the letters a pair, or none, from as many bytes.
func anyList(b []byte, letters string) []Pair {
	var l []Pair
	for i := range letters {
		switch key := letters[i : i+1]; b[i] % 4 {
		case 0:
			l = append(l, drop(key))
		case 1:
			l = append(l, put(key, "0123456789"[:b[i]%10]))
		}
	}
	return l
}

// anySteps does what bytes say to a store and to a model, and holds them against each other behind each step. Some steps are refused.
func anySteps(t *testing.T, b []byte) {
	t.Helper()
	number := func() int {
		if len(b) == 0 {
			return 0
		}
		x := int(b[0])
		b = b[1:]
		return x
	}
	key := func() string { return "abcdefghijklmnop"[number()%16:][:1] + "abcd"[:number()%4] }
	s, m := store.New(), &model{}
	for len(b) > 0 {
		switch kind := number() % 16; kind {
		case 0, 1:
			snap := m.floor + number()%8 - 1
			isErr(t, "Collect", s.Collect(snap), m.collect(snap))
		case 2:
			s, m = s.Copy(), m.copied()
		default:
			var l []Pair
			for range number() % 6 {
				if number()%3 == 0 {
					l = append(l, drop(key()))
				} else {
					l = append(l, put(key(), key()))
				}
			}
			if kind > 3 {
				slices.SortStableFunc(l, byKeys)
				l = slices.CompactFunc(l, func(a, b Pair) bool { return a.Key == b.Key })
			}
			at := m.last + 1 + number()%16/15
			isErr(t, "Install", s.Install(at, l), m.install(at, l))
		}
		agrees(t, s, m, m.floor+number()%(m.last-m.floor+3)-1, []string{key(), key()})
	}
}

func byKeys(a, b Pair) int { return strings.Compare(a.Key, b.Key) }

func TestAnySteps(t *testing.T) {
	for seed := range 400 {
		anySteps(t, noise.Bytes(uint32(seed)*7919+1, seed*2))
		if t.Failed() {
			t.FailNow()
		}
	}
}

// FuzzSteps goes over its seeds in an ordinary run, and on from them by go test -fuzz.
func FuzzSteps(f *testing.F) {
	f.Add([]byte(nil))
	for seed := range 10 {
		f.Add(noise.Bytes(uint32(seed)+1000, 30*seed))
	}
	f.Fuzz(anySteps)
}

// R3

func TestWhatIsHandedInIsNotKept(t *testing.T) {
	room := []Pair{put("a", "x"), drop("b"), put("c", "y"), put("room", "room"), put("more", "room")}
	was := slices.Clone(room)
	l := room[:3]
	s := store.New()
	install(t, s, put("b", "b1"))
	want := s.Copy()
	isErr(t, "Install", s.Install(2, l), api.OK)
	if !slices.Equal(room, was) {
		t.Errorf("what was handed in, and its room: %v", room)
	}
	isErr(t, "Install", want.Install(2, slices.Clone(l)), api.OK)
	told := all(want)
	for i := range room {
		room[i] = put("b", "spoilt")
	}
	isAll(t, "behind what was handed in was changed", s, told)
	is(t, "Good of what falls", store.Good(room), false)
	room[0].Value = "again"
	isErr(t, "Install of what is not Good", s.Install(3, room), api.ErrArg)
	if room[0] != put("b", "again") || room[4] != put("b", "spoilt") {
		t.Errorf("what was refused: %v", room)
	}
}

func TestAnswersAreNewMemory(t *testing.T) {
	s := four(t)
	told := all(s)
	for snap := range 5 {
		first, _ := s.Scan("", beyond, snap, 9)
		second, _ := s.Scan("", beyond, snap, 9)
		want := slices.Clone(second)
		for i := range first[:cap(first)] {
			first[:cap(first)][i] = put("spoilt", "spoilt")
		}
		if !slices.Equal(second, want) {
			t.Errorf("behind another answer was changed: %v, want %v", second, want)
		}
		isAll(t, "behind an answer was changed", s, told)
	}
}

// R4

// Two stores to which the same was done tell the same, however often they are asked.
func TestNothingHangsOnAMapsOrder(t *testing.T) {
	var l []Pair
	for i := range 200 {
		l = append(l, put(fmt.Sprintf("k%03d", i), fmt.Sprint(i)))
	}
	for range 20 {
		s := store.New()
		install(t, s, l[50:150]...)
		install(t, s, l...)
		collect(t, s, 2)
		scans(t, s, "", beyond, 2, 999, l...)
		scans(t, s, "k010", "k190", 2, 7, l[10:17]...)
		has(t, "two hundred keys", s, 2, 2, 200)
	}
}
