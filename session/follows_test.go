package session_test

import (
	"fmt"
	"maps"
	"slices"
	"strings"
	"testing"

	"indenture/api"
	"indenture/internal/noise"
	"indenture/session"
	"indenture/store"
)

// past is a store by its chapter's words alone: what there was behind each number of records. A nil one is a store that no call made.
type past struct {
	states []map[string]string
	floor  int
}

func newPast() *past { return &past{states: []map[string]string{{}}} }

func (p *past) last() int { return len(p.states) - 1 }

func (p *past) install(l []Pair) {
	state := maps.Clone(p.states[p.last()])
	for _, x := range l {
		if state[x.Key] = x.Value; x.Dead {
			delete(state, x.Key)
		}
	}
	p.states = append(p.states, state)
}

// at tells what there was at a snapshot.
func (p *past) at(snap int) (map[string]string, api.Errno) {
	switch {
	case p == nil:
		return nil, api.ErrMade
	case snap < p.floor:
		return nil, api.ErrGone
	case snap > p.last():
		return nil, api.ErrArg
	}
	return p.states[snap], api.OK
}

// pairs tells those of a state's keys from from on, below to, by keys.
func pairs(state map[string]string, from, to string) []Pair {
	var l []Pair
	for _, key := range slices.Sorted(maps.Keys(state)) {
		if key >= from && key < to {
			l = append(l, put(key, state[key]))
		}
	}
	return l
}

// model is a session by the chapter's words alone: its transaction's acts, as they came.
type model struct {
	id           int
	open, strict bool
	snap         int
	acts         []api.Errno // what those answered that count
	wrote        []Pair
	read         []Read
}

func (m *model) begin(p *past, strict bool) api.Errno {
	if m.open {
		return api.ErrState
	}
	if p == nil {
		return api.ErrMade
	}
	*m = model{id: m.id, open: true, strict: strict, snap: p.last()}
	return api.OK
}

func (m *model) close() bool {
	was := m.open
	*m = model{id: m.id}
	return was
}

// refused tells why an act is not done.
func (m *model) refused() api.Errno {
	if !m.open {
		return api.ErrState
	}
	if len(m.acts) >= api.MaxOps {
		return api.ErrMany
	}
	return api.OK
}

func (m *model) did(e api.Errno) api.Errno {
	m.acts = append(m.acts, e)
	return e
}

func (m *model) write(x Pair) api.Errno {
	if e := m.refused(); e != api.OK {
		return e
	}
	switch {
	case len(x.Key) == 0 || len(x.Key) > api.MaxKey:
		return m.did(api.ErrArg)
	case len(x.Value) > api.MaxValue:
		return m.did(api.ErrLong)
	}
	m.wrote = append(m.wrote, x)
	return m.did(api.OK)
}

// under tells a state with all that was written laid over it.
func (m *model) under(state map[string]string) map[string]string {
	p := &past{states: []map[string]string{state}}
	p.install(m.wrote)
	return p.states[1]
}

func (m *model) get(p *past, key string) (string, api.Errno) {
	if e := m.refused(); e != api.OK {
		return "", e
	}
	if len(key) == 0 || len(key) > api.MaxKey {
		return "", m.did(api.ErrArg)
	}
	if slices.ContainsFunc(m.wrote, func(x Pair) bool { return x.Key == key }) {
		return m.told(m.under(map[string]string{}), key)
	}
	state, e := p.at(m.snap)
	if e != api.OK {
		return "", m.did(e)
	}
	m.read = append(m.read, one(key, pairs(state, key, key+"\x00")...))
	return m.told(state, key)
}

// told tells what a state has of a key.
func (m *model) told(state map[string]string, key string) (string, api.Errno) {
	if v, ok := state[key]; ok {
		return v, m.did(api.OK)
	}
	return "", m.did(api.ErrNone)
}

func (m *model) scan(p *past, from, to string) ([]Pair, api.Errno) {
	if e := m.refused(); e != api.OK {
		return nil, e
	}
	if len(from) > api.MaxKey || len(to) > api.MaxKey {
		return nil, m.did(api.ErrArg)
	}
	state, e := p.at(m.snap)
	if e != api.OK {
		return nil, m.did(e)
	}
	there := pairs(state, from, to)
	if len(there) > api.MaxScan {
		return nil, m.did(api.ErrMany)
	}
	m.read = append(m.read, scan(from, to, there...))
	l := pairs(m.under(state), from, to)
	return l[:min(len(l), api.MaxScan)], m.did(api.OK)
}

func (m *model) record() (Record, bool) {
	if !m.open {
		return Record{}, false
	}
	r := Record{Session: m.id, Snap: m.snap, Strict: m.strict}
	for i, x := range m.read {
		isAgain := func(y Read) bool { return !x.Scan && !y.Scan && x.Key == y.Key }
		if !slices.ContainsFunc(m.read[:i], isAgain) {
			r.Reads = append(r.Reads, x)
		}
	}
	for i, x := range m.wrote {
		if !slices.ContainsFunc(m.wrote[i+1:], func(y Pair) bool { return x.Key == y.Key }) {
			r.Writes = append(r.Writes, x)
		}
	}
	slices.SortFunc(r.Writes, func(x, y Pair) int { return strings.Compare(x.Key, y.Key) })
	return r, true
}

// agrees holds what a session tells of itself against its model.
func agrees(t *testing.T, what string, x *session.Session, m *model) {
	t.Helper()
	is(t, what, x, m.open, m.snap, len(m.acts))
	if want, ok := m.record(); ok {
		records(t, what, x, want)
	} else {
		isIdle(t, what, x)
	}
}

// step is one of a way: it is done to a session and its model, and to the store and what is known of it.
type step struct {
	name string
	do   func(t *testing.T, x *session.Session, m *model, s *store.Store, p *past)
}

func getStep(key string) step {
	return step{fmt.Sprintf("Get %q", key), func(t *testing.T, x *session.Session, m *model, s *store.Store, p *past) {
		t.Helper()
		v, e := m.get(p, key)
		gets(t, x, s, key, v, e)
	}}
}

func scanStep(from, to string) step {
	return step{fmt.Sprintf("Scan %q %q", from, to), func(t *testing.T, x *session.Session, m *model, s *store.Store, p *past) {
		t.Helper()
		if l, e := m.scan(p, from, to); e != api.OK {
			scanFails(t, x, s, from, to, e)
		} else {
			scans(t, x, s, from, to, l...)
		}
	}}
}

func writeStep(l Pair) step {
	return step{fmt.Sprintf("write %#v", l), func(t *testing.T, x *session.Session, m *model, _ *store.Store, _ *past) {
		t.Helper()
		write(t, x, l, m.write(l))
	}}
}

func beginStep(strict bool) step {
	return step{fmt.Sprint("Begin ", strict), func(t *testing.T, x *session.Session, m *model, s *store.Store, p *past) {
		t.Helper()
		isErr(t, "Begin", x.Begin(s, strict), m.begin(p, strict))
	}}
}

func closeStep() step {
	return step{"Close", func(t *testing.T, x *session.Session, m *model, _ *store.Store, _ *past) {
		t.Helper()
		closes(t, "any", x, m.close())
	}}
}

func installStep(l ...Pair) step {
	return step{fmt.Sprintf("Install %#v", l), func(t *testing.T, _ *session.Session, _ *model, s *store.Store, p *past) {
		t.Helper()
		install(t, s, l...)
		p.install(l)
	}}
}

// collectStep collects all but the last few snapshots.
func collectStep(but int) step {
	return step{fmt.Sprint("Collect ", but), func(t *testing.T, _ *session.Session, _ *model, s *store.Store, p *past) {
		t.Helper()
		p.floor = max(p.floor, p.last()-but)
		collect(t, s, p.floor)
	}}
}

// P15.4

// Each way of up to four steps, of a session with a transaction and of one without.
func TestAllShortWays(t *testing.T) {
	steps := []step{
		beginStep(true), closeStep(),
		getStep("a"), getStep("b"), getStep("c"), scanStep("a", "c"), scanStep("b", "z"),
		writeStep(put("a", "own")), writeStep(drop("b")), writeStep(put("b", "own")),
		installStep(put("a", "later"), drop("b"), put("c", "later")), collectStep(0),
	}
	ways := 0
	var walk func(way []step, more int)
	walk = func(way []step, more int) {
		ways++
		goes(t, way)
		for _, next := range steps {
			if more > 0 {
				walk(append(slices.Clone(way), next), more-1)
			}
		}
	}
	start := installStep(put("a", "1"), put("b", "1"))
	walk([]step{start}, 4)
	walk([]step{start, beginStep(false)}, 4)
	if ways != 2*(1+12+144+1728+20736) {
		t.Errorf("%d ways", ways)
	}
}

// goes does a way's steps, and holds the session against its model behind the last one: the ways that are shorter see to the others.
func goes(t *testing.T, way []step) {
	t.Helper()
	x, m, s, p := session.New(4), &model{id: 4}, store.New(), newPast()
	var names []string
	for _, next := range way {
		names = append(names, next.name)
		next.do(t, x, m, s, p)
	}
	agrees(t, strings.Join(names, ", "), x, m)
	if t.Failed() {
		t.Fatalf("on the way %s", strings.Join(names, ", "))
	}
}

// What is read is what was there at the snapshot, whatever is installed behind it, and however often.
func TestReadsStayAsTheyWere(t *testing.T) {
	s := store.New()
	var l []*session.Session
	for id := 1; id <= api.MaxSessions; id++ {
		l = append(l, session.New(id))
		begin(t, l[id-1], s, id%2 == 0)
		install(t, s, put("a", fmt.Sprint(id)), Pair{Key: "b", Dead: id%2 == 0}, put("c"+fmt.Sprint(id), ""))
	}
	for range 10 {
		for snap, x := range l {
			var all []Pair
			if snap > 0 {
				all = append(all, put("a", fmt.Sprint(snap)))
			}
			if snap%2 == 1 {
				all = append(all, put("b", ""))
			}
			for i := range snap {
				all = append(all, put("c"+fmt.Sprint(i+1), ""))
			}
			scans(t, x, s, "", most, all...)
			if snap > 0 {
				gets(t, x, s, "a", fmt.Sprint(snap), api.OK)
			} else {
				gets(t, x, s, "a", "", api.ErrNone)
			}
		}
		install(t, s, put("a", "later"), drop("b"), put("c1", "later"), put("c9", "later"), put("d", "later"))
		collect(t, s, 0)
	}
}

// world is sessions and two stores, each with what it should be.
type world struct {
	sessions []*session.Session
	models   []*model
	stores   []*store.Store
	pasts    []*past
}

func newWorld() *world {
	w := &world{stores: []*store.Store{store.New(), store.New()}, pasts: []*past{newPast(), newPast()}}
	for id := 1; id <= api.MaxSessions; id++ {
		w.sessions = append(w.sessions, session.New(id))
		w.models = append(w.models, &model{id: id})
	}
	return w
}

// keys: such as are none, and such as are alike at their begin or no text.
func keys() []string {
	return []string{"", "a", "a\x00", "aa", "b", "c", "d", "e", "e1", "f", "\x00", longKey, longKey + "k", "ä", "\xff", most, beyond}
}

// anySteps does what the bytes say, holds each answer against the model's, and tells how often each Errno was answered by an act.
func anySteps(t *testing.T, bytes []byte) map[api.Errno]int {
	w := newWorld()
	answered := map[api.Errno]int{}
	key := func(b byte) string { return keys()[int(b)%len(keys())] }
	for ; len(bytes) >= 4; bytes = bytes[4:] {
		i, at := int(bytes[0])%16/2%len(w.sessions), 0
		if i > 2 {
			i %= 2 // so that some have many acts
		}
		if bytes[0] >= 250 {
			at = 1
		}
		x, m := w.sessions[i], w.models[i]
		next := anyStep(bytes[1], key(bytes[2]), key(bytes[3]), strings.Repeat("v", int(bytes[3])*3/2))
		before := len(m.acts)
		next.do(t, x, m, w.stores[at], w.pasts[at])
		agrees(t, next.name, x, m)
		if len(m.acts) > before {
			answered[m.acts[before]]++
		}
		if e := m.refused(); e != api.OK {
			answered[e]++
		}
		if t.Failed() {
			t.Fatalf("session %d, behind %s", i+1, next.name)
		}
	}
	for i, x := range w.sessions {
		agrees(t, "at the end", x, w.models[i])
	}
	for i, s := range w.stores {
		isPast(t, s, w.pasts[i])
	}
	return answered
}

// anyStep tells the step that a byte says, of keys and a value; most are acts.
func anyStep(b byte, key, other, value string) step {
	switch {
	case b < 70:
		return getStep(key)
	case b < 110:
		return writeStep(put(key, value))
	case b < 135:
		return writeStep(drop(key))
	case b < 200:
		return scanStep(key, other)
	case b < 218:
		return beginStep(b%2 == 0)
	case b < 220:
		return closeStep()
	case b < 221:
		return collectStep(len(value) % 8)
	case b < 226:
		return installStep()
	}
	if len(key) < 1 || len(key) > api.MaxKey || len(value) > api.MaxValue {
		return installStep(put("a", key[:min(len(key), 3)]))
	}
	return installStep(Pair{Key: key, Value: value[:int(b)%2*len(value)], Dead: b%2 == 0})
}

// isPast holds a store against what it should have: what sessions do changes nothing of it.
func isPast(t *testing.T, s *store.Store, p *past) {
	t.Helper()
	if s.Last() != p.last() || s.Floor() != p.floor {
		t.Errorf("Last %d, Floor %d, want %d, %d", s.Last(), s.Floor(), p.last(), p.floor)
	}
	for snap := p.floor; snap <= p.last(); snap++ {
		l, e := s.Scan("", beyond, snap, 99)
		isErr(t, "the store's Scan", e, api.OK)
		isList(t, "the store's Scan", l, pairs(p.states[snap], "", beyond))
	}
}

func TestAnySteps(t *testing.T) {
	answered := map[api.Errno]int{}
	for seed := range 150 {
		for e, n := range anySteps(t, noise.Bytes(uint32(seed)*977+3, 16*seed)) {
			answered[e] += n
		}
	}
	for _, e := range []api.Errno{api.OK, api.ErrArg, api.ErrLong, api.ErrNone, api.ErrGone, api.ErrState, api.ErrMany} {
		if answered[e] < 50 {
			t.Errorf("%v was answered %d times alone: these steps are too few", e, answered[e])
		}
	}
}

// FuzzSteps goes over its seeds in an ordinary run, and on from them by go test -fuzz.
func FuzzSteps(f *testing.F) {
	f.Add([]byte(nil))
	for seed := range 10 {
		f.Add(noise.Bytes(uint32(seed)+1000, 40*seed))
	}
	f.Fuzz(func(t *testing.T, b []byte) { anySteps(t, b) })
}

// R4

// The same done to others answers the same: nothing hangs on a map's order.
func TestToldTheSameAlways(t *testing.T) {
	var want Record
	for round := range 30 {
		s := stored(t, numbered(50))
		x := begun(t, s)
		for i := range 20 {
			write(t, x, put(fmt.Sprint(i*7%20), "own"), api.OK)
			gets(t, x, s, fmt.Sprintf("key %05d", i*7%20), fmt.Sprint(i*7%20), api.OK)
		}
		_, e := x.Scan(s, "", most)
		isErr(t, "Scan", e, api.OK)
		if round == 0 {
			want, _ = x.Record()
		}
		records(t, "again", x, want)
	}
}
