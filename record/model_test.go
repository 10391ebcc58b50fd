package record_test

import (
	"bytes"

	"indenture/api"
)

// model tells what each call should, by the chapter's words alone.
type model struct{}

type pieceKind int

const (
	number pieceKind = iota
	flag
	letters
)

// piece is one value of a record's bytes.
type piece struct {
	kind  pieceKind
	n     uint64
	bytes []byte
}

func (model) num(n uint64) []byte {
	if n < 248 {
		return []byte{byte(n)}
	}
	var l []byte
	for ; n > 0; n /= 256 {
		l = append([]byte{byte(n % 256)}, l...)
	}
	return append([]byte{byte(247 + len(l))}, l...)
}

// pieces tells the values of a record, whatever it is, in the order of the chapter.
func (m model) pieces(r Record) []piece {
	var l []piece
	num := func(n int) { l = append(l, piece{number, uint64(n), m.num(uint64(n))}) }
	flg := func(f bool) {
		if f {
			l = append(l, piece{flag, 1, []byte{1}})
		} else {
			l = append(l, piece{flag, 0, []byte{0}})
		}
	}
	str := func(s string) {
		num(len(s))
		l = append(l, piece{letters, 0, []byte(s)})
	}
	num(r.Session)
	num(r.Snap)
	flg(r.Strict)
	num(len(r.Reads))
	for _, x := range r.Reads {
		flg(x.Scan)
		str(x.Key)
		if x.Scan {
			str(x.To)
		}
		num(len(x.Pairs))
		for _, p := range x.Pairs {
			str(p.Key)
			str(p.Value)
		}
	}
	num(len(r.Writes))
	for _, p := range r.Writes {
		str(p.Key)
		flg(p.Dead)
		if !p.Dead {
			str(p.Value)
		}
	}
	return l
}

// bytes tells what a record has, whatever it is.
func (m model) bytes(r Record) []byte {
	var b []byte
	for _, p := range m.pieces(r) {
		b = append(b, p.bytes...)
	}
	return b
}

// pairs tells whether l is store's Good, and none of it Dead.
func (model) pairs(l []Pair, mayBeDead bool) bool {
	for i, p := range l {
		if len(p.Key) == 0 || len(p.Key) > 64 || len(p.Value) > 256 || p.Dead && (p.Value != "" || !mayBeDead) {
			return false
		}
		if i > 0 && bytes.Compare([]byte(l[i-1].Key), []byte(p.Key)) >= 0 {
			return false
		}
	}
	return true
}

func (m model) one(x Read) bool {
	if x.To != "" || len(x.Key) == 0 || len(x.Key) > 64 || !m.pairs(x.Pairs, false) {
		return false
	}
	return len(x.Pairs) == 0 || len(x.Pairs) == 1 && x.Pairs[0].Key == x.Key
}

func (m model) scan(x Read) bool {
	if len(x.Key) > 64 || len(x.To) > 64 || len(x.Pairs) > 200 || !m.pairs(x.Pairs, false) {
		return false
	}
	for _, p := range x.Pairs {
		if bytes.Compare([]byte(p.Key), []byte(x.Key)) < 0 || bytes.Compare([]byte(p.Key), []byte(x.To)) >= 0 {
			return false
		}
	}
	return true
}

func (m model) kind(r Record) kind {
	if r.Session < 1 || r.Session > 8 || r.Snap < 0 || r.Snap > 1099511627776 || len(r.Reads) > 64 || len(r.Writes) > 64 || !m.pairs(r.Writes, true) {
		return bad
	}
	for i, x := range r.Reads {
		if x.Scan && !m.scan(x) || !x.Scan && !m.one(x) {
			return bad
		}
		for _, y := range r.Reads[:i] {
			if !x.Scan && !y.Scan && x.Key == y.Key {
				return bad
			}
		}
	}
	if len(m.bytes(r)) > 8192 {
		return long
	}
	return good
}

// read tells the Good record that has just those bytes: what they seem to say, put again, must be them.
func (m model) read(b []byte) (Record, api.Errno) {
	r, ok := m.guess(b)
	if !ok || m.kind(r) != good || !bytes.Equal(m.bytes(r), b) {
		return Record{}, api.ErrBad
	}
	return r, api.OK
}

// guess tells what bytes seem to say. It looks at no limit: where they end too early it panics, within.
func (model) guess(b []byte) (r Record, ok bool) {
	b = b[:len(b):len(b)]
	defer func() {
		if recover() != nil {
			r, ok = Record{}, false
		}
	}()
	take := func(n int) []byte {
		part := b[:n]
		b = b[n:]
		return part
	}
	num := func() int {
		first := int(take(1)[0])
		if first < 248 {
			return first
		}
		n := uint64(0)
		for _, x := range take(first - 247) {
			n = n*256 + uint64(x)
		}
		return int(n)
	}
	flg := func() bool { return take(1)[0] != 0 }
	str := func() string { return string(take(num())) }
	r.Session = num()
	r.Snap = num()
	r.Strict = flg()
	for range num() {
		var x Read
		x.Scan = flg()
		x.Key = str()
		if x.Scan {
			x.To = str()
		}
		for range num() {
			key := str()
			x.Pairs = append(x.Pairs, Pair{Key: key, Value: str()})
		}
		r.Reads = append(r.Reads, x)
	}
	for range num() {
		var p Pair
		p.Key = str()
		p.Dead = flg()
		if !p.Dead {
			p.Value = str()
		}
		r.Writes = append(r.Writes, p)
	}
	return r, true
}
