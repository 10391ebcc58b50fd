package wal_test

import (
	"bytes"
	"slices"
	"testing"

	"indenture/api"
	"indenture/disk"
	"indenture/internal/noise"
	"indenture/wal"
)

// beginning tells whether all of a stand at the begin of b.
func beginning(a, b [][]byte) bool {
	return len(a) <= len(b) && sameTexts(a, b[:len(a)])
}

// chosen: those of the numbers whose bit is in the choice.
func chosen(numbers []int, choice int) []int {
	var l []int
	for i, number := range numbers {
		if choice>>i&1 == 1 {
			l = append(l, number)
		}
	}
	return l
}

// intact: how many of the byte strings lie on the disk as they were appended, from its begin on.
func intact(d *disk.Disk, texts [][]byte) int {
	b, _ := d.Read(0, d.Size())
	n := 0
	for n < len(texts) && bytes.HasPrefix(b, laid(texts[:n+1]...)) {
		n++
	}
	return n
}

// P6.3

// crashed is a disk of a log of five byte strings, two of them synced; the others are of one sector, of two and of one; with what was kept and torn of them.
func crashed(t *testing.T, choice, torn int) (*disk.Disk, [][]byte) {
	t.Helper()
	texts := [][]byte{[]byte("first"), noise.Bytes(2, 40), []byte("third"), noise.Bytes(4, 45), noise.Bytes(5, 20)}
	d := disk.New(8)
	l := opened(t, "a new disk", d)
	for i, text := range texts {
		isErr(t, "Append", l.Append(text), api.OK)
		if i == 1 {
			isErr(t, "Sync", l.Sync(), api.OK)
		}
	}
	isDirty(t, "three more", d, 3, 4, 5, 6)
	crash(t, d, chosen([]int{3, 4, 5, 6}, choice), torn)
	return d, texts
}

// Every choice of sectors, and every number of torn bytes.
func TestWhateverIsKept(t *testing.T) {
	for choice := range 16 {
		for torn := -1; torn <= sectorSize+1; torn++ {
			d, texts := crashed(t, choice, torn)
			n := intact(d, texts)
			if n < 2 {
				t.Fatalf("of what was synced %d are there", n)
			}
			opened(t, "behind the crash", d, texts[:n]...)
			l := opened(t, "opened again", d, texts[:n]...)
			isErr(t, "Append", l.Append([]byte("another")), api.OK)
			isErr(t, "Sync", l.Sync(), api.OK)
			crash(t, d, nil, 0)
			opened(t, "with another one", d, append(slices.Clone(texts[:n]), []byte("another"))...)
		}
	}
}

// Behind such a crash another one, at each write of Open and at its sync, of which again each choice is kept.
func TestWhateverIsKeptOfWhatOpenWipes(t *testing.T) {
	for choice := range 16 {
		for _, torn := range []int{0, 3, 20} {
			for ops := 1; ops <= 5; ops++ {
				for wiped := range 16 {
					d, texts := crashed(t, choice, torn)
					n := intact(d, texts)
					d.Arm(ops, chosen([]int{3, 4, 5, 6}, wiped), 32-torn)
					if _, _, e := wal.Open(d); e == api.ErrPower {
						start(t, d)
					} else {
						isErr(t, "Open", e, api.OK)
					}
					opened(t, "behind both", d, texts[:n]...)
				}
			}
		}
	}
}

// Frames that a crash kept behind one that it lost are not told behind a new one.
func TestOldFramesAreNotToldAgain(t *testing.T) {
	d := disk.New(6)
	l := opened(t, "a new disk", d)
	for i := range 4 {
		isErr(t, "Append", l.Append([]byte{byte(i)}), api.OK)
	}
	crash(t, d, []int{1, 2, 3}, 0)
	l = opened(t, "the first is lost", d)
	has(t, "the first is lost", d, nil)
	isErr(t, "Append", l.Append([]byte{9}), api.OK)
	crash(t, d, []int{0}, 0)
	opened(t, "the new one alone", d, []byte{9})
}

// steps takes numbers from bytes, one after the other; behind the last one they are 0.
type steps struct{ b []byte }

func (s *steps) next(below int) int {
	if len(s.b) == 0 {
		return 0
	}
	x := int(s.b[0])
	s.b = s.b[1:]
	return x % below
}

// loss: what is kept of a disk of so many sectors, and how many bytes are torn.
func (s *steps) loss(sectors int) ([]int, int) {
	var keep []int
	for number := range sectors {
		if s.next(2) == 1 {
			keep = append(keep, number)
		}
	}
	return keep, s.next(sectorSize+4) - 2
}

// play is a log on a disk, with what should be in it.
type play struct {
	d       *disk.Disk
	l       *wal.Log
	sectors int
	texts   [][]byte // appended
	synced  int
}

// step does one thing with the log.
func (p *play) step(t *testing.T, s *steps) {
	t.Helper()
	switch s.next(10) {
	case 0, 1, 2, 3, 4:
		p.add(t, noise.Bytes(uint32(s.next(256)), s.next(90)))
	case 5:
		p.add(t, make([]byte, s.next(64)))
	case 6:
		if e := p.l.Sync(); e == api.OK {
			p.synced = len(p.texts)
		} else {
			isErr(t, "Sync", e, api.ErrPower)
		}
	case 7:
		ops := s.next(8)
		keep, torn := s.loss(p.sectors)
		p.d.Arm(ops, keep, torn)
	case 8:
		p.d.Crash(s.loss(p.sectors))
	case 9:
		// Ahead of Open, which counts all as synced, and syncs nothing where nothing is wiped.
		if p.d.Sync() == api.OK {
			p.l = opened(t, "with power", p.d, p.texts...)
			p.synced = len(p.texts)
		}
	}
	if !p.d.On() {
		p.reopen(t, s)
	}
	stands(t, "a step", p.l, len(p.texts), p.synced, len(laid(p.texts...)))
	has(t, "a step", p.d, laid(p.texts...))
}

func (p *play) add(t *testing.T, text []byte) {
	t.Helper()
	full := len(laid(p.texts...))+len(laid(text)) > p.d.Size()
	e := p.l.Append(text)
	switch {
	case full:
		isErr(t, "Append that has no room", e, api.ErrFull)
	case p.d.On():
		isErr(t, "Append", e, api.OK)
		p.texts = append(p.texts, text)
	default:
		isErr(t, "Append as the power goes", e, api.ErrPower)
	}
}

// reopen opens the log behind a loss, at times with another loss in it, and holds what it tells against what was appended and what was synced.
func (p *play) reopen(t *testing.T, s *steps) {
	t.Helper()
	start(t, p.d)
	n := intact(p.d, p.texts)
	if n < p.synced {
		t.Errorf("%d are there, of %d that were synced", n, p.synced)
	}
	for s.next(2) == 1 {
		ops := s.next(8)
		keep, torn := s.loss(p.sectors)
		p.d.Arm(ops, keep, torn)
		if _, _, e := wal.Open(p.d); e == api.ErrPower {
			start(t, p.d)
		}
		p.d.Arm(0, nil, 0)
	}
	l, told, e := wal.Open(p.d)
	isErr(t, "Open", e, api.OK)
	if !beginning(p.texts[:p.synced], told) || !beginning(told, p.texts) || len(told) != n {
		t.Errorf("%d are told, %d are there, of %d, %d of them synced", len(told), n, len(p.texts), p.synced)
	}
	p.l, p.texts, p.synced = l, slices.Clone(told), len(told)
	opened(t, "opened again", p.d, told...)
}

func run(t *testing.T, b []byte) {
	t.Helper()
	s := &steps{b}
	sectors := 1 + s.next(30)
	p := &play{d: disk.New(sectors), sectors: sectors}
	p.l = opened(t, "a new disk", p.d)
	for len(s.b) > 0 && !t.Failed() {
		p.step(t, s)
	}
}

func TestAnySteps(t *testing.T) {
	for seed := range 1500 {
		run(t, noise.Bytes(uint32(seed)*7919+1, 800))
		if t.Failed() {
			t.Fatalf("seed %d", seed)
		}
	}
}

// FuzzSteps goes over its seeds in an ordinary run, and on from them by go test -fuzz.
func FuzzSteps(f *testing.F) {
	f.Add([]byte(nil))
	for seed := range 10 {
		f.Add(noise.Bytes(uint32(seed)+1000, 300))
	}
	f.Fuzz(func(t *testing.T, b []byte) {
		run(t, b)
	})
}
