package disk_test

import (
	"bytes"
	"slices"
	"testing"

	"indenture/api"
	"indenture/disk"
	"indenture/internal/noise"
)

// plain is a disk by the chapter's words alone: what was written last and what is safe are all bytes, twice, and lists are gone over from their begins.
type plain struct {
	down       bool
	last, safe []byte
	dirty      []int
	ops        int
	keep       []int
	torn       int
}

func newPlain(sectors int) *plain {
	return &plain{last: make([]byte, sectors*sectorSize), safe: make([]byte, sectors*sectorSize)}
}

func (p *plain) fails() bool {
	p.ops--
	if p.ops != 0 {
		p.ops = max(p.ops, 0)
		return false
	}
	p.crash(p.keep, p.torn)
	return true
}

func (p *plain) write(at int, b []byte) api.Errno {
	switch {
	case p.down:
		return api.ErrPower
	case at < 0:
		return api.ErrArg
	case at+len(b) > len(p.last):
		return api.ErrFull
	case len(b) == 0:
		return api.OK
	case p.fails():
		return api.ErrPower
	}
	for i, x := range b {
		p.last[at+i] = x
		if number := (at + i) / sectorSize; !slices.Contains(p.dirty, number) {
			p.dirty = append(p.dirty, number)
		}
	}
	return api.OK
}

func (p *plain) read(at, n int) ([]byte, api.Errno) {
	switch {
	case p.down:
		return nil, api.ErrPower
	case at < 0 || n < 0 || at+n > len(p.last):
		return nil, api.ErrArg
	}
	return p.last[at : at+n], api.OK
}

func (p *plain) sync() api.Errno {
	switch {
	case p.down:
		return api.ErrPower
	case len(p.dirty) == 0:
		return api.OK
	case p.fails():
		return api.ErrPower
	}
	p.dirty, p.safe = nil, bytes.Clone(p.last)
	return api.OK
}

func (p *plain) arm(ops int, keep []int, torn int) {
	p.ops, p.keep, p.torn = max(ops, 0), keep, torn
}

func (p *plain) crash(keep []int, torn int) bool {
	if p.down {
		return false
	}
	for _, number := range p.dirty {
		n := sectorSize
		if !slices.Contains(keep, number) {
			n, torn = min(max(torn, 0), sectorSize), 0
		}
		copy(p.safe[number*sectorSize:][:n], p.last[number*sectorSize:])
	}
	p.down, p.dirty, p.ops, p.last = true, nil, 0, bytes.Clone(p.safe)
	return true
}

func (p *plain) start() bool {
	was := p.down
	p.down = false
	return was
}

func (p *plain) copied() *plain {
	c := *p
	c.last, c.safe, c.dirty = bytes.Clone(p.last), bytes.Clone(p.safe), slices.Clone(p.dirty)
	return &c
}

// steps takes numbers from bytes, one after the other; behind the last one they are 0.
type steps struct{ b []byte }

func (s *steps) next(below int) int {
	if len(s.b) == 0 {
		return 0
	}
	x := int(s.b[0])
	s.b = s.b[1:]
	return x % below
}

func (s *steps) numbers(sectors int) []int {
	l := make([]int, s.next(sectors+2))
	for i := range l {
		l[i] = s.next(sectors+2) - 1
	}
	return l
}

// pair is a disk, and what it should be.
type pair struct {
	d *disk.Disk
	p *plain
}

// step does one thing with both of a pair, and tells a pair that goes on.
func (x pair) step(t *testing.T, s *steps, sectors int) pair {
	t.Helper()
	end := sectors * sectorSize
	switch s.next(12) {
	case 0, 1, 2, 3, 4:
		at, n, seed := s.next(end+4)-1, s.next(100), s.next(256)
		b := noise.Bytes(uint32(seed), n)
		isErr(t, "Write", x.d.Write(at, b), x.p.write(at, b))
	case 5:
		at, n := s.next(end+4)-1, s.next(100)-1
		got, e := x.d.Read(at, n)
		want, wantErr := x.p.read(at, n)
		if !bytes.Equal(got, want) || e != wantErr {
			t.Errorf("Read(%d, %d): %x %v, want %x %v", at, n, got, e, want, wantErr)
		}
	case 6:
		isErr(t, "Sync", x.d.Sync(), x.p.sync())
	case 7:
		ops, keep, torn := s.next(6)-1, s.numbers(sectors), s.next(sectorSize+4)-2
		x.d.Arm(ops, keep, torn)
		x.p.arm(ops, keep, torn)
	case 8:
		keep, torn := s.numbers(sectors), s.next(sectorSize+4)-2
		is(t, "Crash", x.d.Crash(keep, torn), x.p.crash(keep, torn))
	case 9, 10:
		is(t, "Start", x.d.Start(), x.p.start())
	case 11:
		other := pair{x.d.Copy(), x.p.copied()}
		other.d.Write(0, []byte("another way"))
		other.d.Crash([]int{0}, 3)
		return pair{x.d.Copy(), x.p.copied()}
	}
	return x
}

func (x pair) alike(t *testing.T) {
	t.Helper()
	is(t, "On", x.d.On(), !x.p.down)
	isDirty(t, "alike", x.d, x.p.dirty...)
	if !x.p.down {
		has(t, "alike", x.d, x.p.last)
	}
}

// run plays the steps that bytes say on a disk and on a plain one.
func run(t *testing.T, b []byte) {
	t.Helper()
	s := &steps{b}
	sectors := 1 + s.next(5)
	x := pair{disk.New(sectors), newPlain(sectors)}
	for len(s.b) > 0 && !t.Failed() {
		x = x.step(t, s, sectors)
		x.alike(t)
	}
	x.d.Crash(nil, 0)
	x.p.crash(nil, 0)
	x.d.Start()
	x.p.start()
	x.alike(t)
}

// P5.1, P5.2

func TestAsByItsWords(t *testing.T) {
	for seed := range 600 {
		run(t, noise.Bytes(uint32(seed)*7919, 600))
		if t.Failed() {
			t.Fatalf("seed %d", seed)
		}
	}
}

// FuzzSteps goes over its seeds in an ordinary run, and on from them by go test -fuzz.
func FuzzSteps(f *testing.F) {
	f.Add([]byte(nil))
	for seed := range 10 {
		f.Add(noise.Bytes(uint32(seed)+1000, 300))
	}
	f.Fuzz(func(t *testing.T, b []byte) {
		run(t, b)
	})
}

// P5.3

// What was synced is there, where nothing was written since, whatever is kept and torn.
func TestSyncedIsThere(t *testing.T) {
	for seed := range 300 {
		s := &steps{noise.Bytes(uint32(seed)+5000, 400)}
		d, synced := written(t, 6)
		touched := map[int]int{}
		for range s.next(20) {
			at, n := s.next(150), s.next(42)
			write(t, d, at, noise.Bytes(uint32(seed), n))
			for i := range n {
				touched[(at+i)/sectorSize]++
			}
		}
		if seed%2 == 0 {
			crash(t, d, s.numbers(6), s.next(40)-4)
		} else {
			d.Arm(1, s.numbers(6), s.next(40)-4)
			d.Write(0, make([]byte, 192))
			is(t, "Start", d.Start(), true)
		}
		got, _ := d.Read(0, 192)
		for number := range 6 {
			at := number * sectorSize
			if touched[number] == 0 && !bytes.Equal(got[at:at+sectorSize], synced[at:at+sectorSize]) {
				t.Errorf("seed %d: sector %d is lost", seed, number)
			}
		}
	}
}

func TestSyncedLastIsThere(t *testing.T) {
	d, b := written(t, 6)
	for i := range 200 {
		at := i * 37 % 150
		piece := noise.Bytes(uint32(i), i%42)
		write(t, d, at, piece)
		b = laid(b, at, piece)
		sync(t, d)
		crash(t, d, []int{i % 6}, i%40-4)
		has(t, "synced, and crashed", d, b)
		write(t, d, 0, make([]byte, 192))
		crash(t, d, nil, 0)
		has(t, "written over, and crashed", d, b)
	}
}

func TestAllKeptIsThere(t *testing.T) {
	d, b := written(t, 6)
	for i := range 200 {
		for j := range i % 5 {
			at := (i*37 + j*61) % 150
			piece := noise.Bytes(uint32(i+j), i%42)
			write(t, d, at, piece)
			b = laid(b, at, piece)
		}
		keep := d.Dirty()
		if i%2 == 0 {
			slices.Reverse(keep)
		}
		if i%3 == 0 {
			keep = []int{0, 1, 2, 3, 4, 5}
		}
		crash(t, d, keep, i%40-4)
		has(t, "all kept", d, b)
	}
}
