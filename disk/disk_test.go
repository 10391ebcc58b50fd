package disk_test

import (
	"bytes"
	"math"
	"slices"
	"testing"

	"indenture/api"
	"indenture/disk"
	"indenture/internal/noise"
)

const sectorSize = api.SectorSize

func isErr(t *testing.T, what string, got, want api.Errno) {
	t.Helper()
	if got != want {
		t.Errorf("%s: %v, want %v", what, got, want)
	}
}

func is(t *testing.T, what string, got, want bool) {
	t.Helper()
	if got != want {
		t.Errorf("%s: %v, want %v", what, got, want)
	}
}

func isDirty(t *testing.T, what string, d *disk.Disk, want ...int) {
	t.Helper()
	if got := d.Dirty(); !slices.Equal(got, want) {
		t.Errorf("%s: %v are dirty, want %v", what, got, want)
	}
}

// has holds all of a disk that has power against what should stand there.
func has(t *testing.T, what string, d *disk.Disk, want []byte) {
	t.Helper()
	got, e := d.Read(0, d.Size())
	if e != api.OK || !bytes.Equal(got, want) {
		t.Errorf("%s: %v\n%x, want\n%x", what, e, got, want)
	}
}

func write(t *testing.T, d *disk.Disk, at int, b []byte) {
	t.Helper()
	if e := d.Write(at, b); e != api.OK {
		t.Fatalf("Write of %d bytes at %d: %v", len(b), at, e)
	}
}

func sync(t *testing.T, d *disk.Disk) {
	t.Helper()
	if e := d.Sync(); e != api.OK {
		t.Fatalf("Sync: %v", e)
	}
}

// crash takes the power and gives it back.
func crash(t *testing.T, d *disk.Disk, keep []int, torn int) {
	t.Helper()
	if !d.Crash(keep, torn) || !d.Start() {
		t.Fatal("a crash, and a start: false")
	}
}

// written is a disk of those sectors, with noise that is synced.
func written(t *testing.T, sectors int) (*disk.Disk, []byte) {
	t.Helper()
	d := disk.New(sectors)
	b := noise.Bytes(uint32(sectors), sectors*sectorSize)
	write(t, d, 0, b)
	sync(t, d)
	return d, b
}

// laid: b with piece over it from at on.
func laid(b []byte, at int, piece []byte) []byte {
	return slices.Concat(b[:at], piece, b[at+len(piece):])
}

// P5.1

func TestNew(t *testing.T) {
	for _, n := range []int{1, 2, 3, 100, api.MaxSectors - 1, api.MaxSectors} {
		d := disk.New(n)
		if d == nil {
			t.Fatalf("New of %d: nil", n)
		}
		if d.Size() != n*sectorSize {
			t.Errorf("Size of %d sectors: %d", n, d.Size())
		}
		is(t, "power of a new one", d.On(), true)
		isDirty(t, "a new one", d)
		has(t, "a new one", d, make([]byte, n*sectorSize))
	}
	for _, n := range []int{0, -1, -api.MaxSectors, math.MinInt, api.MaxSectors + 1, 2 * api.MaxSectors, 1 << 32, 1<<32 + 1, math.MaxInt} {
		if disk.New(n) != nil {
			t.Errorf("New of %d is a disk", n)
		}
	}
}

func TestWrittenIsRead(t *testing.T) {
	for _, n := range []int{0, 1, 2, 31, 32, 33, 40, 63, 64, 65, 95, 96} {
		for at := 0; at <= 96-n; at++ {
			d, b := written(t, 3)
			piece := bytes.Repeat([]byte{200}, n)
			write(t, d, at, piece)
			has(t, "written", d, laid(b, at, piece))
			got, e := d.Read(at, n)
			if e != api.OK || !bytes.Equal(got, piece) {
				t.Fatalf("Read(%d, %d): %v %v", at, n, got, e)
			}
			sync(t, d)
			has(t, "synced", d, laid(b, at, piece))
		}
	}
}

func TestWrittenLast(t *testing.T) {
	d, b := written(t, 3)
	for i, at := range []int{30, 5, 31, 32, 0, 60, 30} {
		piece := bytes.Repeat([]byte{byte(i)}, 10+i)
		write(t, d, at, piece)
		b = laid(b, at, piece)
		has(t, "over what was written", d, b)
		if i%3 == 2 {
			sync(t, d)
			has(t, "over what was synced", d, b)
		}
	}
}

func TestEachPartIsRead(t *testing.T) {
	d, b := written(t, 3)
	write(t, d, 40, []byte("dirty"))
	b = laid(b, 40, []byte("dirty"))
	for at := range len(b) + 1 {
		for n := range len(b) - at + 1 {
			got, e := d.Read(at, n)
			if e != api.OK || !bytes.Equal(got, b[at:at+n]) {
				t.Fatalf("Read(%d, %d): %x %v, want %x", at, n, got, e, b[at:at+n])
			}
		}
	}
	isDirty(t, "behind reads", d, 1)
}

func TestDirty(t *testing.T) {
	d := disk.New(8)
	write(t, d, 5*sectorSize+31, []byte{1})
	isDirty(t, "a last byte", d, 5)
	write(t, d, 5*sectorSize, []byte{1})
	isDirty(t, "a first byte", d, 5)
	write(t, d, 2*sectorSize-1, []byte{1, 2})
	isDirty(t, "over an end", d, 5, 1, 2)
	write(t, d, 0, make([]byte, 4*sectorSize))
	isDirty(t, "some that are dirty, some that are not", d, 5, 1, 2, 0, 3)
	write(t, d, 7*sectorSize, make([]byte, sectorSize))
	isDirty(t, "the last one, with what stood there", d, 5, 1, 2, 0, 3, 7)
	write(t, d, 6*sectorSize, nil)
	isDirty(t, "no bytes", d, 5, 1, 2, 0, 3, 7)
	sync(t, d)
	isDirty(t, "synced", d)
	write(t, d, 3*sectorSize, []byte{1})
	write(t, d, 5*sectorSize, []byte{1})
	isDirty(t, "dirty again", d, 3, 5)
	sync(t, d)
	sync(t, d)
	isDirty(t, "synced twice", d)
}

func TestAtTheEnd(t *testing.T) {
	for _, sectors := range []int{1, 2, api.MaxSectors} {
		d, b := written(t, sectors)
		end := len(b)
		write(t, d, end, nil)
		write(t, d, end, []byte{})
		isDirty(t, "no bytes at the end", d)
		if got, e := d.Read(end, 0); len(got) != 0 || e != api.OK {
			t.Errorf("Read of no bytes at the end: %v %v", got, e)
		}
		write(t, d, end-1, []byte{123})
		has(t, "the last byte", d, laid(b, end-1, []byte{123}))
		isDirty(t, "the last byte", d, sectors-1)
		b = noise.Bytes(99, end)
		write(t, d, 0, b)
		has(t, "all of it", d, b)
	}
}

// wrongWrites: where they begin, how many bytes they have, and what they answer.
func wrongWrites(end int) []struct {
	at, n int
	want  api.Errno
} {
	return []struct {
		at, n int
		want  api.Errno
	}{
		{-1, 0, api.ErrArg}, {-1, 1, api.ErrArg}, {-1, end + 1, api.ErrArg}, {-1, end + 2, api.ErrArg}, {-sectorSize, 4, api.ErrArg},
		{math.MinInt, 0, api.ErrArg}, {math.MinInt, 40, api.ErrArg},
		{end, 1, api.ErrFull}, {end - 1, 2, api.ErrFull}, {0, end + 1, api.ErrFull}, {1, end, api.ErrFull}, {end - 40, 41, api.ErrFull},
		{end + 1, 0, api.ErrFull}, {end + 1, 1, api.ErrFull}, {2 * end, 0, api.ErrFull}, {1 << 32, 0, api.ErrFull}, {1 << 32, 1, api.ErrFull},
		{math.MaxInt, 0, api.ErrFull}, {math.MaxInt, 1, api.ErrFull}, {math.MaxInt, 40, api.ErrFull}, {math.MaxInt - 1, 1, api.ErrFull},
	}
}

// wrongReads: where they begin, and how many bytes they ask for.
func wrongReads(end int) [][2]int {
	return [][2]int{
		{-1, 0}, {-1, 1}, {0, -1}, {1, -1}, {end, -1}, {-1, -1}, {-1, end}, {end + 1, -1}, {math.MinInt, 0}, {0, math.MinInt}, {math.MinInt, math.MinInt}, {math.MinInt, math.MaxInt},
		{0, end + 1}, {1, end}, {end - 1, 2}, {end, 1}, {end + 1, 0}, {end + 1, 1}, {2 * end, 0},
		{0, math.MaxInt}, {1, math.MaxInt}, {end, math.MaxInt}, {math.MaxInt, 0}, {math.MaxInt, 1}, {math.MaxInt, math.MaxInt}, {math.MaxInt, math.MinInt}, {1 << 32, 0}, {0, 1 << 32}, {1 << 62, 1 << 62},
	}
}

func TestWrongWritesAndReads(t *testing.T) {
	d, b := written(t, 3)
	write(t, d, 33, []byte{1})
	b = laid(b, 33, []byte{1})
	for _, c := range wrongWrites(len(b)) {
		if e := d.Write(c.at, bytes.Repeat([]byte{77}, c.n)); e != c.want {
			t.Errorf("Write(%d, %d bytes): %v, want %v", c.at, c.n, e, c.want)
		}
	}
	for _, c := range wrongReads(len(b)) {
		if got, e := d.Read(c[0], c[1]); len(got) != 0 || e != api.ErrArg {
			t.Errorf("Read(%d, %d): %v %v", c[0], c[1], got, e)
		}
	}
	has(t, "behind what is wrong", d, b)
	isDirty(t, "behind what is wrong", d, 1)
	is(t, "power behind what is wrong", d.On(), true)
}

// Without power that is the answer, whatever else is wrong.
func TestPowerComesFirst(t *testing.T) {
	d, b := written(t, 3)
	write(t, d, 0, []byte{1})
	is(t, "Crash", d.Crash(nil, 0), true)
	for _, c := range append(wrongWrites(len(b)), wrongWrites(0)[0]) {
		isErr(t, "Write", d.Write(c.at, make([]byte, c.n)), api.ErrPower)
	}
	isErr(t, "Write", d.Write(0, []byte{1}), api.ErrPower)
	isErr(t, "Write of no bytes", d.Write(0, nil), api.ErrPower)
	for _, c := range append(wrongReads(len(b)), [2]int{0, 1}, [2]int{0, 0}, [2]int{0, len(b)}) {
		if got, e := d.Read(c[0], c[1]); len(got) != 0 || e != api.ErrPower {
			t.Errorf("Read(%d, %d): %v %v", c[0], c[1], got, e)
		}
	}
	isErr(t, "Sync", d.Sync(), api.ErrPower)
	if d.Size() != len(b) {
		t.Errorf("Size without power: %d", d.Size())
	}
	is(t, "Start", d.Start(), true)
	has(t, "behind it", d, b)
}

// R5

func TestNoCallMade(t *testing.T) {
	for _, d := range []*disk.Disk{nil, {}, new(disk.Disk), disk.New(0), disk.New(api.MaxSectors + 1), disk.New(-1).Copy()} {
		for range 2 {
			for _, c := range wrongWrites(0) {
				isErr(t, "Write", d.Write(c.at, make([]byte, c.n)), api.ErrMade)
			}
			isErr(t, "Write of no bytes", d.Write(0, nil), api.ErrMade)
			for _, c := range append(wrongReads(0), [2]int{0, 0}) {
				if got, e := d.Read(c[0], c[1]); len(got) != 0 || e != api.ErrMade {
					t.Errorf("Read(%d, %d): %v %v", c[0], c[1], got, e)
				}
			}
			isErr(t, "Sync", d.Sync(), api.ErrMade)
			is(t, "Crash", d.Crash([]int{0, -1, 7}, 3), false)
			is(t, "Start", d.Start(), false)
			is(t, "On", d.On(), false)
			isDirty(t, "Dirty", d)
			if d.Size() != 0 || d.Copy() != nil {
				t.Errorf("Size %d, Copy %v", d.Size(), d.Copy())
			}
			d.Arm(1, []int{0}, 1)
		}
	}
}

// R3

func TestNewMemory(t *testing.T) {
	d := disk.New(4)
	room := bytes.Repeat([]byte{77}, 256)
	write(t, d, 16, room[:40])
	if !bytes.Equal(room, bytes.Repeat([]byte{77}, 256)) {
		t.Error("Write changed its bytes, or their room")
	}
	clear(room)
	want := laid(make([]byte, 128), 16, bytes.Repeat([]byte{77}, 40))
	has(t, "behind changed bytes", d, want)
	first, _ := d.Read(0, 128)
	second, _ := d.Read(10, 20)
	was := bytes.Clone(second)
	clear(first[:cap(first)])
	if !bytes.Equal(second, was) {
		t.Errorf("an answer behind another changed one: %v", second)
	}
	has(t, "behind a changed answer", d, want)
	numbers := d.Dirty()
	for i := range numbers[:cap(numbers)] {
		numbers[:cap(numbers)][i] = 9
	}
	isDirty(t, "behind a changed answer", d, 0, 1)
	write(t, d, 127, []byte{0})
	numbers = d.Dirty()
	_ = append(numbers[:0], 3, 3, 3, 3, 3)
	isDirty(t, "behind another changed answer", d, 0, 1, 3)
	sync(t, d)
	write(t, d, 64, []byte{0})
	isDirty(t, "and synced", d, 2)
	has(t, "and synced", d, want)
}

// The whole of the greatest disk, byte by byte, in time that grows as the bytes do.
func TestManyWrites(t *testing.T) {
	d := disk.New(api.MaxSectors)
	b := noise.Bytes(1, d.Size())
	for at := range b {
		write(t, d, at, b[at:at+1])
	}
	has(t, "byte by byte", d, b)
	numbers := d.Dirty()
	for i, number := range numbers {
		if i != number {
			t.Fatalf("%d stands at %d", number, i)
		}
	}
	if len(numbers) != api.MaxSectors {
		t.Errorf("%d are dirty", len(numbers))
	}
	crash(t, d, nil, 0)
	has(t, "none of it kept", d, make([]byte, len(b)))
}
