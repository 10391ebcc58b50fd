package disk_test

import (
	"bytes"
	"math"
	"slices"
	"testing"

	"indenture/api"
	"indenture/disk"
	"indenture/internal/noise"
)

// stained is a disk of six sectors of noise, whose sectors 4, 1, 2 and 0 were written since with other bytes; what was synced, and what was written last.
func stained(t *testing.T) (*disk.Disk, []byte, []byte) {
	t.Helper()
	d, synced := written(t, 6)
	last := bytes.Clone(synced)
	for i, number := range []int{4, 1, 2, 0} {
		piece := bytes.Repeat([]byte{byte(201 + i)}, sectorSize)
		write(t, d, number*sectorSize, piece)
		last = laid(last, number*sectorSize, piece)
	}
	isDirty(t, "stained", d, 4, 1, 2, 0)
	return d, synced, last
}

// taken: synced, but for the first n bytes of that sector, which are of last.
func taken(synced, last []byte, number, n int) []byte {
	at := number * sectorSize
	return laid(synced, at, last[at:at+n])
}

func isDown(t *testing.T, what string, d *disk.Disk) {
	t.Helper()
	is(t, what+": power", d.On(), false)
	isDirty(t, what+": without power", d)
	isErr(t, what+": Sync", d.Sync(), api.ErrPower)
}

// P5.2: Crash, Start, On

func TestExample(t *testing.T) {
	d := disk.New(2)
	b := noise.Bytes(1, 40)
	write(t, d, 0, b)
	is(t, "Crash", d.Crash([]int{1}, 0), true)
	is(t, "Start", d.Start(), true)
	has(t, "the second alone", d, slices.Concat(make([]byte, 32), b[32:], make([]byte, 24)))
}

func TestCrashAndStart(t *testing.T) {
	d, synced, _ := stained(t)
	is(t, "Start with power", d.Start(), false)
	isDirty(t, "behind a Start that was none", d, 4, 1, 2, 0)
	is(t, "Crash", d.Crash(nil, 0), true)
	isDown(t, "crashed", d)
	is(t, "Crash without power", d.Crash([]int{4, 1}, 7), false)
	isDown(t, "crashed twice", d)
	is(t, "Start", d.Start(), true)
	is(t, "On", d.On(), true)
	isDirty(t, "started", d)
	is(t, "Start again", d.Start(), false)
	is(t, "On still", d.On(), true)
	has(t, "started", d, synced)
}

// Every choice of the dirty sectors, in any order, with others that are not dirty among them.
func TestKept(t *testing.T) {
	order := []int{4, 1, 2, 0}
	for choice := range 16 {
		for _, torn := range []int{0, 1, 31, 32} {
			d, want, last := stained(t)
			var keep []int
			whole := torn
			for i, number := range order {
				if choice>>i&1 == 1 {
					keep = append(keep, number, 3)
					want = taken(want, last, number, sectorSize)
				} else {
					want = taken(want, last, number, whole)
					whole = 0
				}
			}
			slices.Reverse(keep)
			crash(t, d, keep, torn)
			has(t, "kept", d, want)
			sync(t, d)
			has(t, "kept and synced", d, want)
		}
	}
}

func TestKeptOddly(t *testing.T) {
	for _, keep := range [][]int{
		{2}, {2, 2, 2}, {3, 2, 5}, {2, 6, 7}, {-1, 2}, {2, math.MaxInt, math.MinInt}, {2, 2 + 1<<32, 1 << 32}, {-2, 2, -4}, {4096, 2, 64, 70},
	} {
		d, synced, last := stained(t)
		was := slices.Clone(keep)
		crash(t, d, keep, 0)
		has(t, "of keep the one that is dirty", d, taken(synced, last, 2, sectorSize))
		if !slices.Equal(keep, was) {
			t.Errorf("keep has changed: %v, was %v", keep, was)
		}
	}
	for _, keep := range [][]int{nil, {}, {3}, {5, 3}, {6}, {-1}, {math.MaxInt}, {math.MinInt}} {
		d, synced, _ := stained(t)
		crash(t, d, keep, 0)
		has(t, "none of keep is dirty", d, synced)
	}
	d, synced, last := stained(t)
	crash(t, d, slices.Repeat([]int{2, 4, 7}, 1<<16), 0)
	has(t, "many times", d, taken(taken(synced, last, 2, sectorSize), last, 4, sectorSize))
}

func TestTorn(t *testing.T) {
	for torn := -2; torn <= sectorSize+2; torn++ {
		whole := min(max(torn, 0), sectorSize)
		for _, c := range []struct {
			keep  []int
			first int
		}{{nil, 4}, {[]int{3, 5}, 4}, {[]int{1, 0}, 4}, {[]int{4}, 1}, {[]int{1, 4}, 2}, {[]int{0, 4}, 1}, {[]int{4, 1, 2}, 0}} {
			d, want, last := stained(t)
			for _, number := range c.keep {
				want = taken(want, last, number, sectorSize)
			}
			crash(t, d, c.keep, torn)
			has(t, "torn", d, taken(want, last, c.first, whole))
		}
	}
	for _, torn := range []int{math.MinInt, -sectorSize, math.MaxInt, 1 << 32, 1<<32 + 3, 2 * sectorSize} {
		d, synced, last := stained(t)
		crash(t, d, nil, torn)
		if torn < 0 {
			has(t, "torn far below 0", d, synced)
		} else {
			has(t, "torn far above", d, taken(synced, last, 4, sectorSize))
		}
	}
	d, _, last := stained(t)
	crash(t, d, []int{0, 1, 2, 4}, 5)
	has(t, "all kept, none to tear", d, last)
	crash(t, d, nil, 5)
	has(t, "nothing dirty, none to tear", d, last)
}

// What is torn is what was written last, not what stood there ahead of it.
func TestTornIsWrittenLast(t *testing.T) {
	d := disk.New(1)
	write(t, d, 0, bytes.Repeat([]byte{1}, 32))
	sync(t, d)
	write(t, d, 0, bytes.Repeat([]byte{2}, 32))
	write(t, d, 4, bytes.Repeat([]byte{3}, 8))
	crash(t, d, nil, 6)
	has(t, "torn", d, slices.Concat([]byte{2, 2, 2, 2, 3, 3}, bytes.Repeat([]byte{1}, 26)))
}

// The order is that since the last Sync: who was dirty ahead of it has no better place.
func TestTornBehindSync(t *testing.T) {
	d := disk.New(3)
	for _, number := range []int{0, 1, 2} {
		write(t, d, number*sectorSize, []byte{1})
	}
	sync(t, d)
	for _, number := range []int{2, 0, 1, 2} {
		write(t, d, number*sectorSize, []byte{2})
	}
	isDirty(t, "behind Sync", d, 2, 0, 1)
	crash(t, d, nil, 1)
	want := make([]byte, 96)
	want[0], want[32], want[64] = 1, 1, 2
	has(t, "torn", d, want)
}

// What a crash left is what the next one falls back to.
func TestCrashBehindCrash(t *testing.T) {
	d, _, last := stained(t)
	crash(t, d, []int{4, 1, 2, 0}, 0)
	write(t, d, 32, bytes.Repeat([]byte{9}, 64))
	isDirty(t, "behind a crash", d, 1, 2)
	crash(t, d, []int{2}, 3)
	want := laid(laid(last, 32, []byte{9, 9, 9}), 64, bytes.Repeat([]byte{9}, 32))
	has(t, "behind two", d, want)
	write(t, d, 0, bytes.Repeat([]byte{8}, 192))
	crash(t, d, nil, 0)
	has(t, "behind three", d, want)
}

// P5.2: Arm

// does tells the ops that an armed disk is asked for: writes of a byte to one sector after the other, with a Sync behind every third.
func does(d *disk.Disk, op int) api.Errno {
	if op%4 == 3 {
		return d.Sync()
	}
	return d.Write(op%6*sectorSize, []byte{byte(op + 1)})
}

func TestArm(t *testing.T) {
	for ops := 1; ops <= 13; ops++ {
		for _, c := range []struct {
			keep []int
			torn int
		}{{nil, 0}, {nil, 1}, {[]int{0, 2, 4}, 0}, {[]int{5, 4, 3}, 40}, {[]int{0, 1, 2, 3, 4, 5}, -1}} {
			d, twin := disk.New(6), disk.New(6)
			d.Arm(ops, c.keep, c.torn)
			for op := range ops - 1 {
				isErr(t, "ahead of the loss", does(d, op), api.OK)
				isErr(t, "the twin", does(twin, op), api.OK)
			}
			if !slices.Equal(d.Dirty(), twin.Dirty()) {
				t.Errorf("armed: %v are dirty, want %v", d.Dirty(), twin.Dirty())
			}
			isErr(t, "the loss", does(d, ops-1), api.ErrPower)
			isDown(t, "armed", d)
			is(t, "Start", d.Start(), true)
			crash(t, twin, c.keep, c.torn)
			want, _ := twin.Read(0, twin.Size())
			has(t, "as by Crash", d, want)
			for op := range 20 {
				isErr(t, "once alone", does(d, op), api.OK)
			}
		}
	}
}

func TestArmOfNone(t *testing.T) {
	for _, ops := range []int{0, -1, -2, math.MinInt} {
		d := disk.New(6)
		d.Arm(ops, []int{1}, 1)
		for op := range 30 {
			isErr(t, "armed with none", does(d, op), api.OK)
		}
		d.Arm(2, []int{1}, 1)
		d.Arm(ops, []int{1}, 1)
		for op := range 30 {
			isErr(t, "armed with none behind some", does(d, op), api.OK)
		}
	}
	d := disk.New(6)
	d.Arm(math.MaxInt, nil, 0)
	for op := range 30 {
		isErr(t, "armed far off", does(d, op), api.OK)
	}
}

// What would do nothing, or is wrong, is not counted, and answers as ever.
func TestArmCountsWhatDoesSomething(t *testing.T) {
	d, b := written(t, 3)
	idle := func() {
		t.Helper()
		for range 3 {
			isErr(t, "no bytes", d.Write(0, nil), api.OK)
			isErr(t, "no bytes at the end", d.Write(len(b), []byte{}), api.OK)
			isErr(t, "below 0", d.Write(-1, []byte{1}), api.ErrArg)
			isErr(t, "beyond the end", d.Write(len(b), []byte{1}), api.ErrFull)
			isErr(t, "no bytes beyond the end", d.Write(len(b)+1, nil), api.ErrFull)
			_, e := d.Read(0, len(b))
			isErr(t, "Read", e, api.OK)
			is(t, "Start with power", d.Start(), false)
			d.Dirty()
			d.Copy()
		}
	}
	d.Arm(4, nil, 0)
	idle()
	isErr(t, "Sync of nothing", d.Sync(), api.OK)
	write(t, d, 0, b[:1]) // the same byte: its sector is dirty all the same
	idle()
	write(t, d, 0, b[:1])
	idle()
	sync(t, d)
	idle()
	isErr(t, "Sync of nothing", d.Sync(), api.OK)
	isErr(t, "the fourth", d.Write(0, []byte{b[0] + 1}), api.ErrPower)
	isDown(t, "behind the fourth", d)
	is(t, "Start", d.Start(), true)
	has(t, "and it did nothing", d, b)
}

func TestArmOfSync(t *testing.T) {
	d, synced, last := stained(t)
	d.Arm(1, []int{1}, 3)
	isErr(t, "no bytes", d.Write(0, nil), api.OK)
	isErr(t, "the Sync", d.Sync(), api.ErrPower)
	isDown(t, "behind it", d)
	is(t, "Start", d.Start(), true)
	has(t, "it synced nothing", d, taken(taken(synced, last, 1, sectorSize), last, 4, 3))
}

// What is kept is of what is dirty when the power goes; the Write that fails leaves no byte, kept or torn.
func TestArmedWriteLeavesNothing(t *testing.T) {
	d, b := written(t, 3)
	d.Arm(2, []int{0, 1, 2}, 32)
	write(t, d, 40, []byte("kept"))
	isErr(t, "the loss", d.Write(0, make([]byte, 96)), api.ErrPower)
	is(t, "Start", d.Start(), true)
	has(t, "behind it", d, laid(b, 40, []byte("kept")))
	d.Arm(1, nil, 32)
	isErr(t, "the loss", d.Write(0, make([]byte, 96)), api.ErrPower)
	is(t, "Start", d.Start(), true)
	has(t, "behind another", d, laid(b, 40, []byte("kept")))
}

func TestArmAgain(t *testing.T) {
	d, b := written(t, 3)
	d.Arm(2, []int{0}, 9)
	write(t, d, 0, []byte{1})
	d.Arm(2, nil, 0)
	write(t, d, 32, []byte{1})
	isErr(t, "the later one", d.Write(64, []byte{1}), api.ErrPower)
	is(t, "Start", d.Start(), true)
	has(t, "with what the later one keeps", d, b)
}

func TestCrashEndsArm(t *testing.T) {
	d, _, _ := stained(t)
	d.Arm(2, nil, 0)
	write(t, d, 0, []byte{1})
	crash(t, d, nil, 0)
	for op := range 20 {
		isErr(t, "behind a crash", does(d, op), api.OK)
	}
}

// Without power nothing is counted, and a Crash that is none ends nothing.
func TestArmWithoutPower(t *testing.T) {
	d, b := written(t, 3)
	is(t, "Crash", d.Crash(nil, 0), true)
	d.Arm(2, []int{0}, 0)
	for op := range 10 {
		isErr(t, "without power", does(d, op), api.ErrPower)
	}
	is(t, "Crash without power", d.Crash(nil, 0), false)
	is(t, "Start", d.Start(), true)
	write(t, d, 0, []byte{1})
	isErr(t, "the second", d.Write(32, []byte{1}), api.ErrPower)
	is(t, "Start", d.Start(), true)
	has(t, "behind it", d, laid(b, 0, []byte{1}))
}

// R3: what Arm is handed may change behind it.
func TestArmKeepsNoList(t *testing.T) {
	room := []int{1, 2, 9, 9}
	d, synced, last := stained(t)
	d.Arm(1, room[:2], 0)
	if !slices.Equal(room, []int{1, 2, 9, 9}) {
		t.Errorf("Arm changed its list: %v", room)
	}
	room[0], room[1] = 4, 0
	isErr(t, "the loss", d.Sync(), api.ErrPower)
	is(t, "Start", d.Start(), true)
	has(t, "kept as Arm was told", d, taken(taken(synced, last, 1, sectorSize), last, 2, sectorSize))
	if !slices.Equal(room, []int{4, 0, 9, 9}) {
		t.Errorf("the loss changed a list: %v", room)
	}
}

// P5.2: Copy

func TestCopyIsAlike(t *testing.T) {
	d, synced, last := stained(t)
	c := d.Copy()
	has(t, "a copy", c, last)
	isDirty(t, "a copy", c, 4, 1, 2, 0)
	is(t, "a copy's power", c.On(), true)
	if c == d || c.Size() != d.Size() {
		t.Errorf("Size of a copy: %d", c.Size())
	}
	crash(t, c, []int{1}, 2)
	has(t, "a copy's crash", c, taken(taken(synced, last, 1, sectorSize), last, 4, 2))
	is(t, "Crash", d.Crash([]int{1}, 2), true)
	down := d.Copy()
	isDown(t, "a copy without power", down)
	is(t, "Start of the copy", down.Start(), true)
	isDown(t, "the first one still", d)
	has(t, "a copy without power, started", down, taken(taken(synced, last, 1, sectorSize), last, 4, 2))
}

func TestCopyGoesItsOwnWay(t *testing.T) {
	d, synced, last := stained(t)
	c := d.Copy()
	write(t, c, 0, bytes.Repeat([]byte{7}, 192))
	has(t, "the first, behind a copy's Write", d, last)
	isDirty(t, "the first, behind a copy's Write", d, 4, 1, 2, 0)
	write(t, d, 3*sectorSize, []byte{5})
	isDirty(t, "the copy, behind the first's Write", c, 4, 1, 2, 0, 3, 5)
	isDirty(t, "the first, behind both", d, 4, 1, 2, 0, 3)
	sync(t, c)
	isDirty(t, "the first, behind a copy's Sync", d, 4, 1, 2, 0, 3)
	crash(t, d, nil, 0)
	has(t, "the first, crashed", d, synced)
	is(t, "the copy's power", c.On(), true)
	has(t, "the copy", c, bytes.Repeat([]byte{7}, 192))
	write(t, d, 0, []byte{1})
	sync(t, d)
	crash(t, c, nil, 0)
	has(t, "the copy, crashed", c, bytes.Repeat([]byte{7}, 192))
	c.Crash(nil, 0)
	is(t, "the first's power", d.On(), true)
}

// However many are dirty, and whatever room their list has.
func TestCopyHasItsOwnOrder(t *testing.T) {
	for n := range 20 {
		d := disk.New(30)
		var both []int
		for number := range n {
			write(t, d, number*sectorSize, []byte{1})
			both = append(both, number)
		}
		c := d.Copy()
		write(t, c, 28*sectorSize, []byte{1})
		write(t, d, 29*sectorSize, []byte{1})
		isDirty(t, "the copy", c, append(slices.Clone(both), 28)...)
		isDirty(t, "the first", d, append(slices.Clone(both), 29)...)
	}
}

// Both have the loss in store, each counts for itself.
func TestCopyIsArmed(t *testing.T) {
	d, synced, last := stained(t)
	d.Arm(3, []int{2}, 1)
	write(t, d, 0, last[:1])
	c := d.Copy()
	write(t, c, 0, last[:1])
	isErr(t, "the copy's third", c.Sync(), api.ErrPower)
	is(t, "the first's power", d.On(), true)
	write(t, d, 0, last[:1])
	isErr(t, "the first's third", d.Sync(), api.ErrPower)
	want := taken(taken(synced, last, 2, sectorSize), last, 4, 1)
	for _, one := range []*disk.Disk{d, c} {
		is(t, "Start", one.Start(), true)
		has(t, "behind it", one, want)
	}
	d.Arm(1, nil, 0)
	c = d.Copy()
	d.Arm(0, nil, 0)
	write(t, d, 0, []byte{1})
	isErr(t, "the copy, armed still", c.Write(0, []byte{1}), api.ErrPower)
}
