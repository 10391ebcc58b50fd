package wal_test

import (
	"bytes"
	"slices"
	"testing"

	"indenture/api"
	"indenture/disk"
	"indenture/internal/noise"
	"indenture/sum"
	"indenture/wal"
)

func isErr(t *testing.T, what string, got, want api.Errno) {
	t.Helper()
	if got != want {
		t.Errorf("%s: %v, want %v", what, got, want)
	}
}

// has holds all of a disk against those bytes, with noughts behind.
func has(t *testing.T, what string, d *disk.Disk, want []byte) {
	t.Helper()
	got, e := d.Read(0, d.Size())
	full := make([]byte, d.Size())
	copy(full, want)
	if e != api.OK || !bytes.Equal(got, full) {
		t.Errorf("%s: %v\n%.400x, want\n%.400x", what, e, got, full)
	}
}

func isDirty(t *testing.T, what string, d *disk.Disk, want ...int) {
	t.Helper()
	if got := d.Dirty(); !slices.Equal(got, want) {
		t.Errorf("%s: %v are dirty, want %v", what, got, want)
	}
}

// stands holds what a log says of itself against how many byte strings there are, how many are synced, and its end.
func stands(t *testing.T, what string, l *wal.Log, count, synced, end int) {
	t.Helper()
	if l.Count() != count || l.Synced() != synced || l.End() != end {
		t.Errorf("%s: Count %d, Synced %d, End %d; want %d, %d, %d", what, l.Count(), l.Synced(), l.End(), count, synced, end)
	}
}

// opened opens a disk that has those byte strings, all of which count as synced.
func opened(t *testing.T, what string, d *disk.Disk, want ...[]byte) *wal.Log {
	t.Helper()
	l, told, e := wal.Open(d)
	if e != api.OK || l == nil || !sameTexts(told, want) {
		t.Fatalf("%s: Open: %.40x %v, want %.40x", what, told, e, want)
	}
	stands(t, what, l, len(want), len(want), len(laid(want...)))
	return l
}

// isShut is an Open that answers that error, and nothing beside it.
func isShut(t *testing.T, what string, d *disk.Disk, want api.Errno) {
	t.Helper()
	l, told, e := wal.Open(d)
	if l != nil || len(told) != 0 || e != want {
		t.Errorf("%s: Open: %v %x %v, want %v", what, l, told, e, want)
	}
}

func start(t *testing.T, d *disk.Disk) {
	t.Helper()
	if !d.Start() {
		t.Fatal("Start: false")
	}
}

// crash takes the power and gives it back.
func crash(t *testing.T, d *disk.Disk, keep []int, torn int) {
	t.Helper()
	if !d.Crash(keep, torn) {
		t.Fatal("Crash: false")
	}
	start(t, d)
}

// written is a disk of those sectors that has those bytes, synced.
func written(t *testing.T, sectors int, b []byte) *disk.Disk {
	t.Helper()
	d := disk.New(sectors)
	isErr(t, "Write", d.Write(0, b), api.OK)
	isErr(t, "the disk's Sync", d.Sync(), api.OK)
	return d
}

// P6.2

func TestExample(t *testing.T) {
	d := disk.New(4)
	l := opened(t, "a new disk", d)
	isErr(t, "Append", l.Append([]byte("ab")), api.OK)
	stands(t, "ab", l, 1, 0, 32)
	has(t, "ab", d, laid([]byte("ab")))
	b, _ := d.Read(0, 3)
	if !bytes.Equal(b, []byte{2, 97, 98}) {
		t.Errorf("ab begins with %v", b)
	}
}

func TestAppendedIsTold(t *testing.T) {
	d := disk.New(api.MaxSectors)
	l := opened(t, "a new disk", d)
	var texts [][]byte
	synced := 0
	for i, n := range lengths() {
		text := noise.Bytes(uint32(i), n)
		isErr(t, "Append", l.Append(text), api.OK)
		texts = append(texts, text)
		stands(t, "appended", l, i+1, synced, len(laid(texts...)))
		has(t, "appended", d, laid(texts...))
		if i%3 == 1 {
			isErr(t, "Sync", l.Sync(), api.OK)
			synced = i + 1
			isDirty(t, "synced", d)
		}
		stands(t, "synced or not", l, i+1, synced, len(laid(texts...)))
	}
	opened(t, "opened behind it", d, texts...)
	isErr(t, "Sync", l.Sync(), api.OK)
	crash(t, d, nil, 0)
	l = opened(t, "opened behind a crash", d, texts...)
	isErr(t, "Append", l.Append([]byte("more")), api.OK)
	stands(t, "more", l, len(texts)+1, len(texts), len(laid(texts...))+sectorSize)
	opened(t, "with more", d, append(texts, []byte("more"))...)
}

// Append writes the sectors of its frame, all at once, and no other; it syncs nothing.
func TestAppendWrites(t *testing.T) {
	d := disk.New(8)
	l := opened(t, "a new disk", d)
	isErr(t, "Append", l.Append(noise.Bytes(1, 27)), api.OK)
	isDirty(t, "a frame that ends with its sector", d, 0)
	isErr(t, "Append", l.Append(noise.Bytes(2, 28)), api.OK)
	isDirty(t, "a frame that ends a byte behind", d, 0, 1, 2)
	isErr(t, "Sync", l.Sync(), api.OK)
	d.Arm(2, []int{3, 4, 5}, 0)
	isErr(t, "Append", l.Append(noise.Bytes(3, 80)), api.OK)
	isDirty(t, "a frame of three", d, 3, 4, 5)
	stands(t, "a frame of three", l, 3, 2, 192)
	isErr(t, "the second that does something", l.Append(nil), api.ErrPower)
	start(t, d)
	opened(t, "behind the loss", d, noise.Bytes(1, 27), noise.Bytes(2, 28), noise.Bytes(3, 80))
}

// The frame's noughts are written too: they lie over whatever stands there.
func TestAppendWritesNoughts(t *testing.T) {
	d := disk.New(4)
	l := opened(t, "a new disk", d)
	isErr(t, "Write", d.Write(0, bytes.Repeat([]byte{9}, 128)), api.OK)
	isErr(t, "Append", l.Append(noise.Bytes(1, 40)), api.OK)
	has(t, "over nines", d, slices.Concat(laid(noise.Bytes(1, 40)), bytes.Repeat([]byte{9}, 64)))
}

func TestAppendOfNone(t *testing.T) {
	for _, b := range [][]byte{nil, {}} {
		d := disk.New(2)
		l := opened(t, "a new disk", d)
		isErr(t, "Append of no bytes", l.Append(b), api.OK)
		stands(t, "no bytes", l, 1, 0, 32)
		isErr(t, "Append of no bytes", l.Append(b), api.OK)
		stands(t, "no bytes, twice", l, 2, 0, 64)
		opened(t, "no bytes, twice", d, nil, nil)
		isErr(t, "Append of no bytes where there is no room", l.Append(b), api.ErrFull)
	}
}

func TestAppendOfTooLong(t *testing.T) {
	most := noise.Bytes(1, api.MaxRecord)
	d := disk.New(600)
	l := opened(t, "a new disk", d)
	isErr(t, "Append of MaxRecord bytes", l.Append(most), api.OK)
	stands(t, "MaxRecord", l, 1, 0, 257*sectorSize)
	for _, n := range []int{api.MaxRecord + 1, api.MaxRecord + 2, 1 << 20} {
		isErr(t, "Append of more", l.Append(make([]byte, n)), api.ErrLong)
		stands(t, "behind more", l, 1, 0, 257*sectorSize)
	}
	has(t, "behind more", d, laid(most))
	isErr(t, "Append of MaxRecord bytes again", l.Append(most), api.OK)
	opened(t, "both", d, most, most)
}

func TestAppendHasJustRoom(t *testing.T) {
	for _, n := range []int{0, 26, 27, 28, 59, 60, 100, api.MaxRecord} {
		text := noise.Bytes(uint32(n), n)
		sectors := len(laid(text)) / sectorSize
		d := disk.New(sectors)
		l := opened(t, "a new disk", d)
		isErr(t, "Append that has just room", l.Append(text), api.OK)
		stands(t, "just room", l, 1, 0, d.Size())
		isErr(t, "Sync", l.Sync(), api.OK)
		isErr(t, "Append at the disk's end", l.Append(nil), api.ErrFull)
		stands(t, "full", l, 1, 1, d.Size())
		isDirty(t, "full", d)
		opened(t, "full", d, text)
		if sectors == 1 {
			continue
		}
		d = disk.New(sectors - 1)
		l = opened(t, "a smaller disk", d)
		isErr(t, "Append that lacks a sector", l.Append(text), api.ErrFull)
		stands(t, "a sector is lacking", l, 0, 0, 0)
		has(t, "a sector is lacking", d, nil)
		isDirty(t, "a sector is lacking", d)
	}
}

// Behind one that has no room a smaller one is appended, where that would have been.
func TestAppendBehindFull(t *testing.T) {
	d := disk.New(4)
	l := opened(t, "a new disk", d)
	isErr(t, "Append", l.Append([]byte("first")), api.OK)
	isErr(t, "Append of four sectors", l.Append(make([]byte, 100)), api.ErrFull)
	stands(t, "full", l, 1, 0, 32)
	isDirty(t, "full", d, 0)
	isErr(t, "Append of three sectors", l.Append(make([]byte, 90)), api.OK)
	stands(t, "full", l, 2, 0, 128)
	opened(t, "full", d, []byte("first"), make([]byte, 90))
}

func TestWithoutPower(t *testing.T) {
	d := disk.New(4)
	l := opened(t, "a new disk", d)
	isErr(t, "Append", l.Append([]byte("first")), api.OK)
	isErr(t, "Sync", l.Sync(), api.OK)
	isErr(t, "Append", l.Append([]byte("second")), api.OK)
	if !d.Crash(nil, 0) {
		t.Fatal("Crash: false")
	}
	isErr(t, "Append", l.Append([]byte("third")), api.ErrPower)
	isErr(t, "Append that has no room", l.Append(make([]byte, 200)), api.ErrPower)
	isErr(t, "Append of too many", l.Append(make([]byte, api.MaxRecord+1)), api.ErrLong)
	isErr(t, "Sync", l.Sync(), api.ErrPower)
	stands(t, "without power", l, 2, 1, 64)
	isShut(t, "without power", d, api.ErrPower)
	start(t, d)
	opened(t, "with power", d, []byte("first"))
}

// A loss at the Append or at the Sync leaves the log as it was.
func TestArmedAppendAndSync(t *testing.T) {
	for _, keep := range [][]int{nil, {1}} {
		d := written(t, 4, laid([]byte("first")))
		l := opened(t, "written", d, []byte("first"))
		d.Arm(1, []int{0, 1, 2, 3}, 32)
		isErr(t, "the Append", l.Append([]byte("second")), api.ErrPower)
		stands(t, "the Append", l, 1, 1, 32)
		start(t, d)
		l = opened(t, "behind the Append", d, []byte("first"))
		d.Arm(2, keep, 0)
		isErr(t, "Append", l.Append([]byte("second")), api.OK)
		isErr(t, "the Sync", l.Sync(), api.ErrPower)
		stands(t, "the Sync", l, 2, 1, 64)
		start(t, d)
		opened(t, "behind the Sync", d, [][]byte{[]byte("first"), []byte("second")}[:1+len(keep)]...)
	}
}

// Synced is what Sync said OK to, not what the disk's own did.
func TestSynced(t *testing.T) {
	d := disk.New(8)
	l := opened(t, "a new disk", d)
	isErr(t, "Sync of nothing", l.Sync(), api.OK)
	stands(t, "nothing", l, 0, 0, 0)
	for i := range 3 {
		isErr(t, "Append", l.Append([]byte{byte(i)}), api.OK)
		stands(t, "appended", l, i+1, 0, 32*(i+1))
	}
	isErr(t, "the disk's Sync", d.Sync(), api.OK)
	stands(t, "by the disk", l, 3, 0, 96)
	isErr(t, "Sync", l.Sync(), api.OK)
	stands(t, "synced", l, 3, 3, 96)
	isErr(t, "Append", l.Append(nil), api.OK)
	stands(t, "one more", l, 4, 3, 128)
	isErr(t, "Append of too many", l.Append(make([]byte, api.MaxRecord+1)), api.ErrLong)
	stands(t, "too many", l, 4, 3, 128)
}

func TestOpenOfNone(t *testing.T) {
	for _, d := range []*disk.Disk{nil, {}, new(disk.Disk), disk.New(0), disk.New(api.MaxSectors + 1)} {
		isShut(t, "a disk that no call made", d, api.ErrMade)
	}
	d := written(t, 3, laid([]byte("ab")))
	isErr(t, "Write", d.Write(64, []byte{1}), api.OK)
	if !d.Crash([]int{2}, 0) {
		t.Fatal("Crash: false")
	}
	isShut(t, "without power", d, api.ErrPower)
	isShut(t, "without power still", d, api.ErrPower)
	start(t, d)
	has(t, "and nothing has changed", d, slices.Concat(laid([]byte("ab")), make([]byte, 32), []byte{1}))
}

func TestOpenOfNoughts(t *testing.T) {
	for _, n := range []int{1, 2, api.MaxSectors} {
		d := disk.New(n)
		d.Arm(1, nil, 0)
		l := opened(t, "a new disk", d)
		// What was armed is in store still: Open wrote nothing, and synced nothing.
		isErr(t, "the first that does something", l.Append(nil), api.ErrPower)
	}
}

// Where nothing is to be wiped the disk is not synced, though sectors are dirty.
func TestOpenOfDirty(t *testing.T) {
	d := disk.New(8)
	l := opened(t, "a new disk", d)
	isErr(t, "Append", l.Append(make([]byte, 40)), api.OK)
	l = opened(t, "dirty", d, make([]byte, 40))
	isDirty(t, "opened", d, 0, 1)
	stands(t, "opened", l, 1, 1, 64)
	isErr(t, "Write", d.Write(200, []byte{1}), api.OK)
	opened(t, "dirty, with a byte behind", d, make([]byte, 40))
	isDirty(t, "opened, and wiped", d)
	crash(t, d, nil, 0)
	opened(t, "behind a crash", d, make([]byte, 40))
}

func TestOpenOfFull(t *testing.T) {
	texts := [][]byte{noise.Bytes(1, 27), noise.Bytes(2, 90), []byte("last")}
	d := written(t, 5, laid(texts...))
	l := opened(t, "full", d, texts...)
	isErr(t, "Append", l.Append(nil), api.ErrFull)
	isErr(t, "Sync", l.Sync(), api.OK)
	stands(t, "full", l, 3, 3, 160)
}

// stale is what may stand behind an end: in its first sector, in its last, at a sector's first and last byte.
func stale(end int) [][]byte {
	var l [][]byte
	for _, places := range [][]int{{0}, {31}, {32}, {63}, {end - 1}, {end - 32}, {0, 31, 40, end - 1}, {5, 70, 71, 100}} {
		b := make([]byte, end)
		for _, at := range places {
			b[at] = byte(at + 1)
		}
		l = append(l, b)
	}
	changed := sum.Frame([]byte("ab"))
	changed[0]++
	return append(l, bytes.Repeat([]byte{255}, end), noise.Bytes(9, end), append(changed, make([]byte, end-len(changed))...),
		slices.Concat(make([]byte, 32), laid([]byte("a frame behind")), make([]byte, end-64)))
}

// ahead: logs, behind whose end something stands.
func ahead() [][][]byte {
	return [][][]byte{nil, {[]byte("ab")}, {nil, noise.Bytes(1, 27), noise.Bytes(2, 60)}}
}

func TestOpenWipes(t *testing.T) {
	for _, texts := range ahead() {
		for _, behind := range stale(6 * sectorSize) {
			b := slices.Concat(laid(texts...), behind)
			d := written(t, len(b)/sectorSize, b)
			l := opened(t, "bytes behind", d, texts...)
			has(t, "wiped", d, laid(texts...))
			isDirty(t, "wiped", d)
			crash(t, d, nil, 0)
			has(t, "wiped, and crashed", d, laid(texts...))
			isErr(t, "Append", l.Append([]byte("next")), api.OK)
			opened(t, "and one more", d, append(slices.Clone(texts), []byte("next"))...)
		}
	}
}

// With a loss at each write, and at the sync: nothing is answered, and what was not written is as it was.
func TestLossAsItWipes(t *testing.T) {
	for _, texts := range ahead() {
		for _, behind := range stale(6 * sectorSize) {
			b := slices.Concat(laid(texts...), behind)
			var numbers []int
			for number := len(laid(texts...)) / sectorSize; number < len(b)/sectorSize; number++ {
				if !bytes.Equal(b[number*sectorSize:][:sectorSize], make([]byte, sectorSize)) {
					numbers = append(numbers, number)
				}
			}
			for ops := 1; ops <= len(numbers)+1; ops++ {
				for _, keep := range [][]int{nil, numbers, numbers[:ops/2]} {
					lossAsItWipes(t, texts, b, numbers, ops, keep)
				}
			}
			d := written(t, len(b)/sectorSize, b)
			d.Arm(len(numbers)+2, nil, 0)
			l := opened(t, "no more is done", d, texts...)
			isErr(t, "one more", l.Append(nil), api.ErrPower)
		}
	}
}

// lossAsItWipes has the power go at one of the writes of those sectors, or at the sync behind them.
func lossAsItWipes(t *testing.T, texts [][]byte, b []byte, numbers []int, ops int, keep []int) {
	t.Helper()
	d := written(t, len(b)/sectorSize, b)
	d.Arm(ops, keep, 7)
	isShut(t, "the loss", d, api.ErrPower)
	start(t, d)
	want := bytes.Clone(b)
	torn := 7
	for _, number := range numbers[:ops-1] {
		if slices.Contains(keep, number) {
			clear(want[number*sectorSize:][:sectorSize])
		} else {
			clear(want[number*sectorSize:][:torn])
			torn = 0
		}
	}
	has(t, "the loss", d, want)
	opened(t, "behind the loss", d, texts...)
	has(t, "behind the loss", d, laid(texts...))
}

func TestOpenOfTheGreatest(t *testing.T) {
	d := written(t, api.MaxSectors, noise.Bytes(1, api.MaxSectors*sectorSize))
	l := opened(t, "noise", d)
	has(t, "noise", d, nil)
	var texts [][]byte
	for i := range api.MaxSectors {
		texts = append(texts, noise.Bytes(uint32(i), i%28))
		isErr(t, "Append", l.Append(texts[i]), api.OK)
	}
	isErr(t, "Append", l.Append(nil), api.ErrFull)
	opened(t, "a log of all sectors", d, texts...)
}

// R5

func TestNoCallMade(t *testing.T) {
	none, _, _ := wal.Open(nil)
	for _, l := range []*wal.Log{nil, {}, new(wal.Log), none} {
		for range 2 {
			isErr(t, "Append", l.Append([]byte("ab")), api.ErrMade)
			isErr(t, "Append of no bytes", l.Append(nil), api.ErrMade)
			isErr(t, "Append of too many", l.Append(make([]byte, api.MaxRecord+1)), api.ErrMade)
			isErr(t, "Sync", l.Sync(), api.ErrMade)
			stands(t, "no call made it", l, 0, 0, 0)
		}
	}
}

// R3

func TestAppendKeepsNoBytes(t *testing.T) {
	d := disk.New(8)
	l := opened(t, "a new disk", d)
	room := bytes.Repeat([]byte{77}, 100)
	isErr(t, "Append", l.Append(room[:40]), api.OK)
	if !bytes.Equal(room, bytes.Repeat([]byte{77}, 100)) {
		t.Error("Append changed its bytes, or their room")
	}
	clear(room)
	isErr(t, "Append", l.Append(room[:3]), api.OK)
	opened(t, "behind changed bytes", d, bytes.Repeat([]byte{77}, 40), make([]byte, 3))
}

func TestOpenTellsNewMemory(t *testing.T) {
	texts := some()
	d := written(t, 20, laid(texts...))
	l, first, _ := wal.Open(d)
	_, second, _ := wal.Open(d)
	for _, text := range first {
		clear(text[:cap(text)])
	}
	clear(first[:cap(first)])
	if !sameTexts(second, texts) {
		t.Errorf("behind a changed answer: %.40x", second)
	}
	stands(t, "behind a changed answer", l, len(texts), len(texts), len(laid(texts...)))
	opened(t, "behind a changed answer", d, texts...)
}
