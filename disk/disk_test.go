package disk_test

import (
	"errors"
	"math"
	"slices"
	"testing"

	"bulkhead/api"
	"bulkhead/disk"
	"bulkhead/woe"
)

// beyond are numbers that are no sector of a disk of so many.
func beyond(sectors int) []int {
	return []int{-1, -2, -sectors, sectors, sectors + 1, api.MaxSectors, 1 << 32, math.MinInt, math.MaxInt}
}

// page is bytes that tell n, each byte another one.
func page(n int) disk.Page {
	var p disk.Page
	for i := range p {
		p[i] = byte(n*(2*i+1) + n>>8 + i)
	}
	return p
}

// made is a new disk of so many sectors.
func made(t testing.TB, sectors int) *disk.Disk {
	t.Helper()
	d, err := disk.New(sectors)
	if err != nil || d == nil {
		t.Fatalf("New(%d) answers %v, %v", sectors, d, err)
	}
	return d
}

// is holds an error against a number: that one is found, and no other one.
func is(t testing.TB, err error, want api.Errno) {
	t.Helper()
	if want == api.OK {
		if err != nil {
			t.Errorf("the error is %v, want none", err)
		}
		return
	}
	if err == nil || woe.Number(err) != want {
		t.Errorf("the error is %v, want %v", err, want)
	}
	for n := api.Errno(-1); n < 40; n++ {
		if errors.Is(err, n) != (n == want) {
			t.Errorf("the error is %v: it is taken for %v", err, n)
		}
	}
}

// write writes a page, which is to be done.
func write(t testing.TB, d *disk.Disk, i, n int) {
	t.Helper()
	is(t, d.Write(i, page(n)), api.OK)
}

// flush flushes, which is to be done.
func flush(t testing.TB, d *disk.Disk) {
	t.Helper()
	is(t, d.Flush(), api.OK)
}

// has holds all sectors of a disk against their pages.
func has(t testing.TB, d *disk.Disk, want ...disk.Page) {
	t.Helper()
	if d.Size() != len(want) {
		t.Fatalf("the disk has %d sectors, want %d", d.Size(), len(want))
	}
	for i, p := range want {
		if got, err := d.Read(i); err != nil || got != p {
			t.Errorf("sector %d is %v, %v, want %v", i, got, err, p)
		}
	}
}

// P4.1: New answers a disk for 1 to MaxSectors, and ErrArg, without one, for all others.
func TestNewBounds(t *testing.T) {
	for _, n := range []int{1, 2, 3, 96, api.MaxSectors - 1, api.MaxSectors} {
		if d, err := disk.New(n); err != nil || d == nil || d.Size() != n {
			t.Errorf("New(%d) answers %v, %v", n, d, err)
		}
	}
	for _, n := range []int{0, -1, -4096, api.MaxSectors + 1, 1 << 32, 1<<32 + 1, math.MinInt, math.MaxInt} {
		d, err := disk.New(n)
		is(t, err, api.ErrArg)
		if d != nil {
			t.Errorf("New(%d) answers a disk beside its error", n)
		}
	}
}

// P4.1: a new disk is on, has nothing pending, fuel without end, and zeros in each sector.
func TestNewIsZeros(t *testing.T) {
	for _, n := range []int{1, 2, 100, api.MaxSectors} {
		d := made(t, n)
		if d.Off() || d.Pending() != 0 {
			t.Errorf("of %d sectors: off is %v, pending are %d", n, d.Off(), d.Pending())
		}
		has(t, d, make([]disk.Page, n)...)
		for range 1000 {
			flush(t, d)
		}
		has(t, d, make([]disk.Page, n)...)
	}
}

// P4.1: two new disks are two.
func TestNewDisksAreApart(t *testing.T) {
	first, second := made(t, 2), made(t, 2)
	write(t, first, 0, 1)
	flush(t, first)
	write(t, first, 1, 2)
	has(t, second, disk.Page{}, disk.Page{})
	if second.Pending() != 0 {
		t.Errorf("pending are %d", second.Pending())
	}
}

// P4.1: Read answers the last pending write to the sector, or its firm bytes; no other sector is another one.
func TestReadAndWrite(t *testing.T) {
	d := made(t, 4)
	write(t, d, 1, 1)
	has(t, d, disk.Page{}, page(1), disk.Page{}, disk.Page{})
	write(t, d, 3, 2)
	write(t, d, 1, 3)
	has(t, d, disk.Page{}, page(3), disk.Page{}, page(2))
	flush(t, d)
	has(t, d, disk.Page{}, page(3), disk.Page{}, page(2))
	write(t, d, 0, 4)
	write(t, d, 1, 5)
	has(t, d, page(4), page(5), disk.Page{}, page(2))
	is(t, d.Write(1, disk.Page{}), api.OK)
	has(t, d, page(4), disk.Page{}, disk.Page{}, page(2))
}

// P4.1: the first and the last sector of the greatest disk can be written, and each one between.
func TestWriteEachSector(t *testing.T) {
	d := made(t, api.MaxSectors)
	want := make([]disk.Page, api.MaxSectors)
	for i := range want {
		want[i] = page(i + 1)
		write(t, d, i, i+1)
	}
	has(t, d, want...)
	flush(t, d)
	has(t, d, want...)
	has(t, d.Crash(nil), want...)
}

// P4.1: what is read and what was written are bytes of their own.
func TestPagesAreValues(t *testing.T) {
	d := made(t, 1)
	p := page(1)
	is(t, d.Write(0, p), api.OK)
	p[0]++
	got, _ := d.Read(0)
	got[1]++
	has(t, d, page(1))
	flush(t, d)
	got, _ = d.Read(0)
	got[2]++
	has(t, d, page(1))
}

// P4.1: Pending counts each write, to the same sector and of the same bytes too, and none behind a flush.
func TestPending(t *testing.T) {
	d := made(t, 3)
	for i, at := range []int{0, 2, 2, 2, 1, 0} {
		write(t, d, at, 7)
		if d.Pending() != i+1 {
			t.Errorf("pending are %d, want %d", d.Pending(), i+1)
		}
	}
	flush(t, d)
	if d.Pending() != 0 {
		t.Errorf("behind a flush pending are %d", d.Pending())
	}
	write(t, d, 1, 7)
	if d.Pending() != 1 {
		t.Errorf("pending are %d, want 1", d.Pending())
	}
}

// P4.1: ErrArg of Read and Write, where there is no such sector; then nothing changes, and no step is taken.
func TestNoSuchSector(t *testing.T) {
	for _, n := range []int{1, 10, api.MaxSectors} {
		d := made(t, n)
		write(t, d, n-1, 1)
		d.Fuel(1)
		for _, i := range beyond(n) {
			p, err := d.Read(i)
			is(t, err, api.ErrArg)
			if p != (disk.Page{}) {
				t.Errorf("Read(%d) answers %v beside its error", i, p)
			}
			is(t, d.Write(i, page(2)), api.ErrArg)
		}
		want := make([]disk.Page, n)
		want[n-1] = page(1)
		has(t, d, want...)
		if d.Off() || d.Pending() != 1 {
			t.Errorf("off is %v, pending are %d", d.Off(), d.Pending())
		}
		flush(t, d)
		is(t, d.Flush(), api.ErrOff)
	}
}

// P4.1: without fuel, but still on, a write to no sector is told ErrArg, and the disk stays on.
func TestNoSuchSectorWithoutFuel(t *testing.T) {
	d := made(t, 2)
	d.Fuel(0)
	for _, i := range beyond(2) {
		is(t, d.Write(i, page(1)), api.ErrArg)
	}
	if d.Off() {
		t.Error("it is off")
	}
	d.Fuel(1)
	write(t, d, 0, 1)
}

// P4.1: of a disk that is off ErrOff comes ahead of ErrArg, with zeros beside it.
func TestOffComesFirst(t *testing.T) {
	d := made(t, 2)
	write(t, d, 0, 1)
	d.Fuel(0)
	is(t, d.Flush(), api.ErrOff)
	for _, i := range append(beyond(2), 0, 1) {
		p, err := d.Read(i)
		is(t, err, api.ErrOff)
		if p != (disk.Page{}) {
			t.Errorf("Read(%d) answers %v beside its error", i, p)
		}
		is(t, d.Write(i, page(2)), api.ErrOff)
	}
	if d.Pending() != 1 || d.Size() != 2 {
		t.Errorf("pending are %d, sectors are %d", d.Pending(), d.Size())
	}
}

// P4.1: with fuel for n steps n writes and flushes are done, in whatever mix; the next one is ErrOff, and the disk is off.
func TestFuelIsSteps(t *testing.T) {
	for n := range 7 {
		for mix := range 1 << (n + 1) {
			d := made(t, 1)
			d.Fuel(n)
			step := func(i int) error {
				if mix>>i&1 == 1 {
					return d.Flush()
				}
				return d.Write(0, page(i+1))
			}
			for i := range n {
				is(t, step(i), api.OK)
			}
			if d.Off() {
				t.Fatalf("fuel %d, mix %b: off ahead of the step that isn't left", n, mix)
			}
			pending := d.Pending()
			is(t, step(n), api.ErrOff)
			if !d.Off() || d.Pending() != pending {
				t.Errorf("fuel %d, mix %b: off is %v, pending are %d, want %d", n, mix, d.Off(), d.Pending(), pending)
			}
		}
	}
}

// P4.1: all calls but a write and a flush take no step.
func TestOthersTakeNoStep(t *testing.T) {
	d := made(t, 2)
	write(t, d, 1, 1)
	for _, n := range []int{0, 1, 2} {
		d.Fuel(n)
		for range 5 {
			has(t, d, disk.Page{}, page(1))
			d.Read(2)
			d.Size()
			d.Off()
			d.Pending()
			d.Crash([]int{0})
		}
		for range n {
			write(t, d, 1, 1)
		}
		if d.Off() {
			t.Fatalf("with fuel %d it is off", n)
		}
	}
	is(t, d.Write(1, page(2)), api.ErrOff)
}

// P4.1: fuel below 0 is without end, however far below.
func TestFuelWithoutEnd(t *testing.T) {
	for _, n := range []int{-1, -2, -100, math.MinInt, math.MaxInt} {
		d := made(t, 1)
		d.Fuel(0)
		d.Fuel(n)
		for i := range 1000 {
			write(t, d, 0, i)
			flush(t, d)
		}
		has(t, d, page(999))
	}
}

// P4.1: fuel is what was said last, not that and more.
func TestFuelIsSaidAnew(t *testing.T) {
	d := made(t, 1)
	d.Fuel(5)
	write(t, d, 0, 1)
	d.Fuel(2)
	write(t, d, 0, 2)
	flush(t, d)
	d.Fuel(1)
	write(t, d, 0, 3)
	is(t, d.Write(0, page(4)), api.ErrOff)
	has(t, d.Crash(nil), page(2))
	has(t, d.Crash([]int{0}), page(3))
}

// P4.1: a disk that is off stays off, whatever fuel it gets.
func TestOffStaysOff(t *testing.T) {
	d := made(t, 1)
	write(t, d, 0, 1)
	d.Fuel(0)
	if d.Off() {
		t.Fatal("off ahead of a step")
	}
	is(t, d.Write(0, page(2)), api.ErrOff)
	for _, n := range []int{-1, 0, 5, math.MaxInt, math.MinInt} {
		d.Fuel(n)
		if !d.Off() {
			t.Fatalf("with fuel %d it is on again", n)
		}
		_, err := d.Read(0)
		is(t, err, api.ErrOff)
		is(t, d.Write(0, page(3)), api.ErrOff)
		is(t, d.Flush(), api.ErrOff)
	}
	if d.Pending() != 1 {
		t.Errorf("pending are %d, want 1", d.Pending())
	}
	has(t, d.Crash([]int{0}), page(1))
	has(t, d.Crash(nil), disk.Page{})
}

// P4.1: a flush that isn't done makes nothing firm.
func TestFlushThatIsNotDone(t *testing.T) {
	d := made(t, 2)
	write(t, d, 0, 1)
	write(t, d, 1, 2)
	d.Fuel(0)
	is(t, d.Flush(), api.ErrOff)
	if d.Pending() != 2 {
		t.Errorf("pending are %d, want 2", d.Pending())
	}
	has(t, d.Crash(nil), disk.Page{}, disk.Page{})
	has(t, d.Crash([]int{1}), disk.Page{}, page(2))
}

// P4.1: the chapter's example.
func TestExample(t *testing.T) {
	d := made(t, 5)
	write(t, d, 3, 'a')
	flush(t, d)
	write(t, d, 3, 'b')
	write(t, d, 4, 'c')
	has(t, d.Crash([]int{1}), disk.Page{}, disk.Page{}, disk.Page{}, page('a'), page('c'))
}

// P4.1: Crash keeps the last picked write of each sector, whatever the order and the number of the picks; others name nothing.
func TestCrashPicks(t *testing.T) {
	d := made(t, 2)
	write(t, d, 0, 1)
	write(t, d, 1, 2)
	flush(t, d)
	for n, at := range []int{0, 1, 0, 0} { // pages 10 to 13
		write(t, d, at, 10+n)
	}
	many := make([]int, 100_000)
	for i := range many {
		many[i] = 2 - i
	}
	for _, c := range []struct {
		pick          []int
		first, second int
	}{
		{nil, 1, 2},
		{[]int{}, 1, 2},
		{[]int{0}, 10, 2},
		{[]int{1}, 1, 11},
		{[]int{2}, 12, 2},
		{[]int{3}, 13, 2},
		{[]int{0, 2}, 12, 2},
		{[]int{2, 0}, 12, 2},
		{[]int{3, 2, 0}, 13, 2},
		{[]int{0, 3, 0, 2, 0}, 13, 2},
		{[]int{0, 1, 2, 3}, 13, 11},
		{[]int{1, 1, 1}, 1, 11},
		{[]int{-1, 4, 5, 64, 1 << 32, math.MinInt, math.MaxInt}, 1, 2},
		{[]int{-1, 4, 2, math.MinInt, 1, math.MaxInt}, 12, 11},
		{many, 12, 11},
	} {
		pick := slices.Clone(c.pick)
		x := d.Crash(pick)
		has(t, x, page(c.first), page(c.second))
		if x.Pending() != 0 || x.Off() {
			t.Errorf("behind a crash pending are %d, off is %v", x.Pending(), x.Off())
		}
		if !slices.Equal(pick, c.pick) {
			t.Error("what was picked is another list now")
		}
	}
}

// P4.1: the places of writes are counted anew behind a flush.
func TestCrashCountsFromTheFlush(t *testing.T) {
	d := made(t, 3)
	write(t, d, 0, 1)
	write(t, d, 1, 2)
	flush(t, d)
	write(t, d, 2, 3)
	has(t, d.Crash([]int{0}), page(1), page(2), page(3))
	has(t, d.Crash([]int{1, 2}), page(1), page(2), disk.Page{})
}

// P4.1: the disk that fell is as it was, and it and the one that is left are apart.
func TestCrashLeavesAnotherDisk(t *testing.T) {
	d := made(t, 2)
	write(t, d, 0, 1)
	flush(t, d)
	write(t, d, 0, 2)
	write(t, d, 1, 3)
	x, y := d.Crash([]int{0}), d.Crash([]int{1})
	has(t, d, page(2), page(3))
	if d.Pending() != 2 {
		t.Errorf("pending are %d, want 2", d.Pending())
	}
	write(t, x, 1, 4)
	flush(t, x)
	write(t, y, 0, 5)
	write(t, d, 1, 6)
	flush(t, d)
	has(t, x, page(2), page(4))
	has(t, y, page(5), page(3))
	has(t, d, page(2), page(6))
	has(t, x.Crash(nil), page(2), page(4))
	has(t, y.Crash(nil), page(1), page(3))
	has(t, d.Crash(nil), page(2), page(6))
}

// P4.1: the disk that is left is on, with fuel without end, whatever the one that fell had.
func TestCrashFuel(t *testing.T) {
	for n := -1; n < 3; n++ {
		d := made(t, 1)
		d.Fuel(n)
		for range 3 {
			d.Write(0, page(1))
		}
		off := d.Off()
		x := d.Crash(nil)
		for range 100 {
			write(t, x, 0, 2)
			flush(t, x)
		}
		if d.Off() != off || off != (n >= 0) {
			t.Errorf("fuel %d: the disk that fell is off: %v, %v", n, off, d.Off())
		}
		x.Fuel(0)
		is(t, x.Flush(), api.ErrOff)
		if d.Off() != off {
			t.Errorf("fuel %d: the disk that is left takes the other one's fuel", n)
		}
	}
}

// P4.1: a nil *Disk has no sectors, is off, and Crash of it is nil.
func TestNilDisk(t *testing.T) {
	var d *disk.Disk
	for _, n := range []int{-1, 0, 1, math.MaxInt, math.MinInt} {
		d.Fuel(n)
		p, err := d.Read(n)
		is(t, err, api.ErrOff)
		if p != (disk.Page{}) {
			t.Errorf("Read answers %v", p)
		}
		is(t, d.Write(n, page(1)), api.ErrOff)
		is(t, d.Flush(), api.ErrOff)
		if d.Size() != 0 || d.Pending() != 0 || !d.Off() {
			t.Errorf("sectors are %d, pending are %d, off is %v", d.Size(), d.Pending(), d.Off())
		}
		if d.Crash([]int{n}) != nil || d.Crash(nil) != nil {
			t.Error("something is left of it")
		}
	}
}

// P0: a disk that New didn't make doesn't panic either.
func TestDiskOfNothing(t *testing.T) {
	d := &disk.Disk{}
	for _, i := range beyond(0) {
		d.Read(i)
		d.Write(i, page(1))
		d.Crash([]int{i}).Flush()
		d.Fuel(i)
		d.Flush()
	}
	d.Size()
	d.Off()
	d.Pending()
}

// told is a disk as the words tell it: all writes since the beginning, and how many of them are firm.
type told struct {
	sectors int
	at      []int
	what    []disk.Page
	firm    int
	endless bool
	fuel    int
	off     bool
}

// begun is a disk of zeros.
func begun(sectors int) *told { return &told{sectors: sectors, endless: true} }

func (m *told) step() api.Errno {
	switch {
	case m.off:
		return api.ErrOff
	case m.endless:
		return api.OK
	case m.fuel == 0:
		m.off = true
		return api.ErrOff
	}
	m.fuel--
	return api.OK
}

func (m *told) missing(i int) bool { return i < 0 || i >= m.sectors }

// last is what the last of the first n writes that keeps says of sector i.
func (m *told) last(i, n int, keeps func(int) bool) disk.Page {
	for k := n - 1; k >= 0; k-- {
		if m.at[k] == i && (k < m.firm || keeps(k-m.firm)) {
			return m.what[k]
		}
	}
	return disk.Page{}
}

func (m *told) read(i int) (disk.Page, api.Errno) {
	if m.off {
		return disk.Page{}, api.ErrOff
	}
	if m.missing(i) {
		return disk.Page{}, api.ErrArg
	}
	return m.last(i, len(m.at), func(int) bool { return true }), api.OK
}

func (m *told) write(i int, p disk.Page) api.Errno {
	if m.off {
		return api.ErrOff
	}
	if m.missing(i) {
		return api.ErrArg
	}
	n := m.step()
	if n == api.OK {
		m.at, m.what = append(m.at, i), append(m.what, p)
	}
	return n
}

func (m *told) flush() api.Errno {
	n := m.step()
	if n == api.OK {
		m.firm = len(m.at)
	}
	return n
}

func (m *told) crash(pick []int) *told {
	x := begun(m.sectors)
	for i := range m.sectors {
		x.at = append(x.at, i)
		x.what = append(x.what, m.last(i, len(m.at), func(k int) bool { return slices.Contains(pick, k) }))
	}
	x.firm = len(x.at)
	return x
}

// against holds all that a disk tells against the words.
func against(t *testing.T, d *disk.Disk, m *told) {
	t.Helper()
	if d.Size() != m.sectors || d.Off() != m.off || d.Pending() != len(m.at)-m.firm {
		t.Fatalf("sectors %d, off %v, pending %d; want %d, %v, %d", d.Size(), d.Off(), d.Pending(), m.sectors, m.off, len(m.at)-m.firm)
	}
	for i := -1; i <= m.sectors; i++ {
		p, err := d.Read(i)
		want, n := m.read(i)
		is(t, err, n)
		if p != want {
			t.Fatalf("sector %d is %v, want %v", i, p, want)
		}
	}
}

// chance answers numbers below its argument, the same ones for the same seed.
func chance(seed int) func(n int) int {
	x := uint64(seed)*2654435761 + 12345
	return func(n int) int {
		x ^= x << 13
		x ^= x >> 7
		x ^= x << 17
		return int(x>>8) % n
	}
}

// P4.1: by the words for long runs of all calls, behind falls too.
func TestRunsAgainstTheWords(t *testing.T) {
	for seed := range 300 {
		next := chance(seed)
		sectors := 1 + next(5)
		d, m := made(t, sectors), begun(sectors)
		for n := range 150 {
			switch next(12) {
			case 0, 1:
				is(t, d.Flush(), m.flush())
			case 2:
				if next(3) == 0 {
					fuel := next(20) - 3
					d.Fuel(fuel)
					m.endless, m.fuel = fuel < 0, fuel
				}
			case 3:
				pick := make([]int, next(10))
				for i := range pick {
					pick[i] = next(12) - 2
				}
				x, y := d.Crash(pick), m.crash(pick)
				against(t, x, y)
				if m.off || next(4) == 0 {
					d, m = x, y
				}
			default:
				i := next(sectors+2) - 1
				is(t, d.Write(i, page(n+1)), m.write(i, page(n+1)))
			}
			against(t, d, m)
			if t.Failed() {
				t.Fatalf("run %d, call %d", seed, n)
			}
		}
	}
}

// P4.2: of all short runs of writes and flushes, the last of them not done, whatever a crash keeps: each sector is as it was flushed, or as a later write made it.
func TestFlushedIsNeverLost(t *testing.T) {
	const sectors, calls = 2, 7
	runs := 1
	for range calls {
		runs *= sectors + 1
	}
	for run := range runs {
		d := made(t, sectors)
		var flushed [sectors]disk.Page
		var later [sectors][]disk.Page
		for n, left := 0, run; n < calls; n, left = n+1, left/(sectors+1) {
			if at := left % (sectors + 1); at < sectors {
				write(t, d, at, n+1)
				later[at] = append(later[at], page(n+1))
				continue
			}
			flush(t, d)
			for i := range sectors {
				if len(later[i]) > 0 {
					flushed[i], later[i] = later[i][len(later[i])-1], nil
				}
			}
		}
		d.Fuel(0)
		is(t, d.Flush(), api.ErrOff)
		for picks := range 1 << d.Pending() {
			x := d.Crash(places(picks))
			for i := range sectors {
				p, err := x.Read(i)
				if err != nil || p != flushed[i] && !slices.Contains(later[i], p) {
					t.Fatalf("run %d, picks %b: sector %d is %v, %v", run, picks, i, p, err)
				}
			}
		}
	}
}

// places are those of the bits that are set.
func places(bits int) []int {
	var l []int
	for i := 0; bits>>i > 0; i++ {
		if bits>>i&1 == 1 {
			l = append(l, i)
		}
	}
	return l
}

// P4.2: what was flushed once outlasts any number of falls that keep nothing.
func TestFlushedOutlastsFalls(t *testing.T) {
	d := made(t, 3)
	want := make([]disk.Page, 3)
	for n := range 200 {
		at := n % 3
		if n%5 < 2 {
			write(t, d, at, n+1)
			flush(t, d)
			want[at] = page(n + 1)
		}
		write(t, d, (n+1)%3, 1000+n)
		write(t, d, (n+2)%3, 2000+n)
		d = d.Crash(nil)
		has(t, d, want...)
	}
}
