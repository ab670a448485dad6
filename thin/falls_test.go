package thin_test

import (
	"slices"
	"testing"

	"bulkhead/api"
	"bulkhead/disk"
	"bulkhead/pers"
	"bulkhead/thin"
	"bulkhead/woe"
)

// A history is changes of a volume, and what it was behind each of them.
type history struct {
	t      testing.TB
	c      api.Config
	disk   *disk.Disk
	v      *thin.Volume
	states []shape // behind the first 0, 1, .. changes
	least  int     // so many changes may not be lost
}

// start is the history of a new volume.
func start(t testing.TB, c api.Config) *history {
	t.Helper()
	k := made(t, c)
	return &history{t: t, c: c, disk: k, v: mounted(t, k, c), states: []shape{empty(c)}}
}

// A change is a call that changes a volume, and what comes of it.
type change struct {
	call func(v *thin.Volume) error
	does func(x shape) // nil of what settles changes, or changes nothing that is told
	last bool          // with it all changes last
}

// writes is a Write.
func writes(lun, lba int, numbers ...int) change {
	return change{
		call: func(v *thin.Volume) error { return v.Write(lun, lba, data(numbers...)) },
		does: func(x shape) { copy(x.blocks[lun][lba:], some(numbers...)) },
	}
}

// sames is a Same.
func sames(lun, lba, n, number int) change {
	return change{
		call: func(v *thin.Volume) error { return v.Same(lun, lba, n, block(number)) },
		does: func(x shape) { copy(x.blocks[lun][lba:], slices.Repeat(some(number), n)) },
	}
}

// unmaps is an Unmap.
func unmaps(lun, lba, n int) change {
	return change{
		call: func(v *thin.Volume) error { return v.Unmap(lun, lba, n) },
		does: func(x shape) { clear(x.blocks[lun][lba : lba+n]) },
	}
}

// keeps is a Keep, by which all changes last.
func keeps(lun int, x api.Table) change {
	return change{
		call: func(v *thin.Volume) error { return v.Keep(lun, x) },
		does: func(y shape) { y.keep(lun, x) },
		last: true,
	}
}

// syncs is a Sync.
func syncs() change {
	return change{call: func(v *thin.Volume) error { return v.Sync() }, last: true}
}

// cleans is a Clean.
func cleans() change {
	return change{call: func(v *thin.Volume) error { _, err := v.Clean(); return err }}
}

// compares is a Compare of what is there.
func (h *history) compares(lun, lba int, numbers ...int) change {
	there := flat(h.states[len(h.states)-1].blocks[lun][lba : lba+len(numbers)])
	x := writes(lun, lba, numbers...)
	x.call = func(v *thin.Volume) error { _, err := v.Compare(lun, lba, there, data(numbers...)); return err }
	return x
}

// done does a change, and tells whether the disk is on yet. If it isn't, a
// crash may keep the change all the same, wholly; but not one that is refused.
func (h *history) done(x change) bool {
	h.t.Helper()
	err := x.call(h.v)
	if woe.Full(err) {
		return true
	}
	if x.does != nil {
		state := h.states[len(h.states)-1].copy()
		x.does(state)
		h.states = append(h.states, state)
	}
	if err != nil {
		is(h.t, err, api.ErrOff)
		return false
	}
	if x.last {
		h.least = len(h.states) - 1
	}
	return true
}

// same tells whether two shapes are the same.
func (x shape) same(y shape) bool {
	return slices.EqualFunc(x.blocks, y.blocks, slices.Equal) && slices.EqualFunc(x.kept, y.kept, sameTable)
}

// found is the shape of a volume that was mounted behind a fall: behind how many first changes it is that.
func (h *history) found(v *thin.Volume) int {
	h.t.Helper()
	var now shape
	for lun := range v.Luns() {
		var l []disk.Page
		for lba := range v.Size(lun) {
			b, err := v.Read(lun, lba, 1)
			is(h.t, err, api.OK)
			l = append(l, disk.Page(b))
		}
		x, err := v.Kept(lun)
		is(h.t, err, api.OK)
		now.blocks, now.kept = append(now.blocks, l), append(now.kept, x)
	}
	for k := len(h.states) - 1; k >= h.least; k-- {
		if h.states[k].same(now) {
			return k
		}
	}
	h.t.Fatalf("there is nothing that %d to %d first changes made", h.least, len(h.states)-1)
	return 0
}

// fallen is a copy of the history behind a crash: what that didn't find is none of it any more.
func (h *history) fallen(pick []int) *history {
	h.t.Helper()
	x := *h
	x.disk = h.disk.Crash(pick)
	x.v = mounted(x.t, x.disk, x.c)
	k := x.found(x.v)
	lies(x.t, lying(x.t, copied(x.disk), x.c), x.states[k])
	x.states, x.least = slices.Clone(x.states[:k+1]), k
	return &x
}

// picks are choices of so many writes.
func picks(pending int) [][]int {
	chosen := func(fits func(i int) bool) []int {
		return slices.DeleteFunc(every(pending), func(i int) bool { return !fits(i) })
	}
	l := [][]int{nil, every(pending)}
	for _, one := range []int{0, 1, 2, pending / 3, pending / 2, pending - 5, pending - 2, pending - 1} {
		l = append(l,
			chosen(func(i int) bool { return i != one }),
			chosen(func(i int) bool { return i < one }),
			chosen(func(i int) bool { return i > one }))
	}
	next := chance(pending)
	for share := range 8 {
		l = append(l, chosen(func(int) bool { return next(8) <= share }))
	}
	return l
}

// script are changes of each kind: blocks that are written to both units, left, cleaned, kept and synced, so many that the ring goes around.
func script() []change {
	return []change{
		writes(0, 12, 1, 2, 3, 4, 5, 6, 7, 8),
		writes(1, 0, 3, 4, 3, 9),
		keeps(1, table(1, 2)),
		unmaps(0, 13, 2),
		cleans(),
		writes(0, 0, 10, 11, 12, 13, 14, 15, 16, 17),
		sames(1, 3, 6, 20),
		syncs(),
		writes(0, 12, 0, 21, 0, 22, 0, 23),
		cleans(),
		keeps(0, table(5, 1, 3, 4)),
		unmaps(0, 0, 8),
		keeps(1, forgotten(table(2, 2))),
		cleans(),
		writes(1, 5, 1, 2, 3, 4),
		sames(0, 30, 8, 3),
		cleans(),
		writes(0, 20, 31, 32, 33, 34, 35, 36, 37, 38),
		unmaps(1, 0, 8),
		unmaps(0, 12, 8),
		cleans(),
		writes(0, 16, 40),
		syncs(),
		unmaps(0, 20, 8),
		cleans(),
	}
}

// P11.4: the disk off at each step of changes of all kinds, whatever a crash keeps: each unit has what some first ones of the changes made, each wholly, at least those ahead of the last Sync or Keep.
func TestFallsAtEachStep(t *testing.T) {
	c := config(6, 40, 20, 40, 10)
	for fuel := 0; ; fuel++ {
		if fuel > 2000 {
			t.Fatal("there is no end of steps")
		}
		h := start(t, c)
		h.disk.Fuel(fuel)
		ended := true
		for _, x := range script() {
			if !h.done(x) {
				ended = false
				break
			}
		}
		for _, pick := range picks(h.disk.Pending()) {
			h.fallen(pick)
		}
		if ended {
			return
		}
	}
}

// P11.4: behind each change a crash that keeps nothing leaves just what the last Sync or Keep settled, and one that keeps all just all.
func TestWhatIsSettled(t *testing.T) {
	h := start(t, config(6, 40, 20, 40, 10))
	for i, x := range script() {
		if !h.done(x) {
			t.Fatal("it wasn't done")
		}
		if n := len(h.fallen(every(h.disk.Pending())).states); n != len(h.states) {
			t.Fatalf("behind change %d of %d changes %d are there", i, len(h.states)-1, n-1)
		}
		x := h.fallen(nil)
		// Where all is brought home on its way more is settled than that.
		if i < 8 && len(x.states)-1 != h.least {
			t.Fatalf("behind change %d there are %d changes, want %d", i, len(x.states)-1, h.least)
		}
	}
}

// P11.4: a Sync settles all that was done, of all units; so does a Keep, of any unit, also one that changes nothing.
func TestSyncAndKeepSettle(t *testing.T) {
	for _, settles := range []change{
		syncs(), keeps(0, table(1, 2)), keeps(1, table(1, 2)), keeps(0, forgotten(table(1, 2))), keeps(0, pers.None()), keeps(1, pers.None()),
	} {
		// The ring has room for all of it, so nothing is brought home on the way.
		c := config(9, 40, 20, 40, 10)
		c.Ring, c.Sectors = ring+500, c.Sectors+500
		h := start(t, c)
		for i := range 5 {
			for _, x := range []change{
				writes(0, 3*i, 1, i+2), writes(1, i, 1), unmaps(0, 2*i, 1), cleans(), h.compares(1, 5, i+9, i+8),
			} {
				if !h.done(x) {
					t.Fatal("it wasn't done")
				}
			}
			lost := h.fallen(nil)
			if len(lost.states)-1 != h.least {
				t.Fatalf("%d changes were kept, want %d", len(lost.states)-1, h.least)
			}
			if !h.done(settles) {
				t.Fatal("it wasn't done")
			}
			if h.disk.Pending() != 0 {
				t.Fatalf("%d writes are pending", h.disk.Pending())
			}
			if x := h.fallen(nil); len(x.states) != len(h.states) {
				t.Fatalf("%d changes were kept, want %d", len(x.states)-1, len(h.states)-1)
			}
		}
	}
}

// P11.4: the disk off at each step of a Mount, of a disk of zeros and of one that fell with changes: behind another Mount all is there.
func TestFallsInMount(t *testing.T) {
	c := config(6, 40, 20, 40, 10)
	for _, full := range []bool{false, true} {
		h := &history{t: t, c: c, disk: made(t, c), states: []shape{empty(c)}}
		if full {
			h = start(t, c)
			for _, x := range script()[:10] {
				if !h.done(x) {
					t.Fatal("it wasn't done")
				}
			}
			h.disk = copied(h.disk)
			h.least = len(h.states) - 1
		}
		for fuel := 0; ; fuel++ {
			if fuel > 500 {
				t.Fatal("there is no end of steps")
			}
			x := *h
			x.disk = h.disk.Crash(nil)
			x.disk.Fuel(fuel)
			v, err := thin.Mount(x.disk, c)
			if err != nil {
				is(t, err, api.ErrOff)
				if v != nil {
					t.Fatal("a volume is told beside an error")
				}
			}
			for _, pick := range picks(x.disk.Pending()) {
				x.fallen(pick)
			}
			if err == nil {
				break
			}
		}
	}
}

// some change of any kind.
func (h *history) any(next func(n int) int) change {
	lun := next(2)
	n := 1 + next(8)
	lba := next(h.c.Luns[lun] - n + 1)
	var numbers []int
	for range n {
		numbers = append(numbers, next(20))
	}
	switch next(9) {
	case 0:
		return cleans()
	case 1:
		return sames(lun, lba, n, next(20))
	case 2:
		return unmaps(lun, lba, n)
	case 3:
		return h.compares(lun, lba, numbers...)
	case 4:
		return keeps(lun, table(next(99), next(8)))
	case 5:
		return syncs()
	}
	return writes(lun, lba, numbers...)
}

// P11.4: over many falls, in Mount too: what was settled or found once stays, what wasn't found never comes.
func TestManyFalls(t *testing.T) {
	for seed := range 40 {
		next := chance(seed)
		c := config(6, 40, 20, 24, 12)
		c.Sectors += next(20)
		h := start(t, c)
		for range 100 {
			share := next(9)
			pick := func(k *disk.Disk) []int {
				return slices.DeleteFunc(every(k.Pending()), func(int) bool { return next(8) >= share })
			}
			switch next(8) {
			case 0:
				h = h.fallen(pick(h.disk))
			case 1:
				// It falls once more, in the Mount.
				x := *h
				x.disk = h.disk.Crash(pick(h.disk))
				x.disk.Fuel(next(60))
				if v, err := thin.Mount(x.disk, c); err == nil {
					k := x.found(v)
					x.states, x.least = slices.Clone(x.states[:k+1]), k
				}
				h = x.fallen(pick(x.disk))
			case 2:
				h.disk.Fuel(next(80))
			default:
				if !h.done(h.any(next)) {
					h = h.fallen(pick(h.disk))
				}
			}
		}
		h.fallen(nil)
	}
}

// P11.4: a change that was refused for want of room is never found, nor any part of it.
func TestRefusedIsNeverFound(t *testing.T) {
	h := start(t, config(2, 20, 3, 40, 10))
	if !h.done(writes(0, 0, 1, 2, 3, 4, 5, 6)) {
		t.Fatal("it wasn't done")
	}
	for range 3 {
		is(t, h.v.Write(0, 8, data(7, 8, 9)), api.ErrSpace)
		is(t, h.v.Write(0, 15, data(1, 2)), api.OK)
		h.states = append(h.states, h.states[0].copy())
		x := h.states[len(h.states)-1]
		copy(x.blocks[0], some(1, 2, 3, 4, 5, 6))
		copy(x.blocks[0][15:], some(1, 2))
		is(t, h.v.Write(0, 31, data(7, 8)), api.ErrNodes)
		_, err := h.v.Compare(1, 3, data(0, 0), data(0, 1))
		is(t, err, api.ErrNodes)
		is(t, h.v.Sync(), api.OK)
		h.least = len(h.states) - 1
		h = h.fallen(nil)
	}
}
