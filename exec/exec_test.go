package exec_test

import (
	"encoding/binary"
	"math"
	"slices"
	"testing"

	"bulkhead/api"
	"bulkhead/cdb"
	"bulkhead/disk"
	"bulkhead/exec"
	"bulkhead/pers"
	"bulkhead/thin"
)

// P13.1: the constants are the chapter's.
func TestNumbers(t *testing.T) {
	got := []int{exec.Mismatch, exec.NoRoom, exec.Preempted, exec.Released, exec.Removed, exec.Crowded, exec.Illegal, exec.Attention, exec.Protect, exec.Miscompare}
	want := []int{0x1D00, 0x2707, 0x2A03, 0x2A04, 0x2A05, 0x5504, 5, 6, 7, 14}
	if !slices.Equal(got, want) {
		t.Fatalf("the constants are %x, want %x", got, want)
	}
}

// P13.1: New answers ErrArg of no volume, and an executor with the tables that lasted, without news.
func TestNew(t *testing.T) {
	x, err := exec.New(nil)
	is(t, err, api.ErrArg)
	if x != nil {
		t.Fatal("New answers an executor of no volume")
	}
	c := wide(4, 4, 4)
	v := mounted(t, made(t, c), c)
	lasting := api.Table{Gen: 7, Keys: []api.Registrant{{Nexus: 2, Key: 9}, {Nexus: 5, Key: 8}}, Holder: 5, Type: 6, Aptpl: true}
	is(t, v.Keep(1, lasting), api.OK)
	x = on(t, v)
	for lun, want := range []api.Table{pers.None(), lasting, pers.None()} {
		if got := x.Table(lun); !sameTable(got, want) {
			t.Errorf("the table of unit %d is %v, want %v", lun, got, want)
		}
	}
	for _, nexus := range []int{2, 5} {
		o, _, err := x.Do(nexus, 1, test(), nil)
		is(t, err, api.OK)
		alike(t, o, good())
	}
	// What is kept behind New isn't looked at.
	is(t, v.Keep(1, pers.None()), api.OK)
	if got := x.Table(1); !sameTable(got, lasting) {
		t.Errorf("the table is %v, want %v", got, lasting)
	}
}

// P13.1: New tells the error of Kept.
func TestNewOfADiskThatIsOff(t *testing.T) {
	c := wide(4)
	k := made(t, c)
	v := mounted(t, k, c)
	k.Fuel(0)
	is(t, v.Write(0, 0, data(1)), api.ErrOff)
	x, err := exec.New(v)
	is(t, err, api.ErrOff)
	if x != nil {
		t.Error("New answers an executor beside an error")
	}
}

// P13.1: of a unit that there isn't the table is None.
func TestTableOfNoUnit(t *testing.T) {
	r := begun(t, wide(4, 4))
	for lun := range 2 {
		r.orders(1, lun, 0, 0, 0, 7, false)
	}
	for _, lun := range beyond(2) {
		if got := r.x.Table(lun); !sameTable(got, pers.None()) {
			t.Errorf("the table of unit %d is %v", lun, got)
		}
	}
}

// P13.1: Length is the task's.
func TestLength(t *testing.T) {
	_, l := unmap(0, 1)
	p, _ := order(0, 0, 0, 0, false)
	bad := p
	bad[1] = 7
	for _, k := range []struct {
		b    [16]byte
		want int
	}{
		{test(), 0}, {inquire(36), 0}, {report(16), 0}, {cap10(), 0}, {cap16(32), 0}, {tells(0, 9), 0},
		{p, 24}, {bad, 0}, {[16]byte{0x5F, 8: 23}, 0}, {[16]byte{0x42, 8: 24}, len(l)}, {[16]byte{0x42}, 0}, {[16]byte{0x42, 8: 8}, 0},
		{reads(3, 8), 0}, {writes(3, 0), 0}, {writes(2, 1), 64}, {writes(3, 8), 512}, {writes(3, 9), 0}, {fua(writes(4, 2)), 128},
		{same(2, 1), 64}, {same(3, 8), 64}, {same(3, 0), 0}, {compares(1, 1), 128}, {compares(1, 8), 1024}, {compares(1, 9), 0},
		{syncs(0, 5), 0}, {[16]byte{0x77}, 0}, {[16]byte{0x2A, 1, 8: 1}, 0},
	} {
		if got := exec.Length(k.b); got != k.want {
			t.Errorf("of % x the length is %d, want %d", k.b, got, k.want)
		}
	}
	n := chance(1)
	for range 20000 {
		b := whatever(n)
		if k, _ := cdb.Decode(b); exec.Length(b) != k.Length {
			t.Fatalf("of % x the length is %d, want %d", b, exec.Length(b), k.Length)
		}
	}
}

// P13.1: who isn't 0 to 7 gets ErrArg ahead of all else, with zeros.
func TestNoNexus(t *testing.T) {
	r := begun(t, wide(4))
	for _, nexus := range beyond(8) {
		for _, lun := range []int{0, 1, -1} {
			for _, b := range [][16]byte{test(), inquire(36), report(16), {0x77}, writes(0, 1)} {
				o, gone, err := r.x.Do(nexus, lun, b, data(1))
				is(t, err, api.ErrArg)
				if o.Status != 0 || o.Sense != (api.Sense{}) || o.Data != nil || gone != nil {
					t.Errorf("nexus %d: beside the error are %v and %v", nexus, o, gone)
				}
			}
		}
	}
	r.looked()
	for nexus := range 8 {
		r.want(good(), nexus, 0, writes(uint64(nexus%4), 1), data(nexus))
	}
}

// Rule 7: a nil executor answers, and doesn't panic; nor does one that came about otherwise (P0).
func TestNil(t *testing.T) {
	var x *exec.Exec
	if x.Volume() != nil || !sameTable(x.Table(0), pers.None()) || !sameTable(x.Table(-1), pers.None()) {
		t.Error("a nil executor has something")
	}
	for _, nexus := range []int{0, 7, 8, -1} {
		for _, b := range [][16]byte{test(), inquire(36), report(16), {0x77}} {
			o, gone, err := x.Do(nexus, 0, b, nil)
			is(t, err, api.ErrArg)
			if o.Status != 0 || o.Sense != (api.Sense{}) || o.Data != nil || gone != nil {
				t.Errorf("beside the error are %v and %v", o, gone)
			}
		}
	}
	hollow, err := exec.New(&thin.Volume{})
	is(t, err, api.OK)
	n := chance(2)
	for _, x := range []*exec.Exec{{}, hollow} {
		if !sameTable(x.Table(0), pers.None()) {
			t.Error("an executor of no units has a table")
		}
		for range 5000 {
			b := whatever(n)
			o, _, err := x.Do(n(8), n(5)-1, b, make([]byte, exec.Length(b)))
			is(t, err, api.OK)
			if k, _ := cdb.Decode(b); k.Do != api.DoInquiry && k.Do != api.DoLuns {
				alike(t, o, check(5, 0x2500))
			}
		}
	}
}

// P13.1: DoTest is Good.
func TestTest(t *testing.T) {
	r := begun(t, wide(4, 4))
	for nexus := range 8 {
		r.want(good(), nexus, nexus%2, test(), nil)
		r.want(good(), nexus, nexus%2, test(), []byte{})
	}
}

// P13.1: DoLuns tells all units, as many bytes as are asked for, whatever the unit.
func TestReport(t *testing.T) {
	for units := 1; units <= 4; units++ {
		c := wide(slices.Repeat([]int{4}, units)...)
		r := begun(t, c)
		all := []byte{0, 0, 0, byte(8 * units), 0, 0, 0, 0}
		for lun := range units {
			all = append(all, 0, byte(lun), 0, 0, 0, 0, 0, 0)
		}
		for n := range 50 {
			for _, lun := range []int{0, units - 1, units, -1} {
				r.want(good(all[:min(n, len(all))]...), n%8, lun, report(byte(n)), nil)
			}
		}
		r.want(good(all...), 0, 0, [16]byte{0xA0, 6: 255, 7: 255, 8: 255, 9: 255}, nil)
	}
}

// P13.1: DoInquiry tells what a unit is, as many bytes as are asked for.
func TestInquiry(t *testing.T) {
	r := begun(t, wide(4, 4))
	for _, k := range []struct {
		lun  int
		unit byte
	}{{0, 0}, {1, 0}, {2, 0x7F}, {-1, 0x7F}, {math.MaxInt, 0x7F}, {math.MinInt, 0x7F}} {
		all := append([]byte{k.unit, 0, 6, 2, 31, 0, 0, 0}, "BULKHEADTHIN UNIT       0001"...)
		if len(all) != 31+5 {
			t.Fatal("the text has another length than is told")
		}
		pages := []byte{k.unit, 0, 0, 2, 0, 0x80}
		for n := range 50 {
			r.want(good(all[:min(n, 36)]...), 0, k.lun, inquire(byte(n)), nil)
			r.want(good(pages[:min(n, 6)]...), 0, k.lun, vital(0, byte(n)), nil)
		}
		r.want(good(all...), 0, k.lun, [16]byte{0x12, 3: 255, 4: 255}, nil)
		r.want(good(all...), 0, k.lun, [16]byte{0x12, 3: 1}, nil)
	}
}

// P13.1: page 80 of a DoInquiry has the digit of the lowest three bits of the unit's number; all others but page 0 are Field.
func TestPages(t *testing.T) {
	r := begun(t, wide(4, 4, 4))
	for lun, digit := range map[int]byte{0: '0', 1: '1', 2: '2', 3: '3', 7: '7', 8: '0', 13: '5', -1: '7', -2: '6', -8: '0', math.MinInt: '0', math.MaxInt: '7'} {
		unit := byte(0x7F)
		if lun >= 0 && lun < 3 {
			unit = 0
		}
		all := []byte{unit, 0x80, 0, 2, 'U', digit}
		for n := range 9 {
			r.want(good(all[:min(n, 6)]...), 1, lun, vital(0x80, byte(n)), nil)
		}
		for p := range 256 {
			if p != 0 && p != 0x80 {
				r.want(check(5, 0x2400), 1, lun, vital(byte(p), 9), nil)
			}
		}
	}
}

// P13.1: DoCap10 and DoCap16 tell the last block, and how great one is.
func TestCapacity(t *testing.T) {
	c := config(2, 4, 40, 1, 256, 17)
	r := begun(t, c)
	for lun, last := range [][]byte{{0, 0, 0, 0}, {0, 0, 0, 255}, {0, 0, 0, 16}} {
		r.want(good(append(slices.Clone(last), 0, 0, 0, 64)...), 3, lun, cap10(), nil)
		all := append([]byte{0, 0, 0, 0}, last...)
		all = append(all, 0, 0, 0, 64, 0, 0, 0xC0)
		all = append(all, make([]byte, 17)...)
		for n := range 50 {
			r.want(good(all[:min(n, 32)]...), 3, lun, cap16(byte(n)), nil)
		}
		r.want(good(all...), 3, lun, [16]byte{0x9E, 0x10, 10: 255}, nil)
	}
}

// P13.1: DoPrIn tells registrations and the reservation of that unit, as many bytes as are asked for.
func TestReservationsTold(t *testing.T) {
	r := begun(t, wide(4, 4))
	told := func(lun int, action byte, all ...byte) {
		t.Helper()
		for n := range 60 {
			r.want(good(all[:min(n, len(all))]...), n%8, lun, tells(action, byte(n)), nil)
		}
		r.want(good(all...), 0, lun, [16]byte{0x5E, action, 7: 255}, nil)
	}
	told(0, 0, make([]byte, 8)...)
	told(0, 1, make([]byte, 8)...)
	r.orders(6, 1, 0, 0, 0, 0xFEDCBA9876543210, false)
	r.orders(2, 1, 0, 0, 0, 0x0102030405060708, false)
	keys := []byte{1, 2, 3, 4, 5, 6, 7, 8, 0xFE, 0xDC, 0xBA, 0x98, 0x76, 0x54, 0x32, 0x10}
	told(1, 0, append([]byte{0, 0, 0, 2, 0, 0, 0, 16}, keys...)...)
	told(1, 1, 0, 0, 0, 2, 0, 0, 0, 0)
	told(0, 0, make([]byte, 8)...)
	for _, kind := range []byte{1, 3, 5, 6, 7, 8} {
		r.orders(6, 1, 1, int(kind), 0xFEDCBA9876543210, 0, false)
		holder := keys[8:]
		if kind > 6 {
			holder = make([]byte, 8)
		}
		all := append([]byte{0, 0, 0, 2, 0, 0, 0, 16}, holder...)
		told(1, 1, append(all, 0, 0, 0, 0, 0, kind, 0, 0)...)
		r.orders(6, 1, 2, int(kind), 0xFEDCBA9876543210, 0, false)
		if kind > 3 {
			r.want(check(6, 0x2A04), 2, 1, test(), nil)
		}
	}
	told(1, 1, 0, 0, 0, 2, 0, 0, 0, 0)
	told(0, 1, make([]byte, 8)...)
}

// P13.1: all four bytes of Gen are told.
func TestGen(t *testing.T) {
	c := wide(4)
	v := mounted(t, made(t, c), c)
	is(t, v.Keep(0, api.Table{Gen: 0xF1E2D3FF, Keys: []api.Registrant{{Nexus: 0, Key: 1}}, Holder: 0, Type: 1, Aptpl: true}), api.OK)
	x := on(t, v)
	b, l := order(0, 0, 1, 2, true)
	o, _, err := x.Do(0, 0, b, l)
	is(t, err, api.OK)
	alike(t, o, good())
	for action := range byte(2) {
		o, _, err := x.Do(0, 0, tells(action, 4), nil)
		is(t, err, api.OK)
		alike(t, o, good(0xF1, 0xE2, 0xD4, 0))
	}
}

// P13.1: of several things that are wrong the first one of the list is told.
func TestWhatIsToldFirst(t *testing.T) {
	r := begun(t, wide(4, 4))
	bad := [16]byte{0x77}
	field := [16]byte{0x2A, 1, 8: 1}
	// What there is, is told with data too that isn't awaited; a page that there isn't of no unit too.
	r.want(good(0x7F), 0, 9, inquire(1), data(1))
	r.want(good(0, 0), 0, 9, report(2), data(1))
	r.want(check(5, 0x2400), 0, 9, vital(1, 9), nil)
	// An inquiry that asks for nothing is like any other command.
	r.want(check(5, 0x2500), 0, 9, [16]byte{0x12, 2}, nil)
	r.want(check(5, 0x2500), 0, 9, [16]byte{0xA0, 2: 3}, nil)
	r.want(check(5, 0x2400), 0, 1, [16]byte{0x12, 2}, nil)
	r.want(check(5, 0x2400), 0, 1, [16]byte{0xA0, 2: 3}, nil)
	for _, lun := range append(beyond(2), 2, 3) {
		for _, b := range [][16]byte{bad, field, test(), reads(0, 1), reads(9, 9), writes(0, 1)} {
			r.want(check(5, 0x2500), 0, lun, b, nil)
		}
	}
	// News of the unit come ahead of what the bytes ask for, and are heard at that unit alone.
	r.orders(1, 0, 0, 0, 0, 7, false)
	for _, b := range [][16]byte{bad, field, writes(0, 1), reads(9, 1), {0x12, 2}, {0xA0, 2: 3}} {
		r.orders(2, 0, 0, 0, 0, 8, false)
		r.orders(1, 0, 4, 0, 7, 8, false)
		r.want(check(5, 0x2500), 2, 2, test(), nil)
		r.want(good(), 2, 1, test(), nil)
		r.want(good(0), 2, 0, inquire(1), nil)
		r.want(good(0, 0), 2, 0, report(2), nil)
		r.want(check(6, 0x2A05), 2, 0, b, nil)
		r.want(good(), 2, 0, test(), nil)
	}
	// The code comes ahead of Conflict, Conflict ahead of ListLength, that ahead of what is wrong with the blocks.
	r.orders(1, 0, 1, 3, 7, 0, false)
	r.want(check(5, 0x2400), 2, 0, field, nil)
	r.want(check(5, 0x2000), 2, 0, bad, nil)
	r.want(conflict(), 2, 0, writes(0, 1), nil)
	r.want(conflict(), 2, 0, writes(9, 1), data(1))
	r.want(conflict(), 2, 0, reads(9, 1), data(1))
	r.want(conflict(), 2, 0, [16]byte{0x42}, nil)
	r.want(check(5, 0x1A00), 1, 0, writes(9, 1), nil)
	r.want(check(5, 0x1A00), 1, 0, reads(9, 1), data(1))
	r.want(check(5, 0x2100), 1, 0, writes(9, 1), data(1))
	r.looked()
}

// P13.1: data that hasn't Length bytes is ListLength, and changes nothing.
func TestDataOfAnotherLength(t *testing.T) {
	r := begun(t, wide(12, 4))
	r.want(good(), 0, 0, writes(0, 4), data(1, 2, 3, 4))
	u, _ := unmap(0, 1)
	p, _ := order(0, 0, 0, 5, false)
	for _, b := range [][16]byte{test(), cap10(), cap16(32), tells(0, 9), tells(1, 9), p, u, {0x42}, reads(0, 1), reads(0, 0), writes(0, 0), writes(0, 1), writes(1, 8), same(0, 3), compares(0, 1), compares(0, 4), syncs(0, 1)} {
		for n := range 1100 {
			if n == exec.Length(b) {
				continue
			}
			if n > 70 && n%64 > 1 && n%64 < 63 {
				continue
			}
			r.want(check(5, 0x1A00), n%8, 0, b, make([]byte, n))
		}
	}
	r.looked()
}

// P13.1: what was written last is read, of that unit alone.
func TestReadsAndWrites(t *testing.T) {
	r := begun(t, wide(20, 20))
	r.want(good(make([]byte, 512)...), 0, 1, reads(12, 8), nil)
	r.want(good(), 0, 0, writes(3, 1), data(5))
	r.want(good(), 7, 0, writes(4, 3), data(6, 7, 8))
	r.want(good(data(0, 5, 6, 7, 8, 0)...), 1, 0, reads(2, 6), nil)
	r.want(good(data(0, 0, 0)...), 1, 1, reads(3, 3), nil)
	r.want(good(), 2, 0, writes(5, 1), data(9))
	r.want(good(), 2, 1, writes(12, 8), data(1, 2, 3, 4, 5, 6, 7, 8))
	r.want(good(data(5, 6, 9, 8)...), 3, 0, reads(3, 4), nil)
	r.want(good(data(1, 2, 3, 4, 5, 6, 7, 8)...), 3, 1, reads(12, 8), nil)
	r.looked()
	// No blocks are within a unit up to its end.
	for _, lba := range []uint64{0, 1, 19, 20} {
		r.want(good(), 0, 0, reads(lba, 0), nil)
		r.want(good(), 0, 0, writes(lba, 0), nil)
	}
	r.looked()
}

// P13.1: blocks that aren't within the unit are Beyond, and nothing changes.
func TestBeyond(t *testing.T) {
	r := begun(t, wide(20, 9))
	r.want(good(), 0, 0, writes(12, 8), data(1, 2, 3, 4, 5, 6, 7, 8))
	r.want(good(), 0, 1, writes(1, 8), data(1, 2, 3, 4, 5, 6, 7, 8))
	far := []uint64{256, 4096, 1 << 16, 1<<31 - 1, 1 << 31, 1<<32 - 1, 1 << 32, 1<<32 + 1, 1 << 62, 1<<63 - 1, 1 << 63, 1<<63 + 1, math.MaxUint64 - 8, math.MaxUint64 - 7, math.MaxUint64 - 1, math.MaxUint64}
	for lun, size := range r.c.Luns {
		for n := range 9 {
			for _, lba := range append([]uint64{uint64(size - n + 1), uint64(size - n + 2), uint64(size + 1)}, far...) {
				if int(lba) == size-n {
					continue
				}
				u, l := unmap(lba, uint32(n))
				r.want(check(5, 0x2100), 0, lun, u, l)
				r.want(check(5, 0x2100), 0, lun, reads(lba, n), nil)
				r.want(check(5, 0x2100), 0, lun, fua(reads(lba, n)), nil)
				r.want(check(5, 0x2100), 0, lun, writes(lba, n), make([]byte, 64*n))
				r.want(check(5, 0x2100), 0, lun, syncs(lba, n), nil)
				if n > 0 {
					r.want(check(5, 0x2100), 0, lun, same(lba, n), data(3))
					r.want(check(5, 0x2100), 0, lun, compares(lba, n), make([]byte, 128*n))
				}
			}
			// The last ones are within it.
			r.want(good(data(0, 1, 2, 3, 4, 5, 6, 7, 8)[64*(9-n):]...), 0, lun, reads(uint64(size-n), n), nil)
		}
		r.want(check(5, 0x2100), 0, lun, syncs(0, size+1), nil)
		r.want(check(5, 0x2100), 0, lun, long(0x91, 0, 1, math.MaxUint32), nil)
		r.want(good(), 0, lun, syncs(0, size), nil)
		r.want(good(), 0, lun, syncs(uint64(size), 0), nil)
	}
	r.looked()
}

// P13.1: DoSame puts the one block to each place, whether it may unmap or not.
func TestSame(t *testing.T) {
	r := begun(t, wide(20, 20))
	r.want(good(), 0, 0, same(2, 8), data(4))
	r.want(good(), 0, 1, same(19, 1), data(5))
	r.want(good(data(0, 4, 4, 4, 4, 4, 4, 4)...), 0, 0, reads(1, 8), nil)
	r.want(good(data(4, 0)...), 0, 0, reads(9, 2), nil)
	r.want(good(data(0, 5)...), 0, 1, reads(18, 2), nil)
	b := same(4, 2)
	b[1] = 8
	r.want(good(), 0, 0, b, data(6))
	r.want(good(data(4, 6, 6, 4)...), 0, 0, reads(3, 4), nil)
	r.want(good(), 0, 0, b, data(0))
	r.want(good(data(4, 0, 0, 4)...), 0, 0, reads(3, 4), nil)
	r.want(check(5, 0x2400), 0, 0, same(0, 9), data(1))
	r.want(check(5, 0x2400), 0, 0, same(0, 0), data(1))
	r.looked()
}

// P13.1: DoUnmap makes the blocks zeros that its list names.
func TestUnmap(t *testing.T) {
	r := begun(t, wide(20, 20))
	for _, lun := range []int{0, 1} {
		r.want(good(), 0, lun, writes(0, 8), data(1, 2, 3, 4, 5, 6, 7, 8))
		r.want(good(), 0, lun, writes(12, 8), data(1, 2, 3, 4, 5, 6, 7, 8))
	}
	for _, k := range [][2]int{{2, 1}, {4, 2}, {12, 8}, {0, 0}, {20, 0}} {
		b, l := unmap(uint64(k[0]), uint32(k[1]))
		r.want(good(), 0, 0, b, l)
		r.looked()
	}
	r.want(good(data(1, 2, 0, 4, 0, 0, 7, 8)...), 0, 0, reads(0, 8), nil)
	r.want(good(make([]byte, 512)...), 0, 0, reads(12, 8), nil)
	r.want(good(data(1, 2, 3, 4, 5, 6, 7, 8)...), 0, 1, reads(12, 8), nil)
	// Without a list nothing changes.
	r.want(good(), 0, 0, [16]byte{0x42}, nil)
	r.looked()
}

// P13.1: a list of DoUnmap that says other lengths than it has, or names too many blocks, is ListField; what else it has plays no part.
func TestUnmapsList(t *testing.T) {
	r := begun(t, wide(20))
	r.want(good(), 0, 0, writes(0, 8), data(1, 2, 3, 4, 5, 6, 7, 8))
	for i := range 24 {
		for x := range 256 {
			b, l := unmap(3, 2)
			l[i] = byte(x)
			switch was := []byte{0: 0, 1: 22, 2: 0, 3: 16, 16: 0, 18: 0}; {
			case i < 4 && byte(x) != was[i], i > 15 && i < 19 && x > 0, i == 19 && x > 8:
				r.want(check(5, 0x2600), 0, 0, b, l)
			case i > 7 && i < 15 && x > 0, i == 15 && x > 18:
				r.want(check(5, 0x2100), 0, 0, b, l)
			default:
				r.want(good(), 0, 0, b, l)
			}
		}
		r.want(good(), 0, 0, writes(0, 8), data(1, 2, 3, 4, 5, 6, 7, 8))
	}
	// What is wrong with the list comes ahead of what is wrong with the blocks.
	b, l := unmap(99, 9)
	r.want(check(5, 0x2600), 0, 0, b, l)
	b, l = unmap(99, 1)
	l[1] = 23
	r.want(check(5, 0x2600), 0, 0, b, l)
	r.looked()
}

// P13.1: DoCompare writes, if all is as expected; else it tells where the first byte differs, and changes nothing.
func TestCompare(t *testing.T) {
	r := begun(t, wide(20))
	r.want(good(), 0, 0, writes(3, 8), data(1, 2, 3, 4, 5, 6, 7, 8))
	differs := func(at int) api.Outcome {
		o := check(14, 0x1D00)
		o.Data = binary.BigEndian.AppendUint32(nil, uint32(at))
		return o
	}
	for at := range 512 {
		l := data(1, 2, 3, 4, 5, 6, 7, 8)
		l[at]++
		l[511] ^= byte(at + 1)
		r.want(differs(at), 0, 0, compares(3, 8), append(l, data(9, 9, 9, 9, 9, 9, 9, 9)...))
		if at < 64 {
			r.want(differs(at), 0, 0, fua(compares(3, 1)), append(l[:64], data(9)...))
		}
	}
	r.looked()
	r.want(differs(0), 0, 0, compares(2, 1), data(1, 1))
	r.want(good(), 0, 0, compares(3, 2), data(1, 2, 9, 0))
	r.want(good(), 0, 0, compares(3, 8), data(9, 0, 3, 4, 5, 6, 7, 8, 11, 12, 13, 14, 15, 16, 17, 18))
	r.want(good(data(0, 11, 12, 13, 14, 15, 16, 17)...), 0, 0, reads(2, 8), nil)
	r.want(good(), 0, 0, compares(19, 1), data(0, 3))
	r.want(check(5, 0x2400), 0, 0, compares(3, 0), nil)
	r.want(check(5, 0x2400), 0, 0, compares(3, 9), nil)
	r.looked()
}

// P13.1: DoSync settles, as Fua does behind a read, a write and a compare that is done; nothing else does.
func TestSettling(t *testing.T) {
	r := begun(t, wide(20))
	u, ul := unmap(2, 2)
	differ := data(9, 1)
	for i, k := range []struct {
		b       [16]byte
		come    []byte
		settles bool
	}{
		{syncs(0, 0), nil, true}, {syncs(19, 1), nil, true}, {syncs(20, 1), nil, false},
		{fua(reads(4, 1)), nil, true}, {fua(reads(4, 0)), nil, true}, {reads(4, 1), nil, false}, {fua(reads(20, 1)), nil, false},
		{fua(writes(5, 1)), data(3), true}, {fua(writes(5, 0)), nil, true}, {writes(5, 1), data(4), false}, {fua(writes(20, 1)), data(3), false}, {fua(writes(5, 1)), data(3, 3), false},
		{fua(compares(5, 1)), nil, true}, {compares(5, 1), nil, false}, {fua(compares(5, 1)), differ, false},
		{same(7, 3), data(8), false}, {fua(same(7, 3)), data(8), false}, {u, ul, false}, {[16]byte{0x42}, nil, false},
		{test(), nil, false}, {cap10(), nil, false}, {cap16(9), nil, false}, {tells(0, 9), nil, false}, {inquire(9), nil, false}, {report(9), nil, false}, {[16]byte{0x77}, nil, false},
	} {
		r.want(good(), 0, 0, writes(0, 1), data(i+20))
		if r.disk.Pending() == 0 {
			t.Fatal("a write is firm at once")
		}
		come := k.come
		if k.b[0] == 0x89 && come == nil {
			come = slices.Concat(r.blocks[0][5][:], data(i))
		}
		r.do(0, 0, k.b, come)
		if settled := r.disk.Pending() == 0; settled != k.settles {
			t.Errorf("%d: settled is %v, want %v", i, settled, k.settles)
		}
	}
	r.looked()
}

// P13.1, P13.3: where there is no room for a block, a print or a node, that is NoRoom, and nothing changes.
func TestNoRoom(t *testing.T) {
	for _, c := range []api.Config{config(2, 30, 20, 40, 40), config(6, 5, 20, 40, 40), config(6, 30, 2, 40, 40)} {
		r := begun(t, c)
		r.want(good(), 0, 0, writes(3, 5), data(1, 2, 3, 4, 5))
		full := check(7, 0x2707)
		for _, b := range [][16]byte{writes(14, 8), fua(writes(14, 8))} {
			r.want(full, 0, 0, b, data(11, 12, 13, 14, 15, 16, 17, 18))
			r.looked()
		}
		r.want(full, 0, 0, compares(14, 8), append(make([]byte, 512), data(11, 12, 13, 14, 15, 16, 17, 18)...))
		r.looked()
		// What needs no room is done.
		r.want(good(), 0, 0, writes(3, 3), data(2, 1, 1))
		r.do(0, 0, fua(reads(3, 5)), nil)
		u, l := unmap(0, 8)
		r.want(good(), 0, 0, u, l)
		r.looked()
	}
	r := begun(t, config(2, 30, 2, 40, 40))
	r.want(good(), 0, 0, same(3, 5), data(1))
	r.want(check(7, 0x2707), 0, 0, same(14, 8), data(1))
	r.want(check(7, 0x2707), 0, 1, same(14, 1), data(1))
	r.want(good(), 0, 1, same(14, 1), data(0))
	r.looked()
}

// P13.1: an order's list may have the lowest bit of its byte 20, and no other one; its bytes that aren't named play no part.
func TestOrdersList(t *testing.T) {
	r := begun(t, wide(4))
	for i := range 24 {
		for x := range 256 {
			b, l := order(6, 0, 0, 0x0101010101010101, false)
			l[i] = byte(x)
			if i == 20 && x > 1 {
				r.want(check(5, 0x2600), 0, 0, b, l)
			} else {
				r.want(good(), 0, 0, b, l)
			}
			if i == 20 && x == 1 != r.x.Table(0).Aptpl && x < 2 {
				t.Fatal("the lowest bit of byte 20 isn't Aptpl")
			}
		}
	}
	// That is told ahead of what the table says.
	b, l := order(1, 1, 99, 0, false)
	l[20] = 2
	r.want(check(5, 0x2600), 3, 0, b, l)
	r.looked()
}

// P13.1: what an order's fields say reaches the table, and what the table says is told.
func TestOrders(t *testing.T) {
	r := begun(t, wide(4, 4))
	const deep, other = 0x8877665544332211, 0x0123456789ABCDEF
	r.orders(3, 0, 0, 0, 0, deep, true)
	want := api.Table{Gen: 1, Keys: []api.Registrant{{Nexus: 3, Key: deep}}, Holder: -1, Aptpl: true}
	if got := r.x.Table(0); !sameTable(got, want) || !sameTable(r.x.Table(1), pers.None()) {
		t.Fatalf("the table is %v, want %v", got, want)
	}
	r.orders(3, 0, 1, 6, deep, 0, false)
	r.orders(4, 0, 6, 0, 12345, other, false)
	want = api.Table{Gen: 2, Keys: []api.Registrant{{Nexus: 3, Key: deep}, {Nexus: 4, Key: other}}, Holder: 3, Type: 6}
	if got := r.x.Table(0); !sameTable(got, want) {
		t.Fatalf("the table is %v, want %v", got, want)
	}
	// Check: a type that there isn't, a release of another type, a preempt of nobody.
	for _, k := range [][2]int{{1, 0}, {1, 2}, {1, 4}, {1, 9}, {1, 15}, {2, 5}, {2, 0}, {4, 6}} {
		b, l := order(k[0], k[1], deep, 0, false)
		r.want(check(5, 0x2600), 3, 0, b, l)
	}
	// Conflict: another key, another type, another's reservation, who isn't registered.
	for _, k := range []struct {
		nexus, action, kind int
		key, other          uint64
	}{{3, 0, 0, 1, 2}, {3, 1, 6, 1, 0}, {3, 1, 5, deep, 0}, {4, 1, 6, other, 0}, {5, 1, 6, 0, 0}, {5, 3, 0, 0, 0}, {4, 4, 6, other, 77}} {
		b, l := order(k.action, k.kind, k.key, k.other, false)
		r.want(conflict(), k.nexus, 0, b, l)
	}
	// Crowded: one more than there may be.
	for _, nexus := range []int{0, 1, 2, 5} {
		r.orders(nexus, 0, 0, 0, 0, 1, false)
	}
	b, l := order(0, 0, 0, 1, false)
	r.want(check(5, 0x5504), 6, 0, b, l)
	b, l = order(6, 0, 0, 1, false)
	r.want(check(5, 0x5504), 7, 0, b, l)
	r.want(good(), 7, 1, b, l)
	r.looked()
}

// P13.3: an order with a status that isn't Good leaves the table as it was, its news too, and nothing is kept.
func TestOrdersThatAreRefused(t *testing.T) {
	r := begun(t, wide(4))
	for nexus := range 6 {
		r.orders(nexus, 0, 0, 0, 0, uint64(nexus+1), true)
	}
	r.orders(2, 0, 1, 5, 3, 0, false)
	r.want(good(), 2, 0, writes(0, 1), data(1))
	n := r.disk.Pending()
	for action := range 8 {
		for kind := range 16 {
			for _, k := range []struct {
				nexus int
				key   uint64
			}{{0, 2}, {6, 1}, {7, 0}, {1, 1}} {
				if action == 6 && k.nexus < 6 {
					continue
				}
				b, l := order(action, kind, k.key, 9, false)
				if o, aborted := r.do(k.nexus, 0, b, l); o.Status == api.Good || aborted != nil {
					t.Fatalf("action %d of nexus %d is done", action, k.nexus)
				}
			}
		}
	}
	if r.disk.Pending() != n {
		t.Error("something was settled")
	}
	r.looked()
	for nexus := range 8 {
		r.want(good(), nexus, 0, test(), nil)
	}
}

// P13.1: who is told by Clear gets Preempted, by Preempt and Abort Removed; only Abort's tasks are to be aborted.
func TestWhoIsTold(t *testing.T) {
	r := begun(t, wide(4, 4))
	for action, code := range map[int]int{3: 0x2A03, 4: 0x2A05, 5: 0x2A05} {
		for _, who := range []int{0, 2, 5, 7} {
			r.orders(who, 1, 0, 0, 0, uint64(8+who&2), false)
		}
		r.orders(2, 0, 0, 0, 0, 10, false)
		told := r.orders(2, 1, action, 0, 10, 8, false)
		var want []int
		if action == 5 {
			want = []int{0, 5}
		}
		if !slices.Equal(told, want) {
			t.Fatalf("of action %d to be aborted are %v", action, told)
		}
		for nexus := range 8 {
			if nexus == 0 || nexus == 5 || nexus == 7 && action == 3 {
				r.want(check(6, code), nexus, 1, test(), nil)
			}
			r.want(good(), nexus, 1, test(), nil)
			r.want(good(), nexus, 0, test(), nil)
		}
		r.orders(2, 1, 6, 0, 0, 10, false)
		r.orders(2, 1, 3, 0, 10, 0, false)
		for nexus := range 8 {
			r.do(nexus, 1, test(), nil)
		}
		r.orders(2, 0, 3, 0, 10, 0, false)
	}
	r.looked()
}

// P13.1: an Abort that names the nexus itself doesn't tell it.
func TestAbortOfOnesOwn(t *testing.T) {
	r := begun(t, wide(4))
	for _, who := range []int{1, 3, 4} {
		r.orders(who, 0, 0, 0, 0, 6, false)
	}
	if told := r.orders(3, 0, 5, 0, 6, 6, false); !slices.Equal(told, []int{1, 4}) {
		t.Fatalf("to be aborted are %v", told)
	}
	r.want(good(), 3, 0, test(), nil)
	r.want(check(6, 0x2A05), 1, 0, test(), nil)
	r.want(good(), 1, 0, test(), nil)
}

// P13.1: an Abort of a reservation of all registrants tells all others.
func TestAbortOfAll(t *testing.T) {
	for _, kind := range []int{7, 8} {
		r := begun(t, wide(4))
		for _, who := range []int{6, 0, 4} {
			r.orders(who, 0, 0, 0, 0, uint64(who+1), false)
		}
		r.orders(0, 0, 1, kind, 1, 0, false)
		if told := r.orders(4, 0, 5, 1, 5, 0, false); !slices.Equal(told, []int{0, 6}) {
			t.Fatalf("to be aborted are %v", told)
		}
		if got := r.x.Table(0); got.Holder != 4 || got.Type != 1 || len(got.Keys) != 1 {
			t.Fatalf("the table is %v", got)
		}
	}
}

// P13.1: a Release that dropped a reservation of a type 5 to 8 tells all other registered ones Released; nothing else does.
func TestReleased(t *testing.T) {
	for _, kind := range []int{1, 3, 5, 6, 7, 8} {
		r := begun(t, wide(4, 4))
		for _, who := range []int{1, 2, 5} {
			r.orders(who, 0, 0, 0, 0, 6, false)
			r.orders(who, 1, 0, 0, 0, 6, false)
		}
		r.orders(2, 0, 1, kind, 6, 0, false)
		r.orders(2, 1, 1, 5, 6, 0, false)
		// No release: of who doesn't hold it, of another type; the same once more.
		if kind < 7 {
			r.orders(1, 0, 2, kind, 6, 0, false)
		}
		b, l := order(2, 4, 6, 0, false)
		r.want(check(5, 0x2600), 2, 0, b, l)
		r.orders(2, 0, 1, kind, 6, 0, false)
		for nexus := range 8 {
			r.want(good(), nexus, 0, test(), nil)
		}
		if told := r.orders(2, 0, 2, kind, 6, 0, false); told != nil {
			t.Fatalf("to be aborted are %v", told)
		}
		// There is nothing to be released any more.
		r.orders(1, 1, 2, 5, 6, 0, false)
		for nexus := range 8 {
			if kind > 3 && (nexus == 1 || nexus == 5) {
				r.want(check(6, 0x2A04), nexus, 0, test(), nil)
			}
			r.want(good(), nexus, 0, test(), nil)
			r.want(good(), nexus, 1, test(), nil)
		}
		r.orders(2, 0, 2, kind, 6, 0, false)
		r.want(good(), 1, 0, test(), nil)
		r.looked()
	}
}

// P13.1: a reservation that is dropped by a registration that goes, or taken by a Preempt, is news to nobody who stays.
func TestNoNewsOfOtherWays(t *testing.T) {
	r := begun(t, wide(4))
	for _, who := range []int{1, 2, 5} {
		r.orders(who, 0, 0, 0, 0, uint64(who), false)
	}
	r.orders(2, 0, 1, 5, 2, 0, false)
	r.orders(2, 0, 0, 0, 2, 0, false)
	if got := r.x.Table(0); got.Holder != -1 {
		t.Fatalf("the table is %v", got)
	}
	r.orders(1, 0, 1, 6, 1, 0, false)
	r.orders(5, 0, 4, 5, 5, 1, false)
	for nexus := range 8 {
		if nexus == 1 {
			r.want(check(6, 0x2A05), 1, 0, test(), nil)
		}
		r.want(good(), nexus, 0, test(), nil)
	}
}

// P13.1: news are heard in order, one by one, each code once, by that nexus at that unit alone.
func TestNewsInOrder(t *testing.T) {
	for action, code := range map[int]int{3: 0x2A03, 4: 0x2A05, 5: 0x2A05} {
		r := begun(t, wide(4, 4))
		for lun := range 2 {
			for who := range 3 {
				r.orders(who, lun, 0, 0, 0, uint64(who+1), false)
			}
		}
		for range 3 {
			r.orders(0, 0, 1, 7, 1, 0, false)
			r.orders(0, 0, 2, 7, 1, 0, false)
		}
		r.want(check(6, 0x2A04), 2, 0, writes(0, 1), data(1))
		r.orders(0, 0, action, 0, 1, 2, false)
		r.want(good(data(0)...), 0, 0, reads(0, 1), nil)
		r.want(good(0), 1, 0, inquire(1), nil)
		r.want(check(6, 0x2A04), 1, 0, [16]byte{0x77}, nil)
		r.want(check(6, code), 1, 0, reads(0, 1), nil)
		r.want(good(data(0)...), 1, 0, reads(0, 1), nil)
		if action == 3 {
			r.want(check(6, code), 2, 0, test(), nil)
		}
		r.want(good(), 2, 0, test(), nil)
		for nexus := range 8 {
			r.want(good(), nexus, 0, test(), nil)
			r.want(good(), nexus, 1, test(), nil)
		}
		r.looked()
	}
}

// P13.1: a code that was heard may be news once more, behind what is news already.
func TestNewsOnceMore(t *testing.T) {
	r := begun(t, wide(4))
	r.orders(0, 0, 0, 0, 0, 1, false)
	for range 3 {
		r.orders(1, 0, 0, 0, 0, 2, false)
		r.orders(0, 0, 4, 0, 1, 2, false)
		r.want(check(6, 0x2A05), 1, 0, test(), nil)
		r.want(good(), 1, 0, test(), nil)
		r.orders(1, 0, 0, 0, 0, 2, false)
		r.orders(0, 0, 1, 5, 1, 0, false)
		r.orders(0, 0, 2, 5, 1, 0, false)
		r.orders(0, 0, 4, 0, 1, 2, false)
		r.want(check(6, 0x2A04), 1, 0, test(), nil)
		r.want(check(6, 0x2A05), 1, 0, test(), nil)
		r.want(good(), 1, 0, test(), nil)
	}
}

// The chapter's example.
func TestExample(t *testing.T) {
	r := begun(t, wide(4))
	r.orders(1, 0, 0, 0, 0, 7, false)
	r.orders(1, 0, 1, 1, 7, 0, false)
	r.want(conflict(), 2, 0, writes(0, 1), data(1))
	r.orders(2, 0, 0, 0, 0, 8, false)
	r.want(conflict(), 2, 0, writes(0, 1), data(1))
	r.orders(1, 0, 3, 0, 7, 0, false)
	r.want(check(6, 0x2A03), 2, 0, writes(0, 1), data(1))
	r.want(good(), 2, 0, writes(0, 1), data(1))
	r.want(good(data(1)...), 1, 0, reads(0, 1), nil)
}

// P13.2: a command gets Conflict just where the reservation bars its nexus from it; then it changes nothing and reads nothing.
func TestBarred(t *testing.T) {
	u, ul := unmap(0, 2)
	p, pl := order(4, 1, 9, 5, false)
	for _, kind := range []int{0, 1, 3, 5, 6, 7, 8} {
		for _, k := range []struct {
			b             [16]byte
			come          []byte
			reads, moves  bool
			status, other int
		}{
			{b: reads(0, 2), reads: true}, {b: fua(reads(0, 2)), reads: true}, {b: reads(0, 0), reads: true},
			{b: writes(0, 2), come: data(8, 9), moves: true}, {b: fua(writes(0, 2)), come: data(8, 9), moves: true}, {b: writes(0, 0), moves: true},
			{b: same(0, 2), come: data(8), moves: true}, {b: u, come: ul, moves: true}, {b: [16]byte{0x42}, moves: true},
			{b: compares(0, 1), come: data(1, 9), moves: true}, {b: compares(0, 1), come: data(3, 9), moves: true}, {b: syncs(0, 1), moves: true},
			{b: test()}, {b: cap10()}, {b: cap16(40)}, {b: tells(0, 40)}, {b: tells(1, 40)}, {b: inquire(40)}, {b: report(40)}, {b: p, come: pl},
		} {
			r := begun(t, wide(4, 4))
			r.want(good(), 0, 0, writes(0, 2), data(1, 2))
			r.orders(1, 0, 0, 0, 0, 5, false)
			r.orders(2, 0, 0, 0, 0, 6, false)
			if kind > 0 {
				r.orders(1, 0, 1, kind, 5, 0, false)
			}
			n := r.disk.Pending()
			for _, nexus := range []int{0, 2, 1} {
				// Of the order its own words say when it is Conflict: of these nexuses always, for none has its key.
				order := k.b[0] == 0x5F
				barred := k.moves && kind > 0 || k.reads && (kind == 3 || kind == 6 || kind == 8)
				if nexus == 1 || nexus == 2 && kind >= 5 {
					barred = false
				}
				before := r.blocks[0][0]
				o, _ := r.do(nexus, 0, k.b, k.come)
				if (o.Status == api.Conflict) != (barred || order) {
					t.Fatalf("of type %d, by nexus %d, %x has the status %x", kind, nexus, k.b, o.Status)
				}
				if o.Status == api.Conflict && (o.Data != nil || o.Sense != (api.Sense{}) || r.blocks[0][0] != before || r.disk.Pending() != n) {
					t.Fatalf("of type %d, by nexus %d, %x is done", kind, nexus, k.b)
				}
				n = r.disk.Pending()
			}
			// At another unit nothing is barred.
			r.do(0, 1, k.b, k.come)
			r.looked()
		}
	}
}

// P13.1: an order's table is kept, if it is to last or was: then it is there behind a fall; else it isn't.
func TestTablesThatLast(t *testing.T) {
	r := begun(t, wide(4, 4))
	r.orders(1, 0, 0, 0, 0, 5, true)
	r.orders(1, 1, 0, 0, 0, 5, false)
	fallen := func(want ...api.Table) {
		t.Helper()
		x := on(t, mounted(t, r.disk.Crash(nil), r.c))
		for lun, w := range want {
			if got := x.Table(lun); !sameTable(got, w) {
				t.Fatalf("behind a fall the table of unit %d is %v, want %v", lun, got, w)
			}
		}
	}
	fallen(r.x.Table(0), pers.None())
	// Each order that is done keeps it, and settles what was done ahead of that.
	for _, k := range [][2]int{{1, 6}, {1, 6}, {2, 6}, {2, 6}, {1, 3}, {4, 3}} {
		r.want(good(), 1, 1, writes(0, 1), data(k[0]))
		r.orders(1, 0, k[0], k[1], 5, 5, false)
		fallen(r.x.Table(0), pers.None())
		if r.disk.Pending() > 0 {
			t.Errorf("order %v settles nothing", k)
		}
	}
	r.orders(2, 0, 0, 0, 0, 8, true)
	fallen(r.x.Table(0), pers.None())
	r.orders(2, 0, 3, 0, 8, 0, false)
	if got := r.x.Table(0); !got.Aptpl || len(got.Keys) != 0 {
		t.Fatalf("the table is %v", got)
	}
	fallen(r.x.Table(0), pers.None())
	// One that was to last, and isn't any more, is forgotten on the disk.
	r.orders(3, 0, 0, 0, 0, 8, false)
	fallen(pers.None(), pers.None())
	// What isn't to last settles nothing.
	r.want(good(), 1, 1, writes(0, 1), data(9))
	r.orders(3, 0, 1, 1, 8, 0, false)
	if r.disk.Pending() == 0 {
		t.Error("an order that isn't to last settles")
	}
	r.again()
}

// P13.1: what comes on an Exec made anew goes on from what lasted.
func TestGoingOn(t *testing.T) {
	r := begun(t, wide(12, 4))
	r.orders(1, 0, 0, 0, 0, 5, true)
	r.orders(2, 0, 0, 0, 0, 6, true)
	r.orders(1, 0, 1, 5, 5, 0, false)
	r.orders(1, 0, 2, 5, 5, 0, false)
	r.orders(1, 0, 1, 1, 5, 0, false)
	r.want(good(), 1, 0, writes(0, 1), data(1))
	r.again()
	// News are of one life.
	r.want(conflict(), 2, 0, writes(0, 1), data(2))
	r.want(good(data(1)...), 2, 0, reads(0, 1), nil)
	r.orders(2, 0, 4, 1, 6, 5, false)
	r.want(check(6, 0x2A05), 1, 0, test(), nil)
	r.again()
	r.want(good(), 1, 0, test(), nil)
	r.want(conflict(), 1, 0, writes(0, 1), data(2))
}

// Rule 4: what is handed in isn't changed, the room behind it neither, and not kept.
func TestHandedIn(t *testing.T) {
	r := begun(t, wide(12))
	u, ul := unmap(7, 1)
	p, pl := order(0, 0, 0, 5, true)
	q, ql := order(1, 5, 5, 0, false)
	for _, k := range []struct {
		b    [16]byte
		come []byte
	}{{writes(0, 2), data(1, 2)}, {same(3, 2), data(3)}, {compares(0, 1), data(1, 4)}, {compares(0, 1), data(1, 4)}, {u, ul}, {p, pl}, {q, ql}, {test(), data(1)}} {
		whole := append(slices.Clone(k.come), data(99)...)
		was := slices.Clone(whole)
		r.do(1, 0, k.b, whole[:len(k.come)])
		if !slices.Equal(whole, was) {
			t.Fatalf("% x changed its data", k.b)
		}
		for i := range whole {
			whole[i] = 0xEE
		}
		r.looked()
	}
}

// Rule 4: lists that are answered are new memory.
func TestAnswersAreNew(t *testing.T) {
	r := begun(t, wide(12))
	for _, who := range []int{1, 2, 3} {
		r.orders(who, 0, 0, 0, 0, uint64(who), false)
	}
	r.want(good(), 1, 0, writes(0, 2), data(1, 2))
	for range 2 {
		for _, b := range [][16]byte{inquire(40), vital(0, 9), vital(0x80, 9), report(40), cap10(), cap16(40), tells(0, 60), tells(1, 60), reads(0, 2)} {
			o, _ := r.do(1, 0, b, nil)
			for i := range o.Data {
				o.Data[i] ^= 0x55
			}
			o.Data = append(o.Data, 1, 2, 3)
			r.do(1, 0, b, nil)
		}
		x := r.x.Table(0)
		x.Keys[0] = api.Registrant{Nexus: 7, Key: 99}
		_ = append(x.Keys, x.Keys[0])
		r.looked()
	}
	told := r.orders(1, 0, 5, 0, 1, 2, false)
	told[0] = 5
	r.want(good(), 5, 0, test(), nil)
	r.want(check(6, 0x2A05), 2, 0, test(), nil)
	r.looked()
}

// P13.1: an error of the volume that no row names is told, with zeros; what needs no disk is answered all the same.
func TestADiskThatIsOff(t *testing.T) {
	c := wide(12)
	u, ul := unmap(0, 1)
	p, pl := order(6, 0, 0, 5, true)
	for _, k := range []struct {
		b    [16]byte
		come []byte
	}{{reads(0, 1), nil}, {fua(reads(0, 1)), nil}, {writes(3, 1), data(5)}, {fua(writes(3, 1)), data(6)}, {same(3, 2), data(7)}, {u, ul}, {compares(0, 1), data(1, 8)}, {compares(0, 1), data(2, 8)}, {syncs(0, 0), nil}, {p, pl}} {
		r := begun(t, c)
		r.orders(1, 0, 0, 0, 0, 7, false)
		r.want(good(), 1, 0, writes(0, 1), data(1))
		r.disk.Fuel(0)
		_, _, err := r.x.Do(1, 0, fua(reads(0, 1)), nil)
		is(t, err, api.ErrOff)
		before := r.x.Table(0)
		o, gone, err := r.x.Do(1, 0, k.b, k.come)
		is(t, err, api.ErrOff)
		if o.Status != 0 || o.Sense != (api.Sense{}) || o.Data != nil || gone != nil {
			t.Errorf("beside the error are %v and %v", o, gone)
		}
		if got := r.x.Table(0); !sameTable(got, before) {
			t.Errorf("the table is %v, was %v", got, before)
		}
		for b, want := range map[[16]byte]api.Outcome{test(): good(), report(1): good(0), cap10(): good(0, 0, 0, 11, 0, 0, 0, 64), tells(0, 4): good(0, 0, 0, 1), reads(12, 1): check(5, 0x2100), {0x42}: good()} {
			o, _, err := r.x.Do(1, 0, b, nil)
			is(t, err, api.OK)
			alike(t, o, want)
		}
		b, l := order(1, 3, 7, 0, false)
		o, _, err = r.x.Do(1, 0, b, l)
		is(t, err, api.OK)
		alike(t, o, good())
		o, _, err = r.x.Do(2, 0, k.b, k.come)
		if k.b[0] == 0x5F {
			is(t, err, api.ErrOff)
		} else {
			is(t, err, api.OK)
			alike(t, o, conflict())
		}
	}
}

// Rule 3: where a table can't be kept the table, the news and the list of whom to abort are as they were.
func TestATableThatCannotBeKept(t *testing.T) {
	for _, action := range []int{3, 4, 5, 2} {
		r := begun(t, wide(4))
		for _, who := range []int{1, 2, 3} {
			r.orders(who, 0, 0, 0, 0, uint64(4+who&2), true)
		}
		r.orders(1, 0, 1, 5, 4, 0, false)
		before := r.x.Table(0)
		r.disk.Fuel(0)
		b, l := order(action, 5, 4, 6, false)
		o, gone, err := r.x.Do(1, 0, b, l)
		is(t, err, api.ErrOff)
		if o.Status != 0 || o.Data != nil || gone != nil || !sameTable(r.x.Table(0), before) {
			t.Errorf("action %d: beside the error are %v, %v, %v", action, o, gone, r.x.Table(0))
		}
		for nexus := range 8 {
			o, _, err := r.x.Do(nexus, 0, test(), nil)
			is(t, err, api.OK)
			alike(t, o, good())
		}
	}
}

// P13.1: what Do answers hangs on what came on that executor: two don't share news or tables.
func TestTwoOfThem(t *testing.T) {
	c := wide(4)
	v := mounted(t, made(t, c), c)
	x, y := on(t, v), on(t, v)
	b, l := order(0, 0, 0, 5, false)
	for nexus := range 2 {
		_, _, err := x.Do(nexus, 0, b, l)
		is(t, err, api.OK)
	}
	b, l = order(3, 0, 5, 0, false)
	o, _, err := x.Do(0, 0, b, l)
	is(t, err, api.OK)
	alike(t, o, good())
	if !sameTable(y.Table(0), pers.None()) {
		t.Error("two executors share tables")
	}
	o, _, err = y.Do(1, 0, test(), nil)
	is(t, err, api.OK)
	alike(t, o, good())
	o, _, err = x.Do(1, 0, test(), nil)
	is(t, err, api.OK)
	alike(t, o, check(6, 0x2A03))
}

// whatever are sixteen bytes, most of them a command's first ones and few others.
func whatever(n func(int) int) [16]byte {
	ops := []byte{0x00, 0x12, 0x25, 0x9E, 0xA0, 0x5E, 0x5F, 0x42, 0x28, 0x88, 0x2A, 0x8A, 0x41, 0x93, 0x89, 0x35, 0x91}
	var b [16]byte
	for i := range b {
		if n(3) == 0 {
			b[i] = byte(n(256))
		}
	}
	if n(8) > 0 {
		b[0] = ops[n(len(ops))]
	}
	if b[0] == 0x9E {
		b[1] = 0x10
	}
	if n(2) == 0 {
		b[1] &= 8
	}
	return b
}

// some is a command that is mostly right, with its data.
func (r *run) some(n func(int) int, lun int) ([16]byte, []byte) {
	size := 4
	if lun >= 0 && lun < len(r.blocks) {
		size = len(r.blocks[lun])
	}
	lba, many := n(size+1), n(9)
	if n(20) > 0 {
		many = min(many, size-lba)
	}
	l := make([]int, many)
	for i := range l {
		l[i] = n(7)
		if n(4) == 0 {
			l[i] = n(60)
		}
	}
	flags := byte(8 * (n(6) / 5))
	switch n(16) {
	case 0:
		return test(), nil
	case 1:
		return [][16]byte{inquire(byte(n(40))), vital(byte(n(3)*64), byte(n(9))), report(byte(n(50)))}[n(3)], nil
	case 2:
		return [][16]byte{cap10(), cap16(byte(n(40))), tells(byte(n(2)), byte(n(60)))}[n(3)], nil
	case 3, 4:
		return form(0x28, 0x88, flags, uint64(lba), many), nil
	case 5, 6:
		return form(0x2A, 0x8A, flags, uint64(lba), many), data(l...)
	case 7:
		return form(0x41, 0x93, flags, uint64(lba), many), data(n(7))
	case 8:
		return unmap(uint64(lba), uint32(many))
	case 9:
		b := compares(uint64(lba), many)
		b[1] = flags
		var there []byte
		for i := range many {
			p := block(n(7))
			if lun >= 0 && lun < len(r.blocks) && lba+i < size && n(20) > 0 {
				p = r.blocks[lun][lba+i]
			}
			there = append(there, p[:]...)
		}
		return b, append(there, data(l...)...)
	case 10:
		return syncs(uint64(lba), many), nil
	}
	actions, other := []int{0, 0, 6, 1, 1, 2, 2, 3, 4, 5}, uint64(n(4))
	if other == 0 && n(2) == 0 {
		other = 1
	}
	b, come := order(actions[n(10)], []int{1, 3, 5, 6, 7, 8, 5, 7, 2}[n(9)], uint64(n(4)), other, n(2) == 0)
	if n(30) == 0 {
		come[20] |= byte(n(256))
	}
	return b, come
}

// P13.1, P13.2, P13.3: long runs of commands of several nexuses, with room for all and without, with the collector and falls between.
func TestRuns(t *testing.T) {
	steps := 20000
	if testing.Short() {
		steps = 5000
	}
	for i, c := range []api.Config{wide(20, 12), wide(9, 8, 16, 1), config(3, 20, 8, 20, 20), config(5, 9, 9, 20, 20), config(5, 20, 4, 34, 20)} {
		n := chance(i + 1)
		r := begun(t, c)
		met := map[int]int{}
		for step := range steps {
			lun := n(len(c.Luns))
			if n(20) == 0 {
				lun = n(6) - 1
			}
			b, come := r.some(n, lun)
			if n(40) == 0 {
				come = make([]byte, n(130))
			}
			if n(25) == 0 {
				b = whatever(n)
			}
			nexus := r.who(n, &b, come, lun)
			o, _ := r.do(nexus, lun, b, come)
			met[o.Status<<16|o.Sense.Code]++
			switch {
			case step%400 == 399:
				r.again()
			case step%37 == 36:
				k, err := r.x.Volume().Clean()
				is(t, err, api.OK)
				k2, err := r.v.Clean()
				is(t, err, api.OK)
				if k != k2 {
					t.Fatalf("the collector frees %d, want %d", k, k2)
				}
			}
			if step%20 == 0 {
				r.looked()
			}
		}
		for _, want := range []int{0, 0x18 << 16, 0x22A03, 0x22A04, 0x22A05, 0x21D00, 0x22100, 0x22600, 0x22500, 0x21A00} {
			if met[want] == 0 {
				t.Errorf("run %d didn't meet %x", i, want)
			}
		}
		if i > 1 && met[0x22707] == 0 {
			t.Errorf("run %d always had room", i)
		}
	}
}

// who is a nexus for a command; of an order mostly one that has the key that it names, of a Release mostly who holds what it names.
func (r *run) who(n func(int) int, b *[16]byte, come []byte, lun int) int {
	if b[0] != 0x5F || len(come) != 24 || lun < 0 || lun >= len(r.tables) || n(5) == 0 {
		return n(8)
	}
	x := r.tables[lun]
	if len(x.Keys) == 0 || n(6) == 0 {
		return n(8)
	}
	e := x.Keys[n(len(x.Keys))]
	if b[1] == 2 && x.Holder >= 0 && n(4) > 0 {
		e = x.Keys[slices.IndexFunc(x.Keys, func(e api.Registrant) bool { return e.Nexus == x.Holder })]
		b[2] = byte(x.Type)
	}
	binary.BigEndian.PutUint64(come, e.Key)
	return e.Nexus
}

// P0: whatever bytes come, with whatever data, for whatever unit, Do answers by the words.
func TestWhatever(t *testing.T) {
	steps := 40000
	if testing.Short() {
		steps = 6000
	}
	r := begun(t, wide(12, 4))
	n := chance(99)
	far := beyond(2)
	for step := range steps {
		b := whatever(n)
		come := make([]byte, exec.Length(b))
		if n(5) == 0 {
			come = make([]byte, n(2000))
		}
		for i := range come {
			come[i] = byte(n(3) * n(128))
		}
		lun := n(2)
		if n(10) == 0 {
			lun = far[n(len(far))]
		}
		r.do(n(8), lun, b, come)
		if step%500 == 0 {
			r.looked()
		}
	}
	r.looked()
}

// A life is what is to be seen behind a fall: each unit's blocks, and the tables that last.
type life struct {
	blocks [][]disk.Page
	tables []api.Table
}

// now is the run's life.
func (r *run) now() life {
	var x life
	for lun, l := range r.blocks {
		x.blocks = append(x.blocks, slices.Clone(l))
		k := r.tables[lun]
		if !k.Aptpl {
			k = pers.None()
		}
		x.tables = append(x.tables, k)
	}
	return x
}

// same tells whether an executor has just what a life has.
func (x life) same(t testing.TB, e *exec.Exec) bool {
	t.Helper()
	for lun, l := range x.blocks {
		if !sameTable(e.Table(lun), x.tables[lun]) {
			return false
		}
		for lba := range l {
			b, err := e.Volume().Read(lun, lba, 1)
			is(t, err, api.OK)
			if disk.Page(b) != l[lba] {
				return false
			}
		}
	}
	return true
}

// P13.1 (and P1, P2 of the whole): wherever the disk falls, what is left has what some first ones of the commands made, each wholly, at least those ahead of the last one that settled; the one that fell is told ErrOff.
func TestFalls(t *testing.T) {
	seeds := 12
	if testing.Short() {
		seeds = 2
	}
	for seed := range seeds {
		c := wide(12, 6)
		if seed%3 == 2 {
			c = config(3, 12, 6, 12, 6)
		}
		for fuel := 0; fall(t, c, seed, fuel); fuel++ {
		}
	}
}

// fall does commands, the same ones for a seed, till the disk gives out, and holds what is left against the words; false, if it doesn't.
func fall(t testing.TB, c api.Config, seed, fuel int) bool {
	t.Helper()
	n := chance(1000 + seed)
	r := begun(t, c)
	r.disk.Fuel(fuel)
	lives, settled := []life{r.now()}, 0
	for range 60 {
		lun := n(2)
		b, come := r.some(n, lun)
		nexus := r.who(n, &b, come, lun)
		o, gone, err := r.x.Do(nexus, lun, b, come)
		want, aborted := r.word(nexus, lun, b, come)
		lives = append(lives, r.now())
		if err != nil {
			is(t, err, api.ErrOff)
			if o.Status != 0 || o.Data != nil || gone != nil || !r.disk.Off() {
				t.Fatalf("beside the error are %v and %v", o, gone)
			}
			for _, pick := range [][]int{nil, every(r.disk.Pending()), every(1), every(r.disk.Pending() / 2), {1, 3, 5, 7}} {
				left(t, r.disk.Crash(pick), c, lives[settled:])
			}
			return true
		}
		alike(t, o, want)
		if !slices.Equal(gone, aborted) {
			t.Fatalf("to be aborted are %v, want %v", gone, aborted)
		}
		if r.disk.Pending() == 0 {
			settled = len(lives) - 1
		}
	}
	return false
}

// left holds what a fall leaves against the lives that there may be.
func left(t testing.TB, k *disk.Disk, c api.Config, lives []life) {
	t.Helper()
	x := on(t, mounted(t, k, c))
	if !slices.ContainsFunc(lives, func(l life) bool { return l.same(t, x) }) {
		t.Fatal("behind a fall there is what no first ones of the commands made")
	}
}
