package exec_test

import (
	"bytes"
	"encoding/binary"
	"errors"
	"math"
	"slices"
	"testing"

	"bulkhead/api"
	"bulkhead/cdb"
	"bulkhead/disk"
	"bulkhead/exec"
	"bulkhead/pers"
	"bulkhead/thin"
	"bulkhead/woe"
)

// block is bytes that tell n, each byte another one; of 0 zeros.
func block(n int) disk.Page {
	var p disk.Page
	if n == 0 {
		return p
	}
	for i := range p {
		p[i] = byte(n*(2*i+1) + n>>8 + i + 1)
	}
	return p
}

// data are the bytes of the blocks that tell these numbers.
func data(numbers ...int) []byte {
	var b []byte
	for _, n := range numbers {
		p := block(n)
		b = append(b, p[:]...)
	}
	return b
}

// chance answers numbers below its argument, the same ones for the same seed.
func chance(seed int) func(n int) int {
	x := uint64(seed)*2654435761 + 12345
	return func(n int) int {
		x ^= x << 13
		x ^= x >> 7
		x ^= x << 17
		return int(x>>8) % n
	}
}

// is holds an error against a number: that one is found, and no other one.
func is(t testing.TB, err error, want api.Errno) {
	t.Helper()
	if want == api.OK {
		if err != nil {
			t.Fatalf("the error is %v, want none", err)
		}
		return
	}
	if err == nil || woe.Number(err) != want {
		t.Fatalf("the error is %v, want %v", err, want)
	}
	for n := api.Errno(-1); n < 40; n++ {
		if errors.Is(err, n) != (n == want) {
			t.Fatalf("the error is %v: it is taken for %v", err, n)
		}
	}
}

// beyond are numbers that are none of n.
func beyond(n int) []int {
	return []int{-1, -2, -8, -n - 1, n, n + 1, n + 8, n + 256, 4096, 65536, 1 << 31, 1 << 32, 1<<32 + 1, -1 << 32, 1 << 62, math.MinInt, math.MinInt + 1, math.MaxInt, math.MaxInt - 3, math.MaxInt - 8}
}

// every are the numbers below n.
func every(n int) []int {
	l := make([]int, n)
	for i := range l {
		l[i] = i
	}
	return l
}

// config is one of the least ring, on a disk that has room for it.
func config(boxes, places, nodes int, luns ...int) api.Config {
	c := api.Config{Ring: 96, Boxes: boxes, Prints: places, Nodes: nodes, Luns: luns}
	c.Sectors = 2 + 96 + 1 + 4 + 5*c.Boxes + c.Prints + 1 + c.Nodes
	return c
}

// wide is a config with room for all blocks of its units.
func wide(luns ...int) api.Config {
	all := 0
	for _, n := range luns {
		all += n
	}
	return config(all/2+3, 2*all+4, all/8+12, luns...)
}

// made is a disk of a config.
func made(t testing.TB, c api.Config) *disk.Disk {
	t.Helper()
	k, err := disk.New(c.Sectors)
	is(t, err, api.OK)
	return k
}

// mounted is the volume of a disk.
func mounted(t testing.TB, k *disk.Disk, c api.Config) *thin.Volume {
	t.Helper()
	v, err := thin.Mount(k, c)
	is(t, err, api.OK)
	return v
}

// on is an executor on a volume.
func on(t testing.TB, v *thin.Volume) *exec.Exec {
	t.Helper()
	x, err := exec.New(v)
	is(t, err, api.OK)
	if x == nil || x.Volume() != v {
		t.Fatal("New answers no executor of that volume")
	}
	return x
}

// Commands of blocks, in ten bytes or, where lba needs more, in sixteen.

func long(op byte, flags byte, lba uint64, n uint32) [16]byte {
	b := [16]byte{op, flags}
	binary.BigEndian.PutUint64(b[2:], lba)
	binary.BigEndian.PutUint32(b[10:], n)
	return b
}

func short(op byte, flags byte, lba uint32, n uint16) [16]byte {
	b := [16]byte{op, flags}
	binary.BigEndian.PutUint32(b[2:], lba)
	binary.BigEndian.PutUint16(b[7:], n)
	return b
}

// form is a command of either form.
func form(ten, sixteen byte, flags byte, lba uint64, n int) [16]byte {
	if lba%2 == 0 && lba < 1<<32 && n < 1<<16 {
		return short(ten, flags, uint32(lba), uint16(n))
	}
	return long(sixteen, flags, lba, uint32(n))
}

func reads(lba uint64, n int) [16]byte  { return form(0x28, 0x88, 0, lba, n) }
func writes(lba uint64, n int) [16]byte { return form(0x2A, 0x8A, 0, lba, n) }
func same(lba uint64, n int) [16]byte   { return form(0x41, 0x93, 0, lba, n) }
func syncs(lba uint64, n int) [16]byte  { return form(0x35, 0x91, 0, lba, n) }

func compares(lba uint64, n int) [16]byte {
	b := long(0x89, 0, lba, 0)
	b[13] = byte(n)
	return b
}

// fua is a command that settles what it does.
func fua(b [16]byte) [16]byte {
	b[1] |= 8
	return b
}

// unmap is a command, and its list of one range.
func unmap(lba uint64, n uint32) ([16]byte, []byte) {
	l := make([]byte, 24)
	l[1], l[3] = 22, 16
	binary.BigEndian.PutUint64(l[8:], lba)
	binary.BigEndian.PutUint32(l[16:], n)
	return [16]byte{0x42, 8: 24}, l
}

// order is a command to the reservations, and its list.
func order(action, kind int, key, other uint64, aptpl bool) ([16]byte, []byte) {
	l := make([]byte, 24)
	binary.BigEndian.PutUint64(l, key)
	binary.BigEndian.PutUint64(l[8:], other)
	if aptpl {
		l[20] = 1
	}
	return [16]byte{0x5F, byte(action), byte(kind), 8: 24}, l
}

// The commands that carry no blocks.

func test() [16]byte           { return [16]byte{} }
func inquire(n byte) [16]byte  { return [16]byte{0x12, 4: n} }
func vital(p, n byte) [16]byte { return [16]byte{0x12, 1, p, 4: n} }
func report(n byte) [16]byte   { return [16]byte{0xA0, 9: n} }
func cap10() [16]byte          { return [16]byte{0x25} }
func cap16(n byte) [16]byte    { return [16]byte{0x9E, 0x10, 13: n} }
func tells(action, n byte) [16]byte {
	return [16]byte{0x5E, action, 8: n}
}

// sameTable tells whether two tables are the same.
func sameTable(x, y api.Table) bool {
	return x.Gen == y.Gen && slices.Equal(x.Keys, y.Keys) && x.Holder == y.Holder && x.Type == y.Type && x.Aptpl == y.Aptpl
}

// Outcomes.

func good(b ...byte) api.Outcome { return api.Outcome{Status: 0, Data: b} }
func conflict() api.Outcome      { return api.Outcome{Status: 0x18} }
func check(key, code int) api.Outcome {
	return api.Outcome{Status: 2, Sense: api.Sense{Key: key, Code: code}}
}

// alike holds an outcome against another one.
func alike(t testing.TB, o, want api.Outcome) {
	t.Helper()
	if o.Status != want.Status || o.Sense != want.Sense || !bytes.Equal(o.Data, want.Data) {
		t.Fatalf("the outcome is %v %x %x, want %v %x %x", o.Status, o.Sense, o.Data, want.Status, want.Sense, want.Data)
	}
}

// A run is commands to an executor, each held against the words: told once
// more, on units that are lists of blocks; a volume on a disk of its own tells
// where there is room, and what is to lie on the disk.
type run struct {
	t      testing.TB
	c      api.Config
	disk   *disk.Disk
	x      *exec.Exec
	own    *disk.Disk
	v      *thin.Volume
	blocks [][]disk.Page
	tables []api.Table
	news   [8][4][]int
}

// begun is a run on new units.
func begun(t testing.TB, c api.Config) *run {
	t.Helper()
	r := &run{t: t, c: c, disk: made(t, c), own: made(t, c)}
	r.x, r.v = on(t, mounted(t, r.disk, c)), mounted(t, r.own, c)
	for _, n := range c.Luns {
		r.blocks = append(r.blocks, make([]disk.Page, n))
		r.tables = append(r.tables, pers.None())
	}
	r.looked()
	return r
}

// looked holds all tables, all blocks, and all that lies on the disk, against the words.
func (r *run) looked() {
	r.t.Helper()
	for lun, want := range r.tables {
		if got := r.x.Table(lun); !sameTable(got, want) {
			r.t.Fatalf("the table of unit %d is %v, want %v", lun, got, want)
		}
	}
	for lun, l := range r.blocks {
		for lba := range l {
			b, err := r.x.Volume().Read(lun, lba, 1)
			is(r.t, err, api.OK)
			if disk.Page(b) != l[lba] {
				r.t.Fatalf("block %d of unit %d is %x, want %x", lba, lun, b, l[lba])
			}
		}
	}
	r.lies()
}

// lies holds the disk against the words' own: what was written last, and how much of it isn't firm.
func (r *run) lies() {
	r.t.Helper()
	if r.disk.Pending() != r.own.Pending() {
		r.t.Fatalf("%d writes aren't firm, want %d", r.disk.Pending(), r.own.Pending())
	}
	for i := range r.c.Sectors {
		p, err := r.disk.Read(i)
		is(r.t, err, api.OK)
		want, err := r.own.Read(i)
		is(r.t, err, api.OK)
		if p != want {
			r.t.Fatalf("sector %d is %x, want %x", i, p, want)
		}
	}
}

// do is a command, held against the words; its outcome, and whose tasks are to be aborted.
func (r *run) do(nexus, lun int, b [16]byte, come []byte) (api.Outcome, []int) {
	r.t.Helper()
	want, gone := r.word(nexus, lun, b, come)
	o, aborted, err := r.x.Do(nexus, lun, b, come)
	is(r.t, err, api.OK)
	alike(r.t, o, want)
	if !slices.Equal(aborted, gone) {
		r.t.Fatalf("to be aborted are %v, want %v", aborted, gone)
	}
	if r.disk.Pending() != r.own.Pending() {
		r.t.Fatalf("%d writes aren't firm, want %d", r.disk.Pending(), r.own.Pending())
	}
	return o, aborted
}

// want is a command whose outcome is known by hand too.
func (r *run) want(want api.Outcome, nexus, lun int, b [16]byte, come []byte) {
	r.t.Helper()
	o, _ := r.do(nexus, lun, b, come)
	alike(r.t, o, want)
}

// orders is an order that is done.
func (r *run) orders(nexus, lun, action, kind int, key, other uint64, aptpl bool) []int {
	r.t.Helper()
	b, l := order(action, kind, key, other, aptpl)
	o, aborted := r.do(nexus, lun, b, l)
	alike(r.t, o, good())
	return aborted
}

// again is a Sync, a crash that keeps nothing else, and coming up.
func (r *run) again() {
	r.t.Helper()
	is(r.t, r.x.Volume().Sync(), api.OK)
	is(r.t, r.v.Sync(), api.OK)
	r.disk, r.own = r.disk.Crash(nil), r.own.Crash(nil)
	r.x, r.v = on(r.t, mounted(r.t, r.disk, r.c)), mounted(r.t, r.own, r.c)
	r.news = [8][4][]int{}
	for lun, x := range r.tables {
		if !x.Aptpl {
			r.tables[lun] = pers.None()
		}
	}
	r.looked()
}

// word is what the words ask for of a command, and does it to the lists.
func (r *run) word(nexus, lun int, b [16]byte, come []byte) (api.Outcome, []int) {
	k, code := cdb.Decode(b)
	there := lun >= 0 && lun < len(r.c.Luns)
	if k.Do == 2 || k.Do == 5 {
		return r.askedFor(k, lun, there), nil
	}
	if !there {
		return check(5, 0x2500), nil
	}
	if l := r.news[nexus][lun]; len(l) > 0 {
		r.news[nexus][lun] = l[1:]
		return check(6, l[0]), nil
	}
	if code != 0 {
		return check(5, code), nil
	}
	if pers.Bars(r.tables[lun], nexus, k.Do) {
		return conflict(), nil
	}
	if len(come) != k.Length {
		return check(5, 0x1A00), nil
	}
	switch k.Do {
	case 1:
		return good(), nil
	case 3, 4, 12:
		return first(r.told(k, lun), k.Alloc), nil
	case 13:
		return r.ordered(nexus, lun, k, come)
	}
	return r.moved(lun, k, come), nil
}

// first is Good with data.
func first(b []byte, n int) api.Outcome {
	if len(b) > n {
		b = b[:n]
	}
	return good(b...)
}

// askedFor is what is told whether there is such a unit or not.
func (r *run) askedFor(k api.Task, lun int, there bool) api.Outcome {
	if k.Do == 5 {
		b := binary.BigEndian.AppendUint64(nil, uint64(8*len(r.c.Luns))<<32)
		for i := range r.c.Luns {
			b = binary.BigEndian.AppendUint64(b, uint64(i)<<48)
		}
		return first(b, k.Alloc)
	}
	b := []byte{0x7F}
	if there {
		b[0] = 0
	}
	switch {
	case !k.Vital:
		b = append(b, 0, 6, 2, 31, 0, 0, 0)
		b = append(b, "BULKHEAD"...)
		b = append(b, "THIN UNIT       "...)
		b = append(b, "0001"...)
	case k.Page == 0:
		b = append(b, 0, 0, 2, 0, 128)
	case k.Page == 128:
		b = append(b, 128, 0, 2, 'U', "01234567"[uint(lun)%8])
	default:
		return check(5, 0x2400)
	}
	return first(b, k.Alloc)
}

// told is all that a unit tells of its size or its reservations.
func (r *run) told(k api.Task, lun int) []byte {
	order := binary.BigEndian
	last := len(r.blocks[lun]) - 1
	x := r.tables[lun]
	switch {
	case k.Do == 3:
		return order.AppendUint32(order.AppendUint32(nil, uint32(last)), 64)
	case k.Do == 4:
		b := order.AppendUint32(order.AppendUint64(nil, uint64(last)), 64)
		b = append(b, 0, 0, 0xC0)
		return append(b, make([]byte, 17)...)
	case k.Action == 0:
		b := order.AppendUint32(order.AppendUint32(nil, x.Gen), uint32(8*len(x.Keys)))
		for _, e := range x.Keys {
			b = order.AppendUint64(b, e.Key)
		}
		return b
	case x.Holder < 0:
		return order.AppendUint64(nil, uint64(x.Gen)<<32)
	}
	b := order.AppendUint64(nil, uint64(x.Gen)<<32|16)
	key := uint64(0)
	for _, e := range x.Keys {
		if e.Nexus == x.Holder && x.Type < 7 {
			key = e.Key
		}
	}
	b = order.AppendUint64(b, key)
	return order.AppendUint64(b, uint64(x.Type)<<16)
}

// ordered is what comes of an order to a unit's reservations.
func (r *run) ordered(nexus, lun int, k api.Task, come []byte) (api.Outcome, []int) {
	if come[20] > 1 {
		return check(5, 0x2600), nil
	}
	o := pers.Order{Action: k.Action, Type: k.Type, Key: binary.BigEndian.Uint64(come), Other: binary.BigEndian.Uint64(come[8:]), Aptpl: come[20] == 1}
	was := r.tables[lun]
	then, status, told := pers.Act(was, nexus, o)
	switch status {
	case 2:
		return check(5, 0x2600), nil
	case 8:
		return check(5, 0x5504), nil
	case 0x18:
		return conflict(), nil
	}
	r.tables[lun] = then
	if was.Aptpl || then.Aptpl {
		is(r.t, r.v.Keep(lun, then), api.OK)
	}
	add := func(who, code int) {
		if !slices.Contains(r.news[who][lun], code) {
			r.news[who][lun] = append(slices.Clone(r.news[who][lun]), code)
		}
	}
	for _, who := range told {
		if o.Action == 3 {
			add(who, 0x2A03)
		} else {
			add(who, 0x2A05)
		}
	}
	if o.Action == 2 && was.Type >= 5 && was.Type <= 8 && then.Holder == -1 {
		for _, e := range then.Keys {
			if e.Nexus != nexus {
				add(e.Nexus, 0x2A04)
			}
		}
	}
	if o.Action == 5 {
		return good(), told
	}
	return good(), nil
}

// moved is what comes of a command of blocks.
func (r *run) moved(lun int, k api.Task, come []byte) api.Outcome {
	if k.Do == 9 {
		if k.Length == 0 {
			return good()
		}
		k.Lba, k.Blocks = binary.BigEndian.Uint64(come[8:]), uint64(binary.BigEndian.Uint32(come[16:]))
		if !bytes.Equal(come[:4], []byte{0, 22, 0, 16}) || k.Blocks > 8 {
			return check(5, 0x2600)
		}
	}
	if !cdb.Fits(k, len(r.blocks[lun])) {
		return check(5, 0x2100)
	}
	lba, n := int(k.Lba), int(k.Blocks)
	l := slices.Clone(r.blocks[lun])
	var b []byte
	var err error
	switch k.Do {
	case 6:
		for _, p := range l[lba : lba+n] {
			b = append(b, p[:]...)
		}
	case 7:
		err = r.v.Write(lun, lba, come)
		lay(l[lba:], come)
	case 8:
		err = r.v.Same(lun, lba, n, disk.Page(come))
		lay(l[lba:], bytes.Repeat(come, n))
	case 9:
		err = r.v.Unmap(lun, lba, n)
		lay(l[lba:], make([]byte, 64*n))
	case 10:
		for i := range 64 * n {
			if at := l[lba+i/64][i%64]; at != come[i] {
				o := check(14, 0x1D00)
				o.Data = []byte{0, 0, byte(i >> 8), byte(i)}
				return o
			}
		}
		err = r.v.Write(lun, lba, come[64*n:])
		lay(l[lba:], come[64*n:])
	}
	if err != nil {
		if n := woe.Number(err); n != 20 && n != 21 && n != 22 {
			r.t.Fatal(err)
		}
		return check(7, 0x2707)
	}
	r.blocks[lun] = l
	if k.Fua || k.Do == 11 {
		is(r.t, r.v.Sync(), api.OK)
	}
	return good(b...)
}

// lay makes the first ones of l the blocks that b is.
func lay(l []disk.Page, b []byte) {
	for i := range len(b) / 64 {
		l[i] = disk.Page(b[64*i:])
	}
}
