package thin_test

import (
	"bytes"
	"crypto/sha256"
	"errors"
	"math"
	"slices"
	"testing"

	"bulkhead/api"
	"bulkhead/depot"
	"bulkhead/disk"
	"bulkhead/pages"
	"bulkhead/pers"
	"bulkhead/prints"
	"bulkhead/radix"
	"bulkhead/thin"
	"bulkhead/woe"
)

// ring is how many sectors the ring of most volumes here has, with titles ahead of it.
const ring, titles = 96, 2

// block is bytes that tell n, each byte another one; of 0 zeros.
func block(n int) disk.Page {
	var p disk.Page
	if n == 0 {
		return p
	}
	for i := range p {
		p[i] = byte(n*(2*i+1) + n>>8 + i + 1)
	}
	return p
}

// some are the blocks that tell these numbers.
func some(numbers ...int) []disk.Page {
	var l []disk.Page
	for _, n := range numbers {
		l = append(l, block(n))
	}
	return l
}

// from are n blocks, each another one, the first of which tells first.
func from(first, n int) []disk.Page {
	var l []disk.Page
	for i := range n {
		l = append(l, block(first+i))
	}
	return l
}

// flat are the bytes of blocks, one behind the other.
func flat(l []disk.Page) []byte {
	var b []byte
	for _, p := range l {
		b = append(b, p[:]...)
	}
	return b
}

// data are the bytes of the blocks that tell these numbers.
func data(numbers ...int) []byte { return flat(some(numbers...)) }

// table is one of reservations that is to last: all of some registered nexuses hold it.
func table(gen int, nexuses ...int) api.Table {
	t := api.Table{Gen: uint32(gen), Holder: -1, Aptpl: true}
	for _, n := range nexuses {
		t.Keys = append(t.Keys, api.Registrant{Nexus: n, Key: uint64(n+1) << 40})
		t.Holder, t.Type = nexuses[0], pers.AccessAll
	}
	return t
}

// forgotten is a table that isn't to last.
func forgotten(t api.Table) api.Table {
	t.Aptpl = false
	return t
}

// chance answers numbers below its argument, the same ones for the same seed.
func chance(seed int) func(n int) int {
	x := uint64(seed)*2654435761 + 12345
	return func(n int) int {
		x ^= x << 13
		x ^= x >> 7
		x ^= x << 17
		return int(x>>8) % n
	}
}

// is holds an error against a number: that one is found, and no other one.
func is(t testing.TB, err error, want api.Errno) {
	t.Helper()
	if want == api.OK {
		if err != nil {
			t.Fatalf("the error is %v, want none", err)
		}
		return
	}
	if err == nil || woe.Number(err) != want {
		t.Fatalf("the error is %v, want %v", err, want)
	}
	for n := api.Errno(-1); n < 40; n++ {
		if errors.Is(err, n) != (n == want) {
			t.Fatalf("the error is %v: it is taken for %v", err, n)
		}
	}
}

// beyond are numbers that are none of n.
func beyond(n int) []int {
	return []int{-1, -2, -8, -n - 1, n, n + 1, n + 8, n + 256, 4096, 65536, 1 << 31, 1 << 32, 1<<32 + 1, -1 << 32, 1 << 62, math.MinInt, math.MinInt + 1, math.MaxInt, math.MaxInt - 3, math.MaxInt - 8}
}

// every are the numbers below n.
func every(n int) []int {
	l := make([]int, n)
	for i := range l {
		l[i] = i
	}
	return l
}

// pagesOf is how many pages a config wants, told by hand.
func pagesOf(c api.Config) int { return 1 + 4 + 5*c.Boxes + c.Prints + 1 + c.Nodes }

// config is a right one, of the least disk that there can be for it.
func config(boxes, places, nodes int, luns ...int) api.Config {
	c := api.Config{Ring: ring, Boxes: boxes, Prints: places, Nodes: nodes, Luns: luns}
	c.Sectors = titles + ring + pagesOf(c)
	return c
}

// made is a disk of a config.
func made(t testing.TB, c api.Config) *disk.Disk {
	t.Helper()
	k, err := disk.New(c.Sectors)
	is(t, err, api.OK)
	return k
}

// mounted is the volume of a disk, which is to be there.
func mounted(t testing.TB, k *disk.Disk, c api.Config) *thin.Volume {
	t.Helper()
	v, err := thin.Mount(k, c)
	is(t, err, api.OK)
	if v == nil {
		t.Fatal("Mount answers neither a volume nor an error")
	}
	return v
}

// refused holds a Mount against an error.
func refused(t testing.TB, k *disk.Disk, c api.Config, want api.Errno) {
	t.Helper()
	v, err := thin.Mount(k, c)
	if v != nil {
		t.Errorf("Mount of %v answers a volume", c)
	}
	is(t, err, want)
}

// copied is a disk that has what another one has, what isn't firm there too.
func copied(k *disk.Disk) *disk.Disk { return k.Crash(every(k.Pending())) }

// A store is what lies on a volume's disk, by the layers below.
type store struct {
	book   *pages.Book
	depot  *depot.Depot
	table  *prints.Table
	forest *radix.Forest
}

// lying is what lies on a disk.
func lying(t testing.TB, k *disk.Disk, c api.Config) store {
	t.Helper()
	var s store
	var err error
	s.book, err = pages.Mount(k, c.Ring)
	is(t, err, api.OK)
	s.depot, err = depot.New(s.book, 5, c.Boxes)
	is(t, err, api.OK)
	s.table, err = prints.New(s.book, 5+5*c.Boxes, c.Prints)
	is(t, err, api.OK)
	s.forest, err = radix.New(s.book, 5+5*c.Boxes+c.Prints, c.Nodes)
	is(t, err, api.OK)
	return s
}

// all are all pages of the book.
func (s store) all(t testing.TB) []disk.Page {
	t.Helper()
	l := make([]disk.Page, s.book.Pages())
	for i := range l {
		p, err := s.book.Read(i)
		is(t, err, api.OK)
		l[i] = p
	}
	return l
}

// done commits what was done with err; with an error it is undone.
func (s store) done(err error) error {
	if err != nil {
		s.book.Undo()
		return err
	}
	return s.book.Commit()
}

// put is what it is to put a block, word by word: it is wanted, the number that was there is left, and the place has the new one.
func (s store) put(lun, lba int, p disk.Page) error {
	x, err := s.want(p)
	if err != nil {
		return err
	}
	old, err := s.forest.Get(lun, lba)
	if err != nil {
		return err
	}
	if old > 0 {
		e, err := s.table.Get(old - 1)
		if err != nil {
			return err
		}
		if e.Refs == 1 {
			if err := s.depot.Drop(e.Slot); err != nil {
				return err
			}
		}
		e.Refs--
		if err := s.table.Set(old-1, e); err != nil {
			return err
		}
	}
	return s.forest.Set(lun, lba, x)
}

// want is what it is to want a block, word by word.
func (s store) want(p disk.Page) (int, error) {
	if p == block(0) {
		return 0, nil
	}
	digest := sha256.Sum256(p[:])
	if i, ok, err := s.table.Find(digest); err != nil {
		return 0, err
	} else if ok {
		e, err := s.table.Get(i)
		if err != nil {
			return 0, err
		}
		if there, err := s.depot.Get(e.Slot); err != nil {
			return 0, err
		} else if there == p {
			e.Refs++
			return i + 1, s.table.Set(i, e)
		}
	}
	i, err := s.table.Free(digest)
	if err != nil {
		return 0, err
	}
	slot, err := s.depot.Put(p)
	if err != nil {
		return 0, err
	}
	return i + 1, s.table.Set(i, prints.Entry{Digest: digest, Slot: slot, Refs: 1})
}

// fill puts blocks, all of them or none.
func (s store) fill(lun, lba int, l []disk.Page) error {
	for i, p := range l {
		if err := s.put(lun, lba+i, p); err != nil {
			return s.done(err)
		}
	}
	return s.done(nil)
}

// clean is Clean, word by word.
func (s store) clean() (int, error) {
	_, _, before, err := s.depot.Count()
	if err != nil {
		return 0, err
	}
	box, dead, err := s.depot.Worst()
	if err != nil || dead == 0 {
		return 0, err
	}
	l, err := s.depot.Slots(box)
	if err != nil {
		return 0, err
	}
	for _, slot := range l {
		to, err := s.depot.Move(slot)
		if errors.Is(err, api.ErrSpace) {
			s.book.Undo()
			return 0, nil
		}
		i, ok, err2 := s.table.Slot(slot)
		e, err3 := s.table.Get(i)
		e.Slot = to
		err4 := s.table.Set(i, e)
		if err := errors.Join(err, err2, err3, err4); err != nil || !ok {
			return 0, s.done(errors.Join(err, api.ErrForm))
		}
	}
	if err := s.done(nil); err != nil {
		return 0, err
	}
	_, _, after, err := s.depot.Count()
	return after - before, err
}

// A shape is what a volume tells: each unit's blocks, and the table of its reservations that lasted.
type shape struct {
	blocks [][]disk.Page
	kept   []api.Table
}

// empty is the shape of a new volume.
func empty(c api.Config) shape {
	var x shape
	for _, n := range c.Luns {
		x.blocks = append(x.blocks, make([]disk.Page, n))
		x.kept = append(x.kept, pers.None())
	}
	return x
}

// copy is a shape that is changed apart from x.
func (x shape) copy() shape {
	y := shape{kept: slices.Clone(x.kept)}
	for _, l := range x.blocks {
		y.blocks = append(y.blocks, slices.Clone(l))
	}
	return y
}

// keep is what Keep does.
func (x shape) keep(lun int, t api.Table) {
	x.kept[lun] = pers.None()
	if t.Aptpl {
		x.kept[lun] = t
	}
}

// places is how many blocks of all units are p.
func (x shape) places(p disk.Page) int {
	n := 0
	for _, l := range x.blocks {
		for _, q := range l {
			if q == p {
				n++
			}
		}
	}
	return n
}

// unlike is how many unlike blocks there are that aren't zeros.
func (x shape) unlike() int {
	l := slices.Concat(x.blocks...)
	slices.SortFunc(l, func(p, q disk.Page) int { return bytes.Compare(p[:], q[:]) })
	l = slices.Compact(l)
	return len(slices.DeleteFunc(l, func(p disk.Page) bool { return p == block(0) }))
}

// nodes is how many nodes the blocks take that aren't zeros.
func (x shape) nodes() int {
	n := 0
	for _, l := range x.blocks {
		before := n
		for sixteen := range slices.Chunk(l, 16) {
			if slices.ContainsFunc(sixteen, func(p disk.Page) bool { return p != block(0) }) {
				n++
			}
		}
		if n > before {
			n++
		}
	}
	return n
}

// sameTable tells whether two tables are the same.
func sameTable(x, y api.Table) bool {
	return x.Gen == y.Gen && slices.Equal(x.Keys, y.Keys) && x.Holder == y.Holder && x.Type == y.Type && x.Aptpl == y.Aptpl
}

// tells holds all that a volume tells of its units against a shape.
func tells(t testing.TB, v *thin.Volume, x shape) {
	t.Helper()
	if v.Luns() != len(x.blocks) {
		t.Fatalf("there are %d units, want %d", v.Luns(), len(x.blocks))
	}
	for lun, l := range x.blocks {
		if v.Size(lun) != len(l) {
			t.Fatalf("unit %d has %d blocks, want %d", lun, v.Size(lun), len(l))
		}
		for lba := 0; lba < len(l); lba += 8 {
			n := min(8, len(l)-lba)
			b, err := v.Read(lun, lba, n)
			is(t, err, api.OK)
			if !bytes.Equal(b, flat(l[lba:lba+n])) {
				t.Fatalf("of unit %d blocks %d to %d are %v, want %v", lun, lba, lba+n-1, b, l[lba:lba+n])
			}
		}
		kept, err := v.Kept(lun)
		is(t, err, api.OK)
		if !sameTable(kept, x.kept[lun]) {
			t.Fatalf("of unit %d the table %v was kept, want %v", lun, kept, x.kept[lun])
		}
	}
}

// lies holds what lies on a disk against a shape, and against P11.2; how often each block lies there, and how many slots are dead and free.
func lies(t testing.TB, s store, x shape) (map[disk.Page]int, int, int) {
	t.Helper()
	refs := map[int]int{}
	for lun := range 4 {
		for lba := range 256 {
			i, err := s.forest.Get(lun, lba)
			is(t, err, api.OK)
			if lun >= len(x.blocks) || lba >= len(x.blocks[lun]) || x.blocks[lun][lba] == block(0) {
				if i != 0 {
					t.Fatalf("block %d of unit %d is zeros, and has the number %d", lba, lun, i)
				}
				continue
			}
			refs[i-1]++
			e, err := s.table.Get(i - 1)
			is(t, err, api.OK)
			p, err := s.depot.Get(e.Slot)
			is(t, err, api.OK)
			if p != x.blocks[lun][lba] || e.Digest != sha256.Sum256(p[:]) {
				t.Fatalf("block %d of unit %d is in slot %d, which has %v", lba, lun, e.Slot, p)
			}
		}
	}
	times, slots := map[disk.Page]int{}, map[int]int{}
	l, err := s.table.All()
	is(t, err, api.OK)
	for _, i := range l {
		e, err := s.table.Get(i)
		is(t, err, api.OK)
		if e.Refs != refs[i] {
			t.Fatalf("the entry at place %d has %d refs, and is wanted %d times", i, e.Refs, refs[i])
		}
		slots[e.Slot]++
		p, err := s.depot.Get(e.Slot)
		is(t, err, api.OK)
		times[p]++
	}
	live, dead, free, err := s.depot.Count()
	is(t, err, api.OK)
	if len(l) != len(refs) || live != len(l) || len(slots) != len(l) {
		t.Fatalf("there are %d entries, of %d slots, %d live ones, %d numbers", len(l), len(slots), live, len(refs))
	}
	return times, dead, free
}

// A run is calls of a volume, each held against the words: against lists of
// blocks, and against a second telling of what comes to lie on the disk.
type run struct {
	t     testing.TB
	c     api.Config
	disk  *disk.Disk
	v     *thin.Volume
	is    shape
	words store              // lies on a disk of its own
	own   *disk.Disk         // that disk
	often map[disk.Page]bool // blocks that may lie more than once: they were wanted more than MaxRefs times
}

// begun is a run on a new volume.
func begun(t testing.TB, c api.Config) *run {
	t.Helper()
	r := &run{t: t, c: c, disk: made(t, c), is: empty(c), often: map[disk.Page]bool{}}
	r.v = mounted(t, r.disk, c)
	// Of the sign there is a test of its own.
	r.own = copied(r.disk)
	r.words = lying(t, r.own, c)
	r.looked()
	return r
}

// looked holds all that the volume tells, and all that lies on its disk, against the words.
func (r *run) looked() {
	r.t.Helper()
	tells(r.t, r.v, r.is)
	s := lying(r.t, copied(r.disk), r.c)
	want := r.words.all(r.t)
	for i, p := range s.all(r.t) {
		if p != want[i] {
			r.t.Fatalf("on page %d lies %v, want %v", i, p, want[i])
		}
	}
	times, dead, free := lies(r.t, s, r.is)
	live := 0
	for p, n := range times {
		if n != 1 && !r.often[p] {
			r.t.Fatalf("%v lies %d times", p, n)
		}
		live += n
	}
	if len(times) != r.is.unlike() {
		r.t.Fatalf("%d unlike blocks lie there, want %d", len(times), r.is.unlike())
	}
	n, err := r.v.Count()
	is(r.t, err, api.OK)
	if want := [5]int{live, dead, free, live, r.is.nodes()}; n != want || live+dead+free != 4*r.c.Boxes {
		r.t.Fatalf("the numbers are %v, want %v", n, want)
	}
}

// filled holds a call that was to put blocks, and its error, against the words.
func (r *run) filled(lun, lba int, l []disk.Page, err error) bool {
	r.t.Helper()
	want := woe.Number(r.words.fill(lun, lba, l))
	if want == api.ErrLarge {
		r.t.Fatal("a transaction has too many pages")
	}
	is(r.t, err, want)
	if want == api.OK {
		for i, p := range l {
			if p != block(0) && r.is.places(p) >= 15 {
				r.often[p] = true
			}
			r.is.blocks[lun][lba+i] = p
		}
		for p := range r.often {
			if r.is.places(p) == 0 {
				delete(r.often, p)
			}
		}
	}
	r.looked()
	return want == api.OK
}

// write is Write; was it done?
func (r *run) write(lun, lba int, l ...disk.Page) bool {
	r.t.Helper()
	return r.filled(lun, lba, l, r.v.Write(lun, lba, flat(l)))
}

// same is Same; was it done?
func (r *run) same(lun, lba, n int, p disk.Page) bool {
	r.t.Helper()
	return r.filled(lun, lba, slices.Repeat([]disk.Page{p}, n), r.v.Same(lun, lba, n, p))
}

// unmap is Unmap; was it done?
func (r *run) unmap(lun, lba, n int) bool {
	r.t.Helper()
	return r.filled(lun, lba, make([]disk.Page, n), r.v.Unmap(lun, lba, n))
}

// compare is Compare; were the blocks as expected, and was it done?
func (r *run) compare(lun, lba int, expect, l []disk.Page) bool {
	r.t.Helper()
	at, err := r.v.Compare(lun, lba, flat(expect), flat(l))
	there := flat(r.is.blocks[lun][lba : lba+len(l)])
	for i, x := range flat(expect) {
		if x == there[i] {
			continue
		}
		is(r.t, err, api.ErrDiff)
		if at != i {
			r.t.Fatalf("they differ at %d, want %d", at, i)
		}
		r.looked()
		return false
	}
	if at != 0 {
		r.t.Fatalf("%d is told where they don't differ", at)
	}
	return r.filled(lun, lba, l, err)
}

// clean is Clean; how many slots became free.
func (r *run) clean() int {
	r.t.Helper()
	before, err := r.v.Count()
	is(r.t, err, api.OK)
	n, err := r.v.Clean()
	is(r.t, err, api.OK)
	want, err := r.words.clean()
	is(r.t, err, api.OK)
	after, err := r.v.Count()
	is(r.t, err, api.OK)
	if n != want || after != [5]int{before[0], before[1] - n, before[2] + n, before[3], before[4]} {
		r.t.Fatalf("%d slots became free, want %d; the numbers were %v and are %v", n, want, before, after)
	}
	r.looked()
	return n
}

// keep is Keep.
func (r *run) keep(lun int, x api.Table) {
	r.t.Helper()
	is(r.t, r.v.Keep(lun, x), api.OK)
	var p disk.Page
	if x.Aptpl {
		p = pers.Page(x)
	}
	is(r.t, r.words.done(r.words.book.Write(1+lun, p)), api.OK)
	is(r.t, r.words.book.Sync(), api.OK)
	r.is.keep(lun, x)
	r.looked()
}

// again is Sync, a crash that keeps nothing, and Mount.
func (r *run) again() {
	r.t.Helper()
	is(r.t, r.v.Sync(), api.OK)
	is(r.t, r.words.book.Sync(), api.OK)
	r.disk, r.own = r.disk.Crash(nil), r.own.Crash(nil)
	r.v = mounted(r.t, r.disk, r.c)
	r.words = lying(r.t, r.own, r.c)
	r.looked()
}
