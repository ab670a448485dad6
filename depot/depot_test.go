package depot_test

import (
	"errors"
	"math"
	"slices"
	"testing"

	"bulkhead/api"
	"bulkhead/depot"
	"bulkhead/disk"
	"bulkhead/pages"
	"bulkhead/woe"
)

// ringSize is how many sectors the ring of each book has, with titles ahead of it.
const ringSize, titles = 96, 2

// page is bytes that tell n, each byte another one.
func page(n int) disk.Page {
	var p disk.Page
	for i := range p {
		p[i] = byte(n*(2*i+1) + n>>8 + i + 1)
	}
	return p
}

// chance answers numbers below its argument, the same ones for the same seed.
func chance(seed int) func(n int) int {
	x := uint64(seed)*2654435761 + 12345
	return func(n int) int {
		x ^= x << 13
		x ^= x >> 7
		x ^= x << 17
		return int(x>>8) % n
	}
}

// is holds an error against a number: that one is found, and no other one.
func is(t testing.TB, err error, want api.Errno) {
	t.Helper()
	if want == api.OK {
		if err != nil {
			t.Fatalf("the error is %v, want none", err)
		}
		return
	}
	if err == nil || woe.Number(err) != want {
		t.Fatalf("the error is %v, want %v", err, want)
	}
	for n := api.Errno(-1); n < 40; n++ {
		if errors.Is(err, n) != (n == want) {
			t.Fatalf("the error is %v: it is taken for %v", err, n)
		}
	}
}

// made is a disk whose book has so many pages.
func made(t testing.TB, n int) *disk.Disk {
	t.Helper()
	d, err := disk.New(titles + ringSize + n)
	is(t, err, api.OK)
	return d
}

// mounted is the book of a disk.
func mounted(t testing.TB, d *disk.Disk) *pages.Book {
	t.Helper()
	b, err := pages.Mount(d, ringSize)
	is(t, err, api.OK)
	return b
}

// bound is a new book of so many pages.
func bound(t testing.TB, n int) *pages.Book {
	t.Helper()
	return mounted(t, made(t, n))
}

// broken is a book of so many pages that is broken.
func broken(t testing.TB, n int) *pages.Book {
	t.Helper()
	d := made(t, n)
	b := mounted(t, d)
	d.Fuel(0)
	is(t, b.Sync(), api.ErrOff)
	return b
}

// opened is the depot on pages of a book, which is to be made.
func opened(t testing.TB, b *pages.Book, first, boxes int) *depot.Depot {
	t.Helper()
	d, err := depot.New(b, first, boxes)
	is(t, err, api.OK)
	if d == nil {
		t.Fatal("New answers neither a depot nor an error")
	}
	return d
}

// refused holds a New against ErrArg.
func refused(t testing.TB, b *pages.Book, first, boxes int) {
	t.Helper()
	d, err := depot.New(b, first, boxes)
	if d != nil {
		t.Errorf("New(%d, %d) of %d pages answers a depot", first, boxes, b.Pages())
	}
	is(t, err, api.ErrArg)
}

// all are all pages of a book.
func all(t testing.TB, b *pages.Book) []disk.Page {
	t.Helper()
	l := make([]disk.Page, b.Pages())
	for i := range l {
		p, err := b.Read(i)
		is(t, err, api.OK)
		l[i] = p
	}
	return l
}

// beyond are numbers that are none of n.
func beyond(n int) []int {
	return []int{-1, -2, -4, -n, n, n + 1, n + 4, 256, 4096, 1 << 31, 1 << 32, 1<<32 + 1, -1 << 32, 1 << 62, math.MinInt, math.MinInt + 1, math.MaxInt, math.MaxInt - 3}
}

// What a slot is.
const (
	free = iota
	live
	dead
)

// A slot is what the words say of one.
type slot struct {
	is    int
	block disk.Page
}

// A model is all slots of a depot, by the words.
type model []slot

func (m model) copy() model { return slices.Clone(m) }

func (m model) boxes() int { return len(m) / 4 }

// box are the slots of a container.
func (m model) box(i int) model { return m[4*i : 4*i+4] }

// count is how many slots are so.
func (m model) count(state int) int {
	n := 0
	for _, s := range m {
		if s.is == state {
			n++
		}
	}
	return n
}

// are the slots that are so, from at on.
func (m model) are(state, at int) []int {
	var l []int
	for i, s := range m {
		if s.is == state {
			l = append(l, at+i)
		}
	}
	return l
}

// may are the slots of which a block may be given one, where the container but isn't to have it.
func (m model) may(but int) []int {
	var begun, fresh []int
	for i := range m.boxes() {
		if i == but {
			continue
		}
		if l := m.box(i).are(free, 4*i); len(l) == 4 {
			fresh = append(fresh, l...)
		} else {
			begun = append(begun, l...)
		}
	}
	if len(begun) > 0 {
		return begun
	}
	return fresh
}

// put gives a slot a block.
func (m model) put(s int, p disk.Page) { m[s] = slot{is: live, block: p} }

// drop makes a slot dead, and its container free, where no other slot of it is live.
func (m model) drop(s int) {
	m[s] = slot{is: dead}
	if b := m.box(s / 4); b.count(live) == 0 {
		clear(b)
	}
}

// worst is the container with most dead slots, and how many.
func (m model) worst() (int, int) {
	box, most := 0, 0
	for i := range m.boxes() {
		if n := m.box(i).count(dead); n > most {
			box, most = i, n
		}
	}
	return box, most
}

// A run is calls of a depot, each held against the words.
type run struct {
	t     testing.TB
	book  *pages.Book
	depot *depot.Depot
	first int
	is    model
}

// begun is a run on a depot of zeros, with some pages ahead and behind that aren't the depot's.
func begun(t testing.TB, boxes int) *run {
	t.Helper()
	return on(t, bound(t, 3+5*boxes+2), 3, make(model, 4*boxes))
}

// on is a run on a depot that has what m says.
func on(t testing.TB, b *pages.Book, first int, m model) *run {
	t.Helper()
	return &run{t: t, book: b, depot: opened(t, b, first, m.boxes()), first: first, is: m}
}

// looked holds all that is told of the depot against the words.
func (r *run) looked() {
	r.t.Helper()
	for i, s := range r.is {
		p, err := r.depot.Get(i)
		if s.is == live {
			is(r.t, err, api.OK)
		} else {
			is(r.t, err, api.ErrNone)
		}
		if p != s.block {
			r.t.Fatalf("slot %d has %v, want %v", i, p, s.block)
		}
	}
	for i := range r.is.boxes() {
		l, err := r.depot.Slots(i)
		is(r.t, err, api.OK)
		if want := r.is.box(i).are(live, 4*i); !slices.Equal(l, want) {
			r.t.Fatalf("of container %d slots %v are live, want %v", i, l, want)
		}
	}
	box, n, err := r.depot.Worst()
	is(r.t, err, api.OK)
	if wantBox, want := r.is.worst(); box != wantBox || n != want {
		r.t.Fatalf("the worst container is %d, with %d dead slots, want %d, %d", box, n, wantBox, want)
	}
	r.counted()
}

// counted holds the numbers of slots against the words, and against P7.2.
func (r *run) counted() {
	r.t.Helper()
	x, y, z, err := r.depot.Count()
	is(r.t, err, api.OK)
	if x != r.is.count(live) || y != r.is.count(dead) || z != r.is.count(free) {
		r.t.Fatalf("slots are %d live, %d dead, %d free, want %d, %d, %d", x, y, z, r.is.count(live), r.is.count(dead), r.is.count(free))
	}
	if x+y+z != len(r.is) {
		r.t.Fatalf("%d live, %d dead and %d free slots are not %d", x, y, z, len(r.is))
	}
	for i := range r.is.boxes() {
		if b := r.is.box(i); b.count(dead) > 0 && b.count(live) == 0 {
			r.t.Fatalf("container %d has dead slots alone", i)
		}
	}
}

// within does a call, which may change so many pages at most, all of them the depot's; then it looks at all.
func (r *run) within(most int, call func()) {
	r.t.Helper()
	before := all(r.t, r.book)
	call()
	n := 0
	for i, p := range all(r.t, r.book) {
		if p == before[i] {
			continue
		}
		n++
		if i < r.first || i >= r.first+5*r.is.boxes() {
			r.t.Fatalf("page %d has changed, which isn't the depot's", i)
		}
	}
	if n > most {
		r.t.Fatalf("%d pages have changed, want %d at most", n, most)
	}
	r.looked()
}

// given holds a slot that a block was given, or the error of that, against the
// slots that it may be. Where there is none, the transaction is undone.
func (r *run) given(s int, err error, may []int) bool {
	r.t.Helper()
	if len(may) == 0 {
		is(r.t, err, api.ErrSpace)
		if s != 0 {
			r.t.Fatalf("slot %d is told beside an error", s)
		}
		r.book.Undo()
		return false
	}
	is(r.t, err, api.OK)
	if !slices.Contains(may, s) {
		r.t.Fatalf("the block is in slot %d, want one of %v", s, may)
	}
	return true
}

// put is Put; the slot. What was changed ahead of one that has no room is committed.
func (r *run) put(p disk.Page) int {
	r.t.Helper()
	may := r.is.may(-1)
	if len(may) == 0 {
		is(r.t, r.book.Commit(), api.OK)
	}
	s := 0
	r.within(2, func() {
		var err error
		s, err = r.depot.Put(p)
		if r.given(s, err, may) {
			r.is.put(s, p)
		}
	})
	return s
}

// drop is Drop of any number.
func (r *run) drop(s int) {
	r.t.Helper()
	want := r.wanted(s)
	r.within(r.pagesOf(want, 1), func() {
		is(r.t, r.depot.Drop(s), want)
		if want == api.OK {
			r.is.drop(s)
		}
	})
}

// move is Move of any number; the slot. What was changed ahead of one that has no room is committed.
func (r *run) move(s int) int {
	r.t.Helper()
	want := r.wanted(s)
	may := r.is.may(s / 4)
	if len(may) == 0 {
		is(r.t, r.book.Commit(), api.OK)
	}
	to := 0
	r.within(r.pagesOf(want, 3), func() {
		var err error
		to, err = r.depot.Move(s)
		if want != api.OK {
			is(r.t, err, want)
			if to != 0 {
				r.t.Fatalf("slot %d is told beside an error", to)
			}
		} else if r.given(to, err, may) {
			r.is.put(to, r.is[s].block)
			r.is.drop(s)
		}
	})
	return to
}

// wanted is the error of Get of any number.
func (r *run) wanted(s int) api.Errno {
	if s < 0 || s >= len(r.is) {
		return api.ErrArg
	}
	if r.is[s].is != live {
		return api.ErrNone
	}
	return api.OK
}

// pagesOf is how many pages may change: none, where there is an error that leaves nothing.
func (r *run) pagesOf(want api.Errno, n int) int {
	if want != api.OK {
		return 0
	}
	return n
}

// filled puts so many blocks.
func (r *run) filled(n int) *run {
	r.t.Helper()
	for i := range n {
		r.put(page(i))
		// No transaction has more pages than may be.
		is(r.t, r.book.Commit(), api.OK)
	}
	return r
}

// P7.1, P7.2: the chapter's example.
func TestExample(t *testing.T) {
	r := begun(t, 3)
	a := r.put(page(1))
	b := r.put(page(2))
	if a == b || a/4 != b/4 {
		t.Fatalf("the blocks are in slots %d and %d", a, b)
	}
	r.drop(a)
	if x, y, z, err := r.depot.Count(); x != 1 || y != 1 || z != 10 || err != nil {
		t.Fatal(x, y, z, err)
	}
	r.drop(b)
	if x, y, z, err := r.depot.Count(); x != 0 || y != 0 || z != 12 || err != nil {
		t.Fatal(x, y, z, err)
	}
}

// P7.1: Pages is five times its argument.
func TestPages(t *testing.T) {
	for _, c := range [][2]int{{0, 0}, {1, 5}, {2, 10}, {3, 15}, {63, 315}, {64, 320}, {65, 325}, {1000, 5000}, {-1, -5}, {-64, -320}, {1 << 40, 5 << 40}} {
		if n := depot.Pages(c[0]); n != c[1] {
			t.Errorf("Pages(%d) is %d, want %d", c[0], n, c[1])
		}
	}
}

// P7.1: New answers a depot of all slots free on pages of zeros, just where the book has so many pages from first on.
func TestNewBounds(t *testing.T) {
	for boxes := 1; boxes <= api.MaxBoxes; boxes++ {
		for _, first := range []int{0, 1, 5, 100} {
			b := bound(t, first+5*boxes)
			r := on(t, b, first, make(model, 4*boxes))
			r.looked()
			refused(t, b, first+1, boxes)
			refused(t, b, first+5, boxes)
			refused(t, b, math.MaxInt, boxes)
			refused(t, bound(t, first+5*boxes-1), first, boxes)
		}
	}
	b := bound(t, 2048)
	on(t, b, 2048-320, make(model, 256)).looked()
	refused(t, b, 2048-319, 64)
	on(t, b, 2043, make(model, 4)).looked()
	refused(t, b, 2044, 1)
	refused(t, b, 2039, 2)
}

// P7.1: ErrArg of New: no book, a first page below 0, too few or too many containers, however great; a book that is broken isn't asked.
func TestNewWrongArguments(t *testing.T) {
	for _, b := range []*pages.Book{bound(t, 400), broken(t, 400)} {
		for _, boxes := range []int{0, -1, -2, -64, 65, 66, 80, 128, 1 << 31, 1 << 32, 1<<32 + 1, -1 << 32, 1 << 61, 1 << 62, math.MinInt, math.MinInt + 1, math.MaxInt, math.MaxInt / 5, math.MinInt / 5, math.MaxInt/5 + 1} {
			for _, first := range []int{0, 1, 399, -1, math.MinInt, math.MaxInt} {
				refused(t, b, first, boxes)
			}
		}
		for _, first := range []int{-1, -2, -5, -400, 396, 399, 400, 401, 1 << 31, 1 << 32, -1 << 32, 1 << 62, math.MinInt, math.MinInt + 4, math.MaxInt, math.MaxInt - 4, math.MaxInt - 5} {
			for _, boxes := range []int{1, 2, 64} {
				refused(t, b, first, boxes)
			}
		}
		opened(t, b, 0, 64)
		opened(t, b, 80, 64)
		opened(t, b, 395, 1)
	}
	for _, b := range []*pages.Book{nil, {}} {
		for _, boxes := range []int{-1, 0, 1, 64, 65, math.MaxInt} {
			for _, first := range []int{-400, -5, -1, 0, 1, math.MaxInt} {
				refused(t, b, first, boxes)
			}
		}
	}
}

// P7.1, P7.2: blocks are given all slots, each once, container by container; then there is no room; and all of it is free again, when all is dropped.
func TestFillAndDrain(t *testing.T) {
	for _, boxes := range []int{1, 2, 3, 7, 63, 64} {
		r := begun(t, boxes).filled(4 * boxes)
		if x, y, z, err := r.depot.Count(); x != 4*boxes || y != 0 || z != 0 || err != nil {
			t.Fatal(x, y, z, err)
		}
		r.put(page(9999))
		r.put(disk.Page{})
		for s := range r.is {
			r.drop(s)
			is(t, r.book.Commit(), api.OK)
		}
		if x, y, z, err := r.depot.Count(); x != 0 || y != 0 || z != 4*boxes || err != nil {
			t.Fatal(x, y, z, err)
		}
		r.filled(4 * boxes)
	}
}

// P7.1: blocks of zeros, blocks that are alike, and blocks of all ones each have a slot of their own.
func TestAllBlocks(t *testing.T) {
	ones := disk.Page(slices.Repeat([]byte{255}, api.Sector))
	r := begun(t, 2)
	var l []int
	for _, p := range []disk.Page{{}, {}, ones, ones, page(1), page(1), {1}, {}} {
		l = append(l, r.put(p))
	}
	slices.Sort(l)
	if !slices.Equal(l, []int{0, 1, 2, 3, 4, 5, 6, 7}) {
		t.Errorf("the blocks are in slots %v", l)
	}
}

// orders are all orders of the numbers below n.
func orders(n int) [][]int {
	if n == 0 {
		return [][]int{nil}
	}
	var l [][]int
	for _, o := range orders(n - 1) {
		for i := range n {
			l = append(l, slices.Insert(slices.Clone(o), i, n-1))
		}
	}
	return l
}

// P7.1, P7.2: a dead slot is given no block, till the last live one of its container is dropped; then all of them are free. In all orders of drops, with one to four blocks in the container.
func TestDeadIsNotFree(t *testing.T) {
	for n := 1; n <= 4; n++ {
		for _, order := range orders(n) {
			r := begun(t, 1).filled(n)
			for i, at := range order {
				r.drop(r.is.are(live, 0)[rank(order[i+1:], at)])
				x, y, z, err := r.depot.Count()
				want := [3]int{n - i - 1, i + 1, 4 - n}
				if i == n-1 {
					want = [3]int{0, 0, 4}
				}
				if [3]int{x, y, z} != want || err != nil {
					t.Fatalf("behind %d drops of %d slots are %d, %d, %d, want %v", i+1, n, x, y, z, want)
				}
			}
			r.filled(4)
			r.put(page(1))
		}
	}
}

// rank is how many of l are below x.
func rank(l []int, x int) int {
	n := 0
	for _, y := range l {
		if y < x {
			n++
		}
	}
	return n
}

// P7.1: a free slot beside dead ones is given the next block, ahead of those of containers that are all free.
func TestBegunContainersFirst(t *testing.T) {
	r := begun(t, 4)
	a := r.put(page(1))
	b := r.put(page(2))
	r.drop(a)
	if c := r.put(page(3)); c/4 != b/4 || c == a {
		t.Fatalf("slot %d isn't a free one of the container that is begun", c)
	}
	if c := r.put(page(4)); c/4 != b/4 || c == a {
		t.Fatalf("slot %d isn't a free one of the container that is begun", c)
	}
	// No free one is left there, though one is dead.
	if c := r.put(page(5)); c/4 == b/4 {
		t.Fatalf("slot %d is of the container that has no free one", c)
	}
}

// P7.1: Move goes to another container: to one that is begun, if that has a free slot; else to one that is all free; ErrSpace, if there is none, though its own has one. The last live slot's leaving frees its container.
func TestMove(t *testing.T) {
	r := begun(t, 1).filled(2)
	r.move(r.is.are(live, 0)[0])

	r = begun(t, 3).filled(2)
	home := r.is.are(live, 0)[0] / 4
	one := r.move(r.is.are(live, 0)[0])
	if one/4 == home {
		t.Fatalf("slot %d is of the same container", one)
	}
	two := r.move(r.is.box(home).are(live, 4*home)[0])
	if two/4 != one/4 {
		t.Fatalf("slot %d isn't of the container that is begun", two)
	}
	if r.is.box(home).count(free) != 4 {
		t.Fatal("the container that was left isn't free")
	}

	r = begun(t, 2).filled(8)
	r.move(3)
	r.drop(5)
	r.move(3) // a dead slot is no room
	for _, s := range []int{4, 6, 7} {
		r.drop(s)
	}
	for s := range 4 {
		if to := r.move(s); to/4 != 1 {
			t.Fatalf("the block is in slot %d", to)
		}
	}
}

// P7.1: a Move back and forth keeps the block, whatever it is.
func TestMoveKeepsTheBlock(t *testing.T) {
	for _, p := range []disk.Page{{}, page(7), {63: 1}} {
		r := begun(t, 2)
		s := r.put(p)
		for range 10 {
			s = r.move(s)
			if x, y, z, err := r.depot.Count(); x != 1 || y != 0 || z != 7 || err != nil {
				t.Fatal(x, y, z, err)
			}
		}
	}
}

// P7.1: the container with most dead slots, and of several the first.
func TestWorst(t *testing.T) {
	for _, c := range []struct {
		drops     []int
		box, most int
	}{
		{nil, 0, 0},
		{[]int{15}, 3, 1},
		{[]int{15, 8}, 2, 1},
		{[]int{15, 8, 12}, 3, 2},
		{[]int{15, 8, 12, 9}, 2, 2},
		{[]int{15, 8, 12, 9, 0, 1}, 0, 2},
		{[]int{15, 8, 12, 9, 0, 1, 5, 6, 7}, 1, 3},
		{[]int{15, 8, 12, 9, 0, 1, 5, 6, 7, 4}, 0, 2},
		{[]int{0, 1, 2, 3}, 0, 0},
		{[]int{0, 1, 2, 3, 14}, 3, 1},
	} {
		r := begun(t, 4).filled(16)
		for _, s := range c.drops {
			r.drop(s)
		}
		if box, n, err := r.depot.Worst(); box != c.box || n != c.most || err != nil {
			t.Errorf("behind drops of %v the worst is %d, with %d dead slots, %v; want %d, %d", c.drops, box, n, err, c.box, c.most)
		}
	}
}

// P7.1: a container's live slots, rising; the list is new memory.
func TestSlots(t *testing.T) {
	r := begun(t, 3).filled(12)
	r.drop(5)
	r.drop(11)
	for box, want := range [][]int{{0, 1, 2, 3}, {4, 6, 7}, {8, 9, 10}} {
		l, err := r.depot.Slots(box)
		if err != nil || !slices.Equal(l, want) {
			t.Errorf("of container %d slots %v are live, %v, want %v", box, l, err, want)
		}
		for i := range l {
			l[i] = 77
		}
		_ = append(l, 78)
		if l, _ := r.depot.Slots(box); !slices.Equal(l, want) {
			t.Errorf("of container %d slots %v are live, want %v", box, l, want)
		}
	}
	for _, s := range []int{4, 6, 7} {
		r.drop(s)
	}
	if l, err := r.depot.Slots(1); len(l) != 0 || err != nil {
		t.Errorf("of a free container slots %v are live, %v", l, err)
	}
}

// nothing holds each call of a slot, or of a container, that there isn't, against ErrArg.
func nothing(t testing.TB, d *depot.Depot, slots, boxes int) {
	t.Helper()
	for _, s := range beyond(slots) {
		p, err := d.Get(s)
		is(t, err, api.ErrArg)
		is(t, d.Drop(s), api.ErrArg)
		to, err := d.Move(s)
		is(t, err, api.ErrArg)
		if p != (disk.Page{}) || to != 0 {
			t.Fatalf("of slot %d %v and %d are told beside an error", s, p, to)
		}
	}
	for _, box := range beyond(boxes) {
		l, err := d.Slots(box)
		is(t, err, api.ErrArg)
		if len(l) != 0 {
			t.Fatalf("of container %d %v is told beside an error", box, l)
		}
	}
}

// P7.1: ErrArg of a slot or a container that there isn't, ahead of ErrSpace and of ErrOff; nothing changes.
func TestNoSuchSlot(t *testing.T) {
	for _, boxes := range []int{1, 2, 5, 62} {
		for _, n := range []int{0, 3, 4 * boxes} {
			r := begun(t, boxes).filled(n)
			r.within(0, func() { nothing(t, r.depot, 4*boxes, boxes) })
		}
		nothing(t, opened(t, broken(t, 400), 7, boxes), 4*boxes, boxes)
	}
	r := begun(t, 64).filled(256)
	r.within(0, func() {
		for _, s := range []int{-1, 256, 257, math.MinInt, math.MaxInt} {
			_, err := r.depot.Get(s)
			is(t, err, api.ErrArg)
			is(t, r.depot.Drop(s), api.ErrArg)
			_, err = r.depot.Move(s)
			is(t, err, api.ErrArg)
		}
		for _, box := range []int{-1, 64, 65, math.MinInt, math.MaxInt} {
			_, err := r.depot.Slots(box)
			is(t, err, api.ErrArg)
		}
	})
}

// P7.1: ErrNone of a slot that is free or dead, ahead of ErrSpace; nothing changes.
func TestNotLive(t *testing.T) {
	r := begun(t, 2)
	for s := range 8 {
		r.drop(s)
		r.move(s)
	}
	r.filled(8)
	r.drop(2)
	is(t, r.book.Commit(), api.OK)
	// Of a dead slot nothing is to be moved, though there is no room for it either.
	to, err := r.depot.Move(2)
	is(t, err, api.ErrNone)
	if to != 0 {
		t.Errorf("slot %d is told beside an error", to)
	}
	r.drop(2)
	r.move(2)
	for _, s := range []int{0, 1, 3} {
		r.drop(s)
	}
	for s := range 4 {
		r.drop(s)
		r.move(s)
	}
}

// states tells what each slot is.
func (m model) states() string {
	b := make([]byte, len(m))
	for i, s := range m {
		b[i] = byte('0' + s.is)
	}
	return string(b)
}

// P7.1, P7.2: each call, at all states that a depot of one or two containers can come to.
func TestAllStates(t *testing.T) {
	for _, boxes := range []int{1, 2} {
		type state struct {
			is  model
			has []disk.Page
		}
		b := bound(t, 5*boxes+2)
		seen := map[string]bool{}
		work := []state{{make(model, 4*boxes), all(t, b)}}
		n := 0
		for len(work) > 0 {
			from := work[0]
			work = work[1:]
			if seen[from.is.states()] {
				continue
			}
			seen[from.is.states()] = true
			for call := range 1 + 8*boxes {
				b.Undo()
				for i, p := range from.has {
					is(t, b.Write(i, p), api.OK)
				}
				// A call that has no room commits what was changed, and undoes its own.
				r := on(t, b, 1, from.is.copy())
				n++
				switch {
				case call == 0:
					r.put(page(n))
				case call <= 4*boxes:
					r.drop(call - 1)
				default:
					r.move(call - 1 - 4*boxes)
				}
				work = append(work, state{r.is, all(t, b)})
			}
		}
		// A container is free, or has one to four slots, each live or dead, but not all dead. Of the pairs of these some few can't be come to.
		if want := []int{0, 1 + 1 + 3 + 7 + 15, 27 * 26}[boxes]; len(seen) < want {
			t.Errorf("of %d containers %d states were met, want %d", boxes, len(seen), want)
		}
	}
}

// P7.1, P7.2: by the words over long runs of all calls, with transactions that are committed and undone, books that are mounted again, and other depots' pages beside.
func TestRunsAgainstTheWords(t *testing.T) {
	for seed := range 12 {
		next := chance(seed)
		boxes := []int{1, 2, 3, 5, 9, 64}[seed%6]
		k := made(t, 5*boxes+next(20)+3)
		r := on(t, mounted(t, k), next(3), make(model, 4*boxes))
		kept := r.is.copy()
		eager := 3 + next(5) // how often of ten a call is a Put, by turns
		for n := range 1500 {
			if n%200 == 0 {
				eager = 10 - eager
			}
			r.call(n, eager, next)
			// No transaction has more pages than may be.
			if next(9) == 0 || n%15 == 0 || len(r.is.may(-1)) == 0 {
				is(t, r.book.Commit(), api.OK)
				kept = r.is.copy()
			}
			if next(40) == 0 {
				r.book.Undo()
				r.is = kept.copy()
				r.looked()
			}
			if next(100) == 0 {
				is(t, r.book.Sync(), api.OK)
				k = k.Crash(nil)
				r = on(t, mounted(t, k), r.first, kept.copy())
				r.looked()
			}
			if t.Failed() {
				t.Fatalf("seed %d, call %d", seed, n)
			}
		}
	}
}

// call is one of all calls that change something.
func (r *run) call(n, eager int, next func(int) int) {
	r.t.Helper()
	alive := r.is.are(live, 0)
	which := next(len(r.is)+4) - 2
	if len(alive) > 0 && next(10) > 0 {
		which = alive[next(len(alive))]
	}
	if x := next(10); x < eager {
		r.put(page(n))
	} else if x%3 == 0 && len(r.is.may(which/4)) > 0 {
		r.move(which)
	} else {
		r.drop(which)
	}
}

// P7.1: what is changed is changed in the book's transaction: Undo takes all of it back, a crash loses it till it was committed and synced, and then nothing.
func TestTransactions(t *testing.T) {
	k := made(t, 30)
	b := mounted(t, k)
	r := on(t, b, 2, make(model, 12)).filled(7)
	r.drop(1)
	is(t, b.Commit(), api.OK)
	is(t, b.Sync(), api.OK)
	kept, lies := r.is.copy(), all(t, b)
	r.put(page(100))
	r.drop(2)
	r.move(5)
	if k.Pending() != 0 {
		t.Fatal("something was written ahead of a commit")
	}
	b.Undo()
	if !slices.Equal(all(t, b), lies) {
		t.Fatal("something is left of what was undone")
	}
	r.is = kept.copy()
	r.looked()
	r.put(page(101))
	is(t, b.Commit(), api.OK)
	lost := on(t, mounted(t, k.Crash(nil)), 2, kept.copy())
	lost.looked()
	is(t, b.Sync(), api.OK)
	found := on(t, mounted(t, k.Crash(nil)), 2, r.is.copy())
	found.looked()
	found.put(page(102))
}

// P7.1: no call takes a step of the disk: they read, and change the transaction.
func TestNoSteps(t *testing.T) {
	k := made(t, 30)
	r := on(t, mounted(t, k), 2, make(model, 12))
	k.Fuel(0)
	for i := range 6 {
		r.put(page(i))
	}
	r.drop(0)
	r.move(1)
	if k.Off() || k.Pending() != 0 {
		t.Fatal("a call has taken a step")
	}
}

// crowded takes all but so many places of a book's transaction, by pages behind at.
func crowded(t testing.TB, b *pages.Book, at, left int) {
	t.Helper()
	for i := range api.MaxTxn - left {
		is(t, b.Write(at+i, page(i)), api.OK)
	}
}

// P7.1: a Put takes two places of a transaction, a Drop one, a Move three; with fewer left: ErrLarge, and behind an Undo all is as it was.
func TestErrLarge(t *testing.T) {
	for left := range 5 {
		b := bound(t, 110)
		r := on(t, b, 0, make(model, 16)).filled(5)
		calls := []struct {
			takes int
			call  func() (int, error)
		}{
			{2, func() (int, error) { return r.depot.Put(page(50)) }},
			{1, func() (int, error) { return 0, r.depot.Drop(1) }},
			{3, func() (int, error) { return r.depot.Move(2) }},
		}
		for _, c := range calls {
			crowded(t, b, 30, left)
			s, err := c.call()
			if left < c.takes {
				is(t, err, api.ErrLarge)
				if s != 0 {
					t.Errorf("slot %d is told beside an error", s)
				}
			} else {
				is(t, err, api.OK)
			}
			b.Undo()
			r.looked()
		}
		crowded(t, b, 30, 0)
		nothing(t, r.depot, 16, 4)
		r.looked()
		b.Undo()
	}
}

// P7.1: where a container's head is in the transaction already, a Put into it takes one place more, that of the block: without it ErrLarge, and no slot has it.
func TestErrLargeOfTheBlock(t *testing.T) {
	for left := range 3 {
		b := bound(t, 110)
		r := on(t, b, 0, make(model, 16)).filled(2)
		is(t, r.depot.Drop(1), api.OK)
		crowded(t, b, 30, left+1) // one of these places is the Drop's
		s, err := r.depot.Put(page(50))
		if left == 0 {
			is(t, err, api.ErrLarge)
			if s != 0 {
				t.Errorf("slot %d is told beside an error", s)
			}
		} else {
			is(t, err, api.OK)
			if p, err := r.depot.Get(s); p != page(50) || err != nil {
				t.Errorf("slot %d has %v, %v", s, p, err)
			}
		}
		b.Undo()
		r.looked()
	}
}

// off holds all calls that there is a slot for against ErrOff.
func off(t testing.TB, d *depot.Depot, s int) {
	t.Helper()
	p, err := d.Get(s)
	is(t, err, api.ErrOff)
	to, err := d.Put(page(1))
	is(t, err, api.ErrOff)
	is(t, d.Drop(s), api.ErrOff)
	moved, err := d.Move(s)
	is(t, err, api.ErrOff)
	l, err := d.Slots(s / 4)
	is(t, err, api.ErrOff)
	box, n, err := d.Worst()
	is(t, err, api.ErrOff)
	x, y, z, err := d.Count()
	is(t, err, api.ErrOff)
	if p != (disk.Page{}) || to != 0 || moved != 0 || len(l) != 0 || box != 0 || n != 0 || x != 0 || y != 0 || z != 0 {
		t.Errorf("beside ErrOff are told %v, %d, %d, %v, %d, %d, %d, %d, %d", p, to, moved, l, box, n, x, y, z)
	}
}

// P7.1: ErrOff, with zeros, of a book that is broken.
func TestBrokenBook(t *testing.T) {
	for _, boxes := range []int{1, 3, 64} {
		k := made(t, 5*boxes)
		b := mounted(t, k)
		r := on(t, b, 0, make(model, 4*boxes))
		r.put(page(1))
		r.put(page(2))
		r.drop(0)
		is(t, b.Commit(), api.OK)
		k.Fuel(0)
		is(t, b.Sync(), api.ErrOff)
		for s := range 4 {
			off(t, r.depot, s)
		}
		nothing(t, r.depot, 4*boxes, boxes)
	}
	off(t, opened(t, broken(t, 20), 3, 2), 5)
}

// out is a disk's going off, by whom no book is broken.
func out(t testing.TB, k *disk.Disk) {
	t.Helper()
	k.Fuel(0)
	is(t, k.Flush(), api.ErrOff)
}

// P7.1: of a disk that is off, whose book isn't broken: what lies in the transaction or in the news is told and changed, what lies at home alone is ErrOff.
func TestOffButNotBroken(t *testing.T) {
	k := made(t, 20)
	r := on(t, mounted(t, k), 1, make(model, 8))
	out(t, k)
	off(t, r.depot, 0)

	// All pages of this book are the depot's, and all of them are news.
	k = made(t, 10)
	r = on(t, mounted(t, k), 0, make(model, 8)).filled(8)
	out(t, k)
	r.looked()
	r.drop(3)
	_, err := r.depot.Move(4)
	is(t, err, api.ErrSpace)
	to, err := r.depot.Put(page(50))
	is(t, err, api.ErrSpace)
	if to != 0 {
		t.Errorf("slot %d is told beside an error", to)
	}
	for _, s := range []int{0, 1, 2} {
		r.drop(s)
	}
	r.drop(0)
	r.looked()
	r.put(page(51))
	r.move(5)
}

// P7.1: Drop and Move tell each error of Get, that of a block which can't be read too.
func TestGetsErrors(t *testing.T) {
	k := made(t, 10)
	b := mounted(t, k)
	r := on(t, b, 0, make(model, 8)).filled(6)
	is(t, b.Sync(), api.OK)
	k = k.Crash(nil)
	b = mounted(t, k)
	r = on(t, b, 0, r.is)
	// Both heads come into the transaction, the blocks stay at home.
	r.drop(0)
	r.drop(4)
	out(t, k)
	before, err := r.depot.Slots(0)
	is(t, err, api.OK)
	for _, s := range []int{1, 2, 3, 5} {
		p, err := r.depot.Get(s)
		is(t, err, api.ErrOff)
		is(t, r.depot.Drop(s), api.ErrOff)
		to, err := r.depot.Move(s)
		is(t, err, api.ErrOff)
		if p != (disk.Page{}) || to != 0 {
			t.Errorf("of slot %d %v and %d are told beside an error", s, p, to)
		}
	}
	for _, s := range []int{0, 4, 6, 7} {
		_, err := r.depot.Get(s)
		is(t, err, api.ErrNone)
		is(t, r.depot.Drop(s), api.ErrNone)
		_, err = r.depot.Move(s)
		is(t, err, api.ErrNone)
	}
	if l, err := r.depot.Slots(0); !slices.Equal(l, before) || err != nil {
		t.Errorf("slots %v are live, %v, want %v", l, err, before)
	}
	r.counted()
}

// P7.1: depots side by side on one book are apart, and two depots on the same pages are one.
func TestDepotsOfOneBook(t *testing.T) {
	b := bound(t, 40)
	x := on(t, b, 3, make(model, 12))
	y := on(t, b, 18, make(model, 16))
	for i := range 12 {
		x.put(page(i))
		y.put(page(i + 100))
		if i%3 == 0 {
			y.drop(y.is.are(live, 0)[0])
			y.looked()
		}
		x.looked()
		is(t, b.Commit(), api.OK)
	}
	for s := range 12 {
		x.drop(s)
		y.looked()
		is(t, b.Commit(), api.OK)
	}
	same := on(t, b, 18, y.is)
	for i := range 5 {
		y.put(page(i + 200))
		same.looked()
		same.drop(same.is.are(live, 0)[0])
		y.looked()
		is(t, b.Commit(), api.OK)
	}
}

// P7.1: depots on two books are two.
func TestDepotsOfTwoBooks(t *testing.T) {
	x, y := begun(t, 2), begun(t, 2)
	x.put(page(1))
	y.looked()
	y.put(page(2))
	y.put(page(3))
	x.looked()
}

// P7.1: the greatest depot, at the end of the greatest book: each block lies where it was put, behind a crash too.
func TestGreatestDepot(t *testing.T) {
	k := made(t, 2048)
	b := mounted(t, k)
	r := on(t, b, 2048-320, make(model, 256)).filled(256)
	r.put(page(1))
	is(t, b.Sync(), api.OK)
	r = on(t, mounted(t, k.Crash(nil)), 2048-320, r.is)
	r.looked()
	r.put(page(1))
	for s := 0; s < 256; s += 3 {
		r.drop(s)
		is(t, r.book.Commit(), api.OK)
	}
	r.put(page(1))
}

// P7.1 and rule 7: of a nil *Depot: ErrArg, with zeros.
func TestNilDepot(t *testing.T) {
	var d *depot.Depot
	for _, n := range append(beyond(4), 0, 1, 2, 3) {
		p, err := d.Get(n)
		is(t, err, api.ErrArg)
		is(t, d.Drop(n), api.ErrArg)
		to, err := d.Move(n)
		is(t, err, api.ErrArg)
		l, err := d.Slots(n)
		is(t, err, api.ErrArg)
		if p != (disk.Page{}) || to != 0 || len(l) != 0 {
			t.Errorf("of %d %v, %d and %v are told beside an error", n, p, to, l)
		}
	}
	s, err := d.Put(page(1))
	is(t, err, api.ErrArg)
	box, n, err := d.Worst()
	is(t, err, api.ErrArg)
	x, y, z, err := d.Count()
	is(t, err, api.ErrArg)
	if s != 0 || box != 0 || n != 0 || x != 0 || y != 0 || z != 0 {
		t.Errorf("beside ErrArg are told %d, %d, %d, %d, %d, %d", s, box, n, x, y, z)
	}
}

// P0: a depot that New didn't make doesn't panic.
func TestOddDepots(t *testing.T) {
	d := &depot.Depot{}
	for _, n := range append(beyond(4), 0, 1, 2, 3) {
		_, _ = d.Get(n)
		_ = d.Drop(n)
		_, _ = d.Move(n)
		_, _ = d.Slots(n)
	}
	_, _ = d.Put(page(1))
	_, _, _ = d.Worst()
	_, _, _, _ = d.Count()
}

// seen is what a depot tells of its slots, whatever lies there, by Get and Slots; where the two differ it fails.
func seen(t testing.TB, d *depot.Depot, boxes int) model {
	t.Helper()
	m := make(model, 4*boxes)
	for s := range m {
		if p, err := d.Get(s); err == nil {
			m[s] = slot{is: live, block: p}
		} else {
			is(t, err, api.ErrNone)
		}
	}
	for box := range boxes {
		l, err := d.Slots(box)
		is(t, err, api.OK)
		if !slices.Equal(l, m.box(box).are(live, 4*box)) {
			t.Fatalf("of container %d slots %v are live, but not by Get", box, l)
		}
	}
	return m
}

// P0, P7.2: whatever bytes lie on the pages, no call panics, all slots are live, dead or free, and where none is live none is dead; all that is dropped leaves a depot all of whose slots are free.
func TestWhateverLiesThere(t *testing.T) {
	for seed := range 300 {
		next := chance(seed + 1000)
		const boxes = 3
		b := bound(t, 5*boxes)
		for i := range 5 * boxes {
			var p disk.Page
			for j := range p {
				p[j] = byte(next([]int{2, 3, 4, 16, 256}[seed%5]))
			}
			is(t, b.Write(i, p), api.OK)
		}
		d := opened(t, b, 0, boxes)
		for range 40 {
			x, y, z, err := d.Count()
			is(t, err, api.OK)
			m := seen(t, d, boxes)
			if x != m.count(live) || x+y+z != 4*boxes || x == 0 && y != 0 {
				t.Fatalf("seed %d: %d live, %d dead, %d free slots; %d are told", seed, x, y, z, m.count(live))
			}
			box, n, err := d.Worst()
			is(t, err, api.OK)
			if n > y || (n == 0) != (y == 0) || n > 0 && m.box(box).count(live) == 0 {
				t.Fatalf("seed %d: container %d has %d dead slots of %d", seed, box, n, y)
			}
			switch next(3) {
			case 0:
				_, err = d.Put(page(seed))
				if (err == nil) != (z > 0) {
					t.Fatalf("seed %d: Put tells %v with %d free slots", seed, err, z)
				}
			case 1:
				_, _ = d.Move(next(4 * boxes))
			default:
				_ = d.Drop(next(4 * boxes))
			}
		}
		for _, s := range seen(t, d, boxes).are(live, 0) {
			is(t, d.Drop(s), api.OK)
		}
		if x, y, z, err := d.Count(); x != 0 || y != 0 || z != 4*boxes || err != nil {
			t.Fatalf("seed %d: %d live, %d dead, %d free slots, %v", seed, x, y, z, err)
		}
	}
}
