package radix_test

import (
	"errors"
	"math"
	"slices"
	"testing"

	"bulkhead/api"
	"bulkhead/disk"
	"bulkhead/pages"
	"bulkhead/radix"
	"bulkhead/woe"
)

// ringSize is how many sectors the ring of each book has, with titles ahead of it.
const ringSize, titles = 96, 2

// most is the greatest number, whole how many nodes a forest takes all of whose blocks have one.
const most, whole = 1<<24 - 1, 68

// chance answers numbers below its argument, the same ones for the same seed.
func chance(seed int) func(n int) int {
	x := uint64(seed)*2654435761 + 12345
	return func(n int) int {
		x ^= x << 13
		x ^= x >> 7
		x ^= x << 17
		return int(x>>8) % n
	}
}

// is holds an error against a number: that one is found, and no other one.
func is(t testing.TB, err error, want api.Errno) {
	t.Helper()
	if want == api.OK {
		if err != nil {
			t.Fatalf("the error is %v, want none", err)
		}
		return
	}
	if err == nil || woe.Number(err) != want {
		t.Fatalf("the error is %v, want %v", err, want)
	}
	for n := api.Errno(-1); n < 40; n++ {
		if errors.Is(err, n) != (n == want) {
			t.Fatalf("the error is %v: it is taken for %v", err, n)
		}
	}
}

// made is a disk whose book has so many pages.
func made(t testing.TB, n int) *disk.Disk {
	t.Helper()
	k, err := disk.New(titles + ringSize + n)
	is(t, err, api.OK)
	return k
}

// mounted is the book of a disk.
func mounted(t testing.TB, k *disk.Disk) *pages.Book {
	t.Helper()
	b, err := pages.Mount(k, ringSize)
	is(t, err, api.OK)
	return b
}

// bound is a new book of so many pages.
func bound(t testing.TB, n int) *pages.Book {
	t.Helper()
	return mounted(t, made(t, n))
}

// broken is a book of so many pages that is broken.
func broken(t testing.TB, n int) *pages.Book {
	t.Helper()
	k := made(t, n)
	b := mounted(t, k)
	k.Fuel(0)
	is(t, b.Sync(), api.ErrOff)
	return b
}

// opened is the forest on pages of a book, which is to be made.
func opened(t testing.TB, b *pages.Book, first, n int) *radix.Forest {
	t.Helper()
	f, err := radix.New(b, first, n)
	is(t, err, api.OK)
	if f == nil {
		t.Fatal("New answers neither a forest nor an error")
	}
	return f
}

// refused holds a New against ErrArg.
func refused(t testing.TB, b *pages.Book, first, n int) {
	t.Helper()
	f, err := radix.New(b, first, n)
	if f != nil {
		t.Errorf("New(%d, %d) of %d pages answers a forest", first, n, b.Pages())
	}
	is(t, err, api.ErrArg)
}

// all are all pages of a book.
func all(t testing.TB, b *pages.Book) []disk.Page {
	t.Helper()
	l := make([]disk.Page, b.Pages())
	for i := range l {
		p, err := b.Read(i)
		is(t, err, api.OK)
		l[i] = p
	}
	return l
}

// beyond are numbers that are none of n.
func beyond(n int) []int {
	return []int{-1, -2, -15, -16, -n, n, n + 1, n + 15, n + 16, 1 << 31, 1 << 32, 1<<32 + 1, -1 << 32, 1 << 62, math.MinInt, math.MinInt + 1, math.MaxInt, math.MaxInt - 3}
}

// A model is the numbers of each unit's blocks, by the words.
type model [4][256]int

// nodes is how many are taken, by the words.
func (m *model) nodes() int {
	n := 0
	for lun := range m {
		own := 0
		for at := 0; at < 256; at += 16 {
			if slices.ContainsFunc(m[lun][at:at+16], func(x int) bool { return x != 0 }) {
				own++
			}
		}
		if own > 0 {
			n += 1 + own
		}
	}
	return n
}

// set is m, with a number set.
func (m model) set(lun, block, x int) model {
	m[lun][block] = x
	return m
}

// A run is calls of a forest, each held against the words.
type run struct {
	t      testing.TB
	book   *pages.Book
	forest *radix.Forest
	first  int
	n      int
	is     model
	kept   model // as of the last commit
}

// begun is a run on a forest of zeros, with some pages ahead and behind that aren't the forest's.
func begun(t testing.TB, n int) *run {
	t.Helper()
	return on(t, bound(t, 3+1+n+2), 3, n, model{})
}

// on is a run on a forest that has what m says.
func on(t testing.TB, b *pages.Book, first, n int, m model) *run {
	t.Helper()
	return &run{t: t, book: b, forest: opened(t, b, first, n), first: first, n: n, is: m, kept: m}
}

// counted holds Nodes against the words.
func (r *run) counted() {
	r.t.Helper()
	n, err := r.forest.Nodes()
	is(r.t, err, api.OK)
	if n != r.is.nodes() {
		r.t.Fatalf("%d nodes are taken, want %d", n, r.is.nodes())
	}
}

// looked holds all that a forest tells against the words.
func (r *run) looked() {
	r.t.Helper()
	r.counted()
	for lun := range r.is {
		for block, want := range r.is[lun] {
			x, err := r.forest.Get(lun, block)
			if err != nil || x != want {
				r.t.Fatalf("block %d of unit %d has %d, %v, want %d", block, lun, x, err, want)
			}
		}
	}
}

// wanted is what Set of any numbers is to tell, where nothing hinders the book.
func (r *run) wanted(lun, block, x int) api.Errno {
	if lun < 0 || lun > 3 || block < 0 || block > 255 || x < 0 || x > most {
		return api.ErrArg
	}
	if m := r.is.set(lun, block, x); m.nodes() > r.n {
		return api.ErrNodes
	}
	return api.OK
}

// set is Set of any numbers: three pages change at most, that are the forest's;
// with ErrArg none. Behind ErrNodes the transaction is undone.
func (r *run) set(lun, block, x int) bool {
	r.t.Helper()
	before := all(r.t, r.book)
	want := r.wanted(lun, block, x)
	is(r.t, r.forest.Set(lun, block, x), want)
	r.within(before, want != api.ErrArg)
	switch want {
	case api.OK:
		r.is[lun][block] = x
	case api.ErrNodes:
		r.undo()
	}
	return want == api.OK
}

// within holds what one Set has changed against the words.
func (r *run) within(before []disk.Page, may bool) {
	r.t.Helper()
	n := 0
	for at, p := range all(r.t, r.book) {
		if p == before[at] {
			continue
		}
		n++
		if at < r.first || at > r.first+r.n {
			r.t.Fatalf("page %d has changed, which isn't the forest's", at)
		}
	}
	if n > 3 || n > 0 && !may {
		r.t.Fatalf("%d pages have changed", n)
	}
}

// quick is Set, where it is to be done, without a look at the pages.
func (r *run) quick(lun, block, x int) {
	r.t.Helper()
	is(r.t, r.forest.Set(lun, block, x), api.OK)
	r.is[lun][block] = x
}

// commit does the transaction under way.
func (r *run) commit() {
	r.t.Helper()
	is(r.t, r.book.Commit(), api.OK)
	r.kept = r.is
}

// undo makes the transaction under way as if it had never been.
func (r *run) undo() {
	r.book.Undo()
	r.is = r.kept
}

// filled gives each block that has room a number of its own, by sixteens in an order that the seed says.
func (r *run) filled(seed int) *run {
	r.t.Helper()
	next := chance(seed)
	for _, s := range shuffled(64, next) {
		lun, at := s/16, s%16*16
		if r.wanted(lun, at, 1) != api.OK {
			continue
		}
		for i := range 16 {
			r.quick(lun, at+i, 1+next(most))
		}
		r.commit()
	}
	return r
}

// shuffled are the numbers below n, in some order.
func shuffled(n int, next func(n int) int) []int {
	l := make([]int, n)
	for i := range l {
		j := next(i + 1)
		l[i], l[j] = l[j], i
	}
	return l
}

// P9.1, P9.2: the chapter's example.
func TestExample(t *testing.T) {
	for _, n := range []int{3, 4, 68, 300} {
		r := begun(t, n)
		for i, c := range [][4]int{{0, 0, 5, 2}, {0, 15, 6, 2}, {0, 16, 7, 3}, {0, 0, 0, 3}, {0, 15, 0, 2}, {0, 16, 0, 0}} {
			r.set(c[0], c[1], c[2])
			if k, err := r.forest.Nodes(); k != c[3] || err != nil {
				t.Fatalf("behind step %d of %d nodes %d are taken, %v", i, n, k, err)
			}
			r.looked()
		}
	}
}

// P9.1: New answers a forest without numbers on pages of zeros, just where the book has 1 + n pages from first on.
func TestNewBounds(t *testing.T) {
	for _, n := range []int{1, 2, 3, 63, 64, 68, 69, 255, 256, 1000, 1947} {
		for _, first := range []int{0, 1, 5, 100} {
			b := bound(t, first+1+n)
			on(t, b, first, n, model{}).looked()
			on(t, b, first+n-1, 1, model{}).looked()
			refused(t, b, first+1, n)
			refused(t, b, first, n+1)
			refused(t, b, first+n, 1)
			refused(t, b, first+n+1, 1)
			refused(t, b, first+n, n)
			refused(t, b, first, 4095)
		}
	}
	b := bound(t, 2048)
	on(t, b, 0, 2047, model{}).looked()
	on(t, b, 2046, 1, model{}).looked()
	refused(t, b, 0, 2048)
	refused(t, b, 1, 2047)
	refused(t, b, 2047, 1)
	refused(t, bound(t, 1), 0, 1)
}

// P9.1: ErrArg of New: no book, a first page below 0, nodes that aren't 1 to 4095 or more than there are pages, however great; a book that is broken isn't asked.
func TestNewWrongArguments(t *testing.T) {
	odd := []int{1 << 31, 1 << 32, 1<<32 + 1, -1 << 32, 1 << 62, math.MinInt, math.MinInt + 1, math.MaxInt, math.MaxInt - 1, math.MaxInt - 4}
	for _, b := range []*pages.Book{bound(t, 400), broken(t, 400)} {
		for _, n := range append(odd, 0, -1, -2, -400, 400, 401, 2048, 4094, 4095, 4096, 4097) {
			for _, first := range append(odd, 0, 1, 399, 400, -1) {
				refused(t, b, first, n)
			}
		}
		// Of these first pages, with so few nodes, the sum would be one of the book's.
		for _, n := range []int{0, -1, -2, -399, -400, -401} {
			for _, first := range []int{0, 1, 399, 400, 401} {
				refused(t, b, first, n)
			}
		}
		for _, first := range append(odd, -1, -2, -400, 399, 400, 401, 2048) {
			for _, n := range []int{1, 2, 5, 399} {
				refused(t, b, first, n)
			}
		}
		opened(t, b, 0, 399)
		opened(t, b, 398, 1)
		opened(t, b, 100, 299)
	}
	for _, b := range []*pages.Book{nil, {}} {
		for _, n := range append(odd, -1, 0, 1, 64) {
			for _, first := range append(odd, -64, -1, 0, 1) {
				refused(t, b, first, n)
			}
		}
	}
}

// P9.1, P9.2: each block of each unit has a number of its own, in several orders; they are set anew, and then all are left.
func TestEveryBlock(t *testing.T) {
	for seed := range 4 {
		r := begun(t, whole)
		for pass := range 3 {
			next := chance(seed)
			for i, at := range shuffled(1024, next) {
				x := []int{1 + at, most - at, 0}[pass]
				r.quick(at/256, at%256, x)
				r.counted()
				// No transaction has more pages than may be.
				if i%8 == 7 {
					r.commit()
				}
				if i%100 == 0 {
					r.looked()
				}
			}
			r.looked()
		}
	}
}

// P9.1: each number of 24 bits is kept: each bit for itself, and each one's neighbours, at each place of a sixteen.
func TestNumbers(t *testing.T) {
	some := []int{0, most}
	for bit := range 24 {
		some = append(some, 1<<bit, 1<<bit-1, most-1<<bit, 0x5a5a5a&(1<<bit-1)|1<<bit)
	}
	for _, at := range []int{0, 16, 240} {
		r := begun(t, 2)
		for i := range 16 {
			for k, x := range some {
				r.set(3, at+i, x)
				r.set(3, at+15-i, some[(k*7+i)%len(some)])
				r.looked()
			}
			r.commit()
		}
	}
}

// P9.2: a number alone takes two nodes, wherever it is; when it is left, none.
func TestOneNumber(t *testing.T) {
	r := begun(t, 2)
	for lun := range 4 {
		for block := range 256 {
			r.set(lun, block, 1+block)
			if n, err := r.forest.Nodes(); n != 2 || err != nil {
				t.Fatalf("block %d of unit %d: %d nodes are taken, %v", block, lun, n, err)
			}
			r.set(lun, block, 0)
			if n, err := r.forest.Nodes(); n != 0 || err != nil {
				t.Fatalf("block %d of unit %d was left: %d nodes are taken, %v", block, lun, n, err)
			}
			if block%16 == 3 {
				r.looked()
				r.commit()
			}
		}
	}
}

// P9.2: two numbers take two nodes in one sixteen, three in two of one unit, four in two units.
func TestTwoNumbers(t *testing.T) {
	edges := []int{0, 1, 14, 15, 16, 17, 31, 32, 127, 128, 239, 240, 241, 254, 255}
	r := begun(t, 4)
	for _, x := range edges {
		for _, y := range edges {
			for lun := range 4 {
				r.quick(1, x, 6)
				r.quick(lun, y, 7)
				want := 4
				if lun == 1 && x/16 == y/16 {
					want = 2
				} else if lun == 1 {
					want = 3
				}
				if n, err := r.forest.Nodes(); n != want || err != nil {
					t.Fatalf("block %d of unit 1 and %d of %d: %d nodes are taken, %v, want %d", x, y, lun, n, err, want)
				}
				r.looked()
				r.undo()
			}
		}
	}
}

// P9.1, P9.2: what is set as it is already changes nothing, 0 where nothing is too.
func TestSetAsItIs(t *testing.T) {
	r := begun(t, 20).filled(1)
	before := all(t, r.book)
	for lun := range r.is {
		for block, x := range r.is[lun] {
			r.quick(lun, block, x)
		}
	}
	if !slices.Equal(all(t, r.book), before) {
		t.Fatal("something has changed")
	}
	r.looked()
}

// P9.1: of a sixteen all of whose numbers were left nothing is left: whoever has a node next has just the numbers that were set there.
func TestTakenAnew(t *testing.T) {
	for _, n := range []int{2, 3, 5, 68} {
		r := begun(t, n)
		for s := range 64 {
			lun, at := s%4, s/4*16
			for i := range 16 {
				r.quick(lun, at+i, most-i)
			}
			r.looked()
			for i := range 16 {
				r.quick(lun, at+(i*5+s)%16, 0)
				r.counted()
			}
			next := (s + 1) % 64
			r.quick(next%4, next/4*16+s%16, 1+s)
			r.looked()
			r.quick(next%4, next/4*16+s%16, 0)
			r.commit()
		}
	}
}

// P9.1, P9.2: each Set at all states of few blocks, with each number of nodes.
func TestAllStates(t *testing.T) {
	some := [][2]int{{0, 0}, {0, 15}, {0, 16}, {3, 0}, {3, 255}}
	for n := 1; n <= 7; n++ {
		r := begun(t, n)
		for state := range 1 << len(some) {
			var m model
			for i, at := range some {
				m[at[0]][at[1]] = state >> i & 1 * 77
			}
			if m.nodes() > n {
				continue
			}
			for _, at := range some {
				for _, x := range []int{0, 77, most} {
					r.undo()
					for i := range some {
						// By turns from the first one on and from the last one on.
						c := some[(i*(1+3*(state%2))+state)%len(some)]
						r.quick(c[0], c[1], m[c[0]][c[1]])
					}
					r.looked()
					r.set(at[0], at[1], x)
					r.looked()
				}
			}
		}
	}
}

// P9.1, P9.2: forests of each number of nodes, filled till there is no room for any more: just what the words say has room; what has a node can be changed yet, and what is left is room again.
func TestErrNodes(t *testing.T) {
	for n := 1; n <= whole+2; n++ {
		r := begun(t, n).filled(n)
		r.looked()
		full := 0
		for s := range 64 {
			if !r.set(s/16, s%16*16+s%16, most-s) {
				full++
			}
			r.commit()
		}
		if (full == 0) != (n >= whole) {
			t.Fatalf("of %d nodes %d sixteens have no room", n, full)
		}
		r.looked()
		for s := range 64 {
			lun, at := s/16, s%16*16
			if r.is[lun][at+s%16] == 0 {
				continue
			}
			for i := range 16 {
				r.quick(lun, at+i, 0)
			}
			r.commit()
			for _, other := range []int{s + 1, s + 16, s} {
				r.set(other/16%4, other%16*16, 5)
				r.counted()
			}
			r.commit()
		}
		r.looked()
	}
}

// P9.1, P9.2: a sixteen of a unit that has others needs one node that is free, one of a unit that has nothing two; one that has a number needs none.
func TestLastNodes(t *testing.T) {
	for left, want := range [][3]bool{{false, false, true}, {true, false, true}, {true, true, true}} {
		for _, blocks := range []int{1, 2, 16} {
			r := begun(t, 1+blocks+left)
			for i := range blocks {
				r.set(2, i*16+i, 1+i)
			}
			r.commit()
			if blocks < 16 && r.set(2, 255, 9) != want[0] {
				t.Errorf("with %d nodes left one more of the unit: want %v", left, want[0])
			}
			r.undo()
			if r.set(1, 0, 9) != want[1] {
				t.Errorf("with %d nodes left one of another unit: want %v", left, want[1])
			}
			r.undo()
			if r.set(2, 15, 9) != want[2] {
				t.Errorf("with %d nodes left one of the same sixteen: want %v", left, want[2])
			}
			r.undo()
			r.looked()
		}
	}
	r := begun(t, 1)
	for lun := range 4 {
		for block := range 256 {
			if r.set(lun, block, 1) {
				t.Fatal("one node has room for a number")
			}
		}
	}
	r.looked()
}

// wrong holds Get and Set of blocks that there aren't, and Set of numbers that can't be, against ErrArg.
func wrong(t testing.TB, f *radix.Forest) {
	t.Helper()
	for _, lun := range beyond(4) {
		for _, block := range []int{0, 255, -1, 256} {
			x, err := f.Get(lun, block)
			is(t, err, api.ErrArg)
			is(t, f.Set(lun, block, 0), api.ErrArg)
			is(t, f.Set(lun, block, most), api.ErrArg)
			if x != 0 {
				t.Fatalf("of unit %d %d is told beside an error", lun, x)
			}
		}
	}
	for _, block := range append(beyond(256), 4*256-1) {
		for lun := range 4 {
			x, err := f.Get(lun, block)
			is(t, err, api.ErrArg)
			is(t, f.Set(lun, block, 0), api.ErrArg)
			is(t, f.Set(lun, block, most), api.ErrArg)
			if x != 0 {
				t.Fatalf("of block %d %d is told beside an error", block, x)
			}
		}
	}
	for _, x := range beyond(most + 1) {
		is(t, f.Set(0, 0, x), api.ErrArg)
		is(t, f.Set(3, 255, x), api.ErrArg)
		is(t, f.Set(4, 0, x), api.ErrArg)
	}
}

// P9.1: ErrArg of wrong units, blocks and numbers, ahead of ErrNodes, ErrLarge and ErrOff; nothing changes.
func TestWrongArguments(t *testing.T) {
	for _, n := range []int{1, 2, 16, 68, 100} {
		r := begun(t, n).filled(n)
		before := all(t, r.book)
		wrong(t, r.forest)
		if !slices.Equal(all(t, r.book), before) {
			t.Fatal("something has changed")
		}
		r.looked()
		wrong(t, opened(t, broken(t, 200), 7, n))
	}
	b := bound(t, 200)
	crowded(t, b, 100, 0)
	wrong(t, opened(t, b, 3, 20))
}

// crowded takes all but so many places of a book's transaction, by pages from at on.
func crowded(t testing.TB, b *pages.Book, at, left int) {
	t.Helper()
	for i := range api.MaxTxn - left {
		is(t, b.Write(at+i, disk.Page{byte(i + 1)}), api.OK)
	}
}

// holed is a run on a forest of which some sixteens have numbers, with free nodes ahead of those, and room for a full transaction behind.
func holed(t testing.TB, n int, next func(n int) int) *run {
	t.Helper()
	r := on(t, bound(t, 1+n+api.MaxTxn), 0, n, model{}).filled(next(1000))
	for range next(n) {
		s := next(64)
		for i := range 16 {
			r.quick(s/16, s%16*16+i, 0)
		}
		r.commit()
	}
	// Some have one number yet, so that the next Set may leave the node.
	for s := range 64 {
		if at := s % 16 * 16; r.is[s/16][at] != 0 && next(2) == 0 {
			for i := range 15 {
				r.quick(s/16, at+i, 0)
			}
			r.commit()
		}
	}
	r.looked()
	return r
}

// churned sets and leaves blocks of some sixteens, in one transaction that has three places left for each.
func (r *run) churned(l []int, next func(n int) int) {
	r.t.Helper()
	crowded(r.t, r.book, 1+r.n, 3*len(l))
	for c := range 60 {
		s := l[next(len(l))]
		lun, at := s/16, s%16*16
		switch {
		case c%20 < 5:
			// All of them are left.
			for i := range 16 {
				r.quick(lun, at+i, 0)
			}
		case r.wanted(lun, at, 1) == api.OK:
			r.quick(lun, at+next(16), next(3)*next(most/2))
		}
		r.counted()
	}
	r.looked()
	r.undo()
	r.looked()
}

// P9.1: of several blocks of one sixteen three pages change in all, however often the sixteen is left and set again in the transaction, whatever nodes are free.
func TestThreePagesOfASixteen(t *testing.T) {
	for seed := range 28 {
		next := chance(seed)
		r := holed(t, []int{2, 3, 5, 20, 67, 68, 90}[seed%7], next)
		for s := range 64 {
			r.churned([]int{s}, next)
		}
	}
}

// P9.1: nor more than three for each, where several sixteens take turns.
func TestThreePagesOfEachSixteen(t *testing.T) {
	for seed := range 70 {
		next := chance(seed)
		r := holed(t, []int{5, 9, 20, 40, 67, 68, 90}[seed%7], next)
		for k := range 5 {
			r.churned(shuffled(64, next)[:2+2*k], next)
		}
	}
}

// P9.1, rule 3: a Set that finds no place in the transaction tells ErrLarge, and no number has changed; with three places left none does so, nor one that changes nothing.
func TestErrLarge(t *testing.T) {
	for left := range 4 {
		for n := 3; n <= 8; n++ {
			b := bound(t, 1+n+api.MaxTxn)
			r := on(t, b, 0, n, model{})
			r.set(1, 16, 5)
			r.set(1, 17, 6)
			r.set(1, 16, 0)
			r.commit()
			for _, c := range [][3]int{{1, 17, 7}, {1, 17, 0}, {1, 16, 1}, {1, 32, 2}, {3, 255, 3}, {0, 0, 4}} {
				want := r.wanted(c[0], c[1], c[2])
				if want == api.ErrNodes {
					continue
				}
				crowded(t, b, 1+n, left)
				r.quick(1, 17, 6)
				r.quick(1, 18, 0)
				r.quick(2, 18, 0)
				err := r.forest.Set(c[0], c[1], c[2])
				if left == 0 {
					want = api.ErrLarge
				}
				if err == nil || left == 0 || left == 3 {
					is(t, err, want)
				} else {
					is(t, err, api.ErrLarge)
				}
				if err == nil {
					r.is[c[0]][c[1]] = c[2]
				}
				r.looked()
				r.undo()
				r.looked()
			}
		}
	}
}

// P9.1: ErrNodes is told ahead of ErrLarge, and of a full transaction too.
func TestErrNodesAheadOfErrLarge(t *testing.T) {
	for left := range 3 {
		b := bound(t, 1+3+api.MaxTxn)
		r := on(t, b, 0, 3, model{})
		r.set(1, 16, 5)
		r.set(1, 32, 5)
		r.commit()
		crowded(t, b, 1+3, left)
		is(t, r.forest.Set(1, 0, 1), api.ErrNodes)
		is(t, r.forest.Set(2, 0, 1), api.ErrNodes)
		r.undo()
		r.looked()
	}
}

// call is one of all calls that change something.
func (r *run) call(eager int, next func(int) int) {
	r.t.Helper()
	lun, block, x := next(4), next(256), next(most+1)
	// Near one another, so that sixteens are left, too.
	if next(3) > 0 {
		block = []int{0, 15, 16, 31, 240, 255}[next(6)]
	}
	switch c := next(20); {
	case c == 19:
		r.set(next(8)-2, next(400)-70, []int{-1, most + 1, 5}[next(3)])
	case c == 18:
		r.set(lun, block, r.is[lun][block])
	case c == 17:
		r.set(lun, block, []int{1, most, 1 << 16, 255}[next(4)])
	case c < eager:
		r.set(lun, block, x)
	default:
		for i := range 16 {
			if next(3) > 0 {
				r.set(lun, block&^15+i, 0)
			}
		}
	}
}

// P9.1, P9.2: by the words over long runs of all calls, with transactions that are committed and undone, books that are mounted again, and pages of others beside.
func TestRunsAgainstTheWords(t *testing.T) {
	for seed := range 14 {
		next := chance(seed)
		n := []int{1, 2, 3, 7, 16, 40, whole}[seed%7]
		k := made(t, 1+n+next(20)+3)
		r := on(t, mounted(t, k), next(3), n, model{})
		eager := 4 + next(6) // how often of twenty a number is set, by turns
		for c := range 1000 {
			if c%200 == 0 {
				eager = 20 - eager
			}
			r.call(eager, next)
			r.looked()
			// No transaction has more pages than may be.
			if next(7) == 0 || c%12 == 0 {
				r.commit()
			}
			if next(40) == 0 {
				r.undo()
				r.looked()
			}
			if next(100) == 0 {
				is(t, r.book.Sync(), api.OK)
				k = k.Crash(nil)
				r = on(t, mounted(t, k), r.first, n, r.kept)
				r.looked()
			}
			if t.Failed() {
				t.Fatalf("seed %d, call %d", seed, c)
			}
		}
	}
}

// P9.1: what is changed is changed in the book's transaction: Undo takes all of it back, a crash loses it till it was committed and synced, and then nothing.
func TestTransactions(t *testing.T) {
	k := made(t, 30)
	b := mounted(t, k)
	r := on(t, b, 2, 12, model{})
	for i := range 7 {
		r.set(i%3, i*20, most-i)
	}
	r.commit()
	is(t, b.Sync(), api.OK)
	lies := all(t, b)
	r.set(3, 77, 7)
	r.set(0, 0, 0)
	r.set(1, 20, 5)
	r.looked()
	if k.Pending() != 0 {
		t.Fatal("something was written ahead of a commit")
	}
	r.undo()
	if !slices.Equal(all(t, b), lies) {
		t.Fatal("something is left of what was undone")
	}
	r.looked()
	synced := r.is
	r.set(1, 20, 0)
	r.set(2, 41, 8)
	r.commit()
	on(t, mounted(t, k.Crash(nil)), 2, 12, synced).looked()
	is(t, b.Sync(), api.OK)
	found := on(t, mounted(t, k.Crash(nil)), 2, 12, r.is)
	found.looked()
	found.set(1, 255, 4)
	found.looked()
}

// P9.1: no call takes a step of the disk: they read, and change the transaction.
func TestNoSteps(t *testing.T) {
	k := made(t, 30)
	r := on(t, mounted(t, k), 2, 12, model{})
	k.Fuel(0)
	for i := range 6 {
		r.set(i%2, i*16, 1+i)
	}
	r.set(0, 0, 0)
	r.set(3, 0, 1)
	r.looked()
	if k.Off() || k.Pending() != 0 {
		t.Fatal("a call has taken a step")
	}
}

// off holds all calls that need a page which can't be read against ErrOff.
func off(t testing.TB, f *radix.Forest) {
	t.Helper()
	for _, block := range []int{0, 15, 16, 255} {
		for lun := range 4 {
			x, err := f.Get(lun, block)
			is(t, err, api.ErrOff)
			is(t, f.Set(lun, block, 1), api.ErrOff)
			is(t, f.Set(lun, block, 0), api.ErrOff)
			if x != 0 {
				t.Errorf("beside ErrOff is told %d", x)
			}
		}
	}
	n, err := f.Nodes()
	is(t, err, api.ErrOff)
	if n != 0 {
		t.Errorf("beside ErrOff is told %d", n)
	}
}

// P9.1: ErrOff, with zeros, of a book that is broken.
func TestBrokenBook(t *testing.T) {
	for _, n := range []int{1, 3, 68} {
		k := made(t, 1+n)
		b := mounted(t, k)
		r := on(t, b, 0, n, model{}).filled(n)
		k.Fuel(0)
		is(t, b.Sync(), api.ErrOff)
		off(t, r.forest)
		wrong(t, r.forest)
	}
	off(t, opened(t, broken(t, 20), 3, 2))
}

// out is a disk's going off, by which no book is broken.
func out(t testing.TB, k *disk.Disk) {
	t.Helper()
	k.Fuel(0)
	is(t, k.Flush(), api.ErrOff)
}

// P9.1: of a disk that is off, whose book isn't broken: what lies in the transaction or in the news is told and changed, what lies at home alone is ErrOff.
func TestOffButNotBroken(t *testing.T) {
	k := made(t, 20)
	r := on(t, mounted(t, k), 1, 8, model{})
	out(t, k)
	off(t, r.forest)

	// All pages of this forest that matter are news.
	k = made(t, 21)
	r = on(t, mounted(t, k), 0, 20, model{}).filled(5)
	out(t, k)
	r.looked()
	for lun := range r.is {
		for block, x := range r.is[lun] {
			if x != 0 && block%2 == 0 {
				r.quick(lun, block, block)
			}
		}
	}
	r.looked()

	// Some numbers lie at home alone; those of one sixteen, and what tells of it, are in the transaction.
	k = made(t, 69)
	b := mounted(t, k)
	r = on(t, b, 0, whole, model{}).filled(6)
	is(t, b.Sync(), api.OK)
	k = k.Crash(nil)
	r = on(t, mounted(t, k), 0, whole, r.is)
	for i := range 16 {
		r.quick(2, 32+i, 0)
	}
	r.quick(2, 35, 7)
	out(t, k)
	for lun := range r.is {
		for block, want := range r.is[lun] {
			x, err := r.forest.Get(lun, block)
			if lun == 2 && block/16 == 2 {
				is(t, err, api.OK)
			} else {
				is(t, err, api.ErrOff)
				want = 0
				is(t, r.forest.Set(lun, block, 1), api.ErrOff)
				is(t, r.forest.Set(lun, block, 0), api.ErrOff)
			}
			if x != want {
				t.Fatalf("block %d of unit %d has %d, want %d", block, lun, x, want)
			}
		}
	}
	r.quick(2, 47, most)
	if x, err := r.forest.Get(2, 47); x != most || err != nil {
		t.Errorf("block 47 of unit 2 has %d, %v", x, err)
	}
	r.counted()
}

// P9.1: forests side by side on one book are apart, and two forests on the same pages are one.
func TestForestsOfOneBook(t *testing.T) {
	b := bound(t, 40)
	x := on(t, b, 3, 15, model{})
	y := on(t, b, 19, 15, model{})
	for i := range 12 {
		x.set(i%3, i*5, 1+i)
		y.set(i%2, i*3, most-i)
		if i%3 == 0 {
			y.set(i%2, i*3, 0)
		}
		y.looked()
		x.looked()
	}
	x.commit()
	for i := range 12 {
		x.set(i%3, i*5, 0)
		y.looked()
	}
	same := on(t, b, 19, 15, y.is)
	for i := range 5 {
		y.set(1, i*3, 50+i)
		same.is = y.is
		same.looked()
		same.set(i%2, i*3+1, 0)
		y.is = same.is
		y.looked()
	}
}

// P9.1: forests on two books are two.
func TestForestsOfTwoBooks(t *testing.T) {
	x, y := begun(t, 4), begun(t, 4)
	x.set(1, 1, 1)
	y.looked()
	y.set(2, 2, 2)
	y.set(3, 3, 3)
	x.looked()
	y.looked()
}

// P9.1, P9.2: the greatest forest, on the greatest book: each number is where it was set, behind a crash too.
func TestGreatestForest(t *testing.T) {
	k := made(t, 2048)
	b := mounted(t, k)
	r := on(t, b, 0, 2047, model{}).filled(9)
	is(t, b.Sync(), api.OK)
	if n, err := r.forest.Nodes(); n != whole || err != nil {
		t.Fatal(n, err)
	}
	r.looked()
	r = on(t, mounted(t, k.Crash(nil)), 0, 2047, r.is)
	r.looked()
	r.set(3, 255, 0)
	r.set(0, 0, most)
	r.looked()
}

// P9.1 and rule 7: of a nil *Forest: ErrArg, with zeros.
func TestNilForest(t *testing.T) {
	var f *radix.Forest
	for _, n := range append(beyond(4), 0, 1, 2, 3) {
		for _, block := range append(beyond(256), 0, 1, 255) {
			x, err := f.Get(n, block)
			is(t, err, api.ErrArg)
			is(t, f.Set(n, block, 0), api.ErrArg)
			is(t, f.Set(n, block, 1), api.ErrArg)
			is(t, f.Set(1, 1, n), api.ErrArg)
			if x != 0 {
				t.Errorf("of %d, %d %d is told beside an error", n, block, x)
			}
		}
	}
	n, err := f.Nodes()
	is(t, err, api.ErrArg)
	if n != 0 {
		t.Errorf("beside ErrArg is told %d", n)
	}
}

// P0: a forest that New didn't make doesn't panic.
func TestOddForests(t *testing.T) {
	f := &radix.Forest{}
	for _, n := range append(beyond(4), 0, 1, 2, 3) {
		for _, block := range append(beyond(256), 0, 1, 255) {
			_, _ = f.Get(n, block)
			_ = f.Set(n, block, 1)
		}
	}
	_, _ = f.Nodes()
}

// P0: whatever bytes lie on the pages, no call panics, what is told is in range, and no page that isn't the forest's is changed.
func TestWhateverLiesThere(t *testing.T) {
	for seed := range 200 {
		next := chance(seed + 1000)
		n := 1 + next(80)
		b := bound(t, 3+1+n+2)
		for i := range b.Pages() {
			var p disk.Page
			for j := range p {
				p[j] = byte(next([]int{2, 3, 17, 64, 256}[seed%5]))
			}
			is(t, b.Write(i, p), api.OK)
			if i%50 == 49 {
				is(t, b.Commit(), api.OK)
			}
		}
		is(t, b.Commit(), api.OK)
		r := on(t, b, 3, n, model{})
		for range 100 {
			lun, block := next(4), next(256)
			before := all(t, b)
			err := r.forest.Set(lun, block, next(2)*next(most))
			r.within(before, true)
			if err != nil {
				is(t, err, api.ErrNodes)
			}
			x, err := r.forest.Get(lun, block)
			is(t, err, api.OK)
			if x < 0 || x > most {
				t.Fatalf("block %d of unit %d has %d", block, lun, x)
			}
			k, err := r.forest.Nodes()
			is(t, err, api.OK)
			if k < 0 || k > whole {
				t.Fatalf("%d nodes are taken", k)
			}
			is(t, b.Commit(), api.OK)
		}
	}
}
