package prints_test

import (
	"errors"
	"math"
	"slices"
	"testing"

	"bulkhead/api"
	"bulkhead/disk"
	"bulkhead/pages"
	"bulkhead/prints"
	"bulkhead/woe"
)

// ringSize is how many sectors the ring of each book has, with titles ahead of it.
const ringSize, titles = 96, 2

// digest is bytes that tell n, each byte another one; of 0 zeros, of 1 ones.
func digest(n int) [32]byte {
	var d [32]byte
	for i := range d {
		switch n {
		case 0:
		case 1:
			d[i] = 255
		default:
			d[i] = byte(n*(2*i+1) + n>>8 + i + 1)
		}
	}
	return d
}

// turned is d, but for one bit.
func turned(d [32]byte, bit int) [32]byte {
	d[bit/8] ^= 1 << (bit % 8)
	return d
}

// entry is one whose digest tells n.
func entry(n, slot, refs int) prints.Entry {
	return prints.Entry{Digest: digest(n), Slot: slot, Refs: refs}
}

// chance answers numbers below its argument, the same ones for the same seed.
func chance(seed int) func(n int) int {
	x := uint64(seed)*2654435761 + 12345
	return func(n int) int {
		x ^= x << 13
		x ^= x >> 7
		x ^= x << 17
		return int(x>>8) % n
	}
}

// is holds an error against a number: that one is found, and no other one.
func is(t testing.TB, err error, want api.Errno) {
	t.Helper()
	if want == api.OK {
		if err != nil {
			t.Fatalf("the error is %v, want none", err)
		}
		return
	}
	if err == nil || woe.Number(err) != want {
		t.Fatalf("the error is %v, want %v", err, want)
	}
	for n := api.Errno(-1); n < 40; n++ {
		if errors.Is(err, n) != (n == want) {
			t.Fatalf("the error is %v: it is taken for %v", err, n)
		}
	}
}

// made is a disk whose book has so many pages.
func made(t testing.TB, n int) *disk.Disk {
	t.Helper()
	k, err := disk.New(titles + ringSize + n)
	is(t, err, api.OK)
	return k
}

// mounted is the book of a disk.
func mounted(t testing.TB, k *disk.Disk) *pages.Book {
	t.Helper()
	b, err := pages.Mount(k, ringSize)
	is(t, err, api.OK)
	return b
}

// bound is a new book of so many pages.
func bound(t testing.TB, n int) *pages.Book {
	t.Helper()
	return mounted(t, made(t, n))
}

// broken is a book of so many pages that is broken.
func broken(t testing.TB, n int) *pages.Book {
	t.Helper()
	k := made(t, n)
	b := mounted(t, k)
	k.Fuel(0)
	is(t, b.Sync(), api.ErrOff)
	return b
}

// opened is the table on pages of a book, which is to be made.
func opened(t testing.TB, b *pages.Book, first, n int) *prints.Table {
	t.Helper()
	x, err := prints.New(b, first, n)
	is(t, err, api.OK)
	if x == nil {
		t.Fatal("New answers neither a table nor an error")
	}
	return x
}

// refused holds a New against ErrArg.
func refused(t testing.TB, b *pages.Book, first, n int) {
	t.Helper()
	x, err := prints.New(b, first, n)
	if x != nil {
		t.Errorf("New(%d, %d) of %d pages answers a table", first, n, b.Pages())
	}
	is(t, err, api.ErrArg)
}

// all are all pages of a book.
func all(t testing.TB, b *pages.Book) []disk.Page {
	t.Helper()
	l := make([]disk.Page, b.Pages())
	for i := range l {
		p, err := b.Read(i)
		is(t, err, api.OK)
		l[i] = p
	}
	return l
}

// beyond are numbers that are none of n.
func beyond(n int) []int {
	return []int{-1, -2, -15, -16, -n, n, n + 1, n + 255, n + 256, 4096, 65536, 1 << 31, 1 << 32, 1<<32 + 1, -1 << 32, 1 << 62, math.MinInt, math.MinInt + 1, math.MaxInt, math.MaxInt - 3}
}

// A model is what each place has, by the words: an entry, or one of no refs.
type model []prints.Entry

func (m model) copy() model { return slices.Clone(m) }

// are the places that fit.
func (m model) are(fits func(e prints.Entry) bool) []int {
	var l []int
	for i, e := range m {
		if fits(e) {
			l = append(l, i)
		}
	}
	return l
}

// taken are the places that have entries.
func (m model) taken() []int {
	return m.are(func(e prints.Entry) bool { return e.Refs != 0 })
}

// free are the places that have none.
func (m model) free() []int {
	return m.are(func(e prints.Entry) bool { return e.Refs == 0 })
}

// of are the places of entries of a digest that can be wanted once more.
func (m model) of(d [32]byte) []int {
	return m.are(func(e prints.Entry) bool { return e.Refs != 0 && e.Refs < 15 && e.Digest == d })
}

// at are the places of entries of a slot.
func (m model) at(slot int) []int {
	return m.are(func(e prints.Entry) bool { return e.Refs != 0 && e.Slot == slot })
}

// set is what Set does.
func (m model) set(i int, e prints.Entry) {
	if e.Refs == 0 {
		e = prints.Entry{}
	}
	m[i] = e
}

// A run is calls of a table, each held against the words.
type run struct {
	t     testing.TB
	book  *pages.Book
	table *prints.Table
	first int
	is    model
}

// begun is a run on a table of zeros, with some pages ahead and behind that aren't the table's.
func begun(t testing.TB, n int) *run {
	t.Helper()
	return on(t, bound(t, 3+n+2), 3, make(model, n))
}

// on is a run on a table that has what m says.
func on(t testing.TB, b *pages.Book, first int, m model) *run {
	t.Helper()
	return &run{t: t, book: b, table: opened(t, b, first, len(m)), first: first, is: m}
}

// told holds a place, or none, against those that it may be.
func (r *run) told(what string, i int, ok bool, err error, may []int) {
	r.t.Helper()
	is(r.t, err, api.OK)
	if ok != (len(may) > 0) || ok && !slices.Contains(may, i) || !ok && i != 0 {
		r.t.Fatalf("%s tells %d, %v, want one of %v", what, i, ok, may)
	}
}

// find holds Find and Free of a digest against the words.
func (r *run) find(d [32]byte) {
	r.t.Helper()
	i, ok, err := r.table.Find(d)
	r.told("Find", i, ok, err, r.is.of(d))
	i, err = r.table.Free(d)
	if len(r.is.free()) > 0 {
		r.told("Free", i, err == nil, err, r.is.free())
		return
	}
	is(r.t, err, api.ErrIndex)
	if i != 0 {
		r.t.Fatalf("place %d is told beside an error", i)
	}
}

// slot holds Slot of any number against the words.
func (r *run) slot(s int) {
	r.t.Helper()
	i, ok, err := r.table.Slot(s)
	r.told("Slot", i, ok, err, r.is.at(s))
}

// got holds each place, and All, against the words.
func (r *run) got() {
	r.t.Helper()
	for i, want := range r.is {
		e, err := r.table.Get(i)
		if want.Refs == 0 {
			is(r.t, err, api.ErrNone)
		} else {
			is(r.t, err, api.OK)
		}
		if e != want {
			r.t.Fatalf("place %d has %v, want %v", i, e, want)
		}
	}
	l, err := r.table.All()
	is(r.t, err, api.OK)
	if !slices.Equal(l, r.is.taken()) {
		r.t.Fatalf("places %v have entries, want %v", l, r.is.taken())
	}
}

// looked holds what is told of the table against the words: by digests and slots that are there, and by some that needn't be.
func (r *run) looked() {
	r.t.Helper()
	r.got()
	for n := range 4 {
		r.find(digest(n))
	}
	for _, s := range []int{-1, 0, 1, 255, 256} {
		r.slot(s)
	}
	for _, e := range r.is {
		r.find(e.Digest)
		r.slot(e.Slot)
	}
}

// set is Set of any place and entry: one page changes at most, that is the table's.
func (r *run) set(i int, e prints.Entry) {
	r.t.Helper()
	before := all(r.t, r.book)
	want := api.OK
	if i < 0 || i >= len(r.is) || e.Refs < 0 || e.Refs > 15 || e.Slot < 0 || e.Slot > 255 {
		want = api.ErrArg
	}
	is(r.t, r.table.Set(i, e), want)
	if want == api.OK {
		r.is.set(i, e)
	}
	n := 0
	for at, p := range all(r.t, r.book) {
		if p == before[at] {
			continue
		}
		n++
		if at < r.first || at >= r.first+len(r.is) {
			r.t.Fatalf("page %d has changed, which isn't the table's", at)
		}
	}
	if n > 1 || n > 0 && want != api.OK {
		r.t.Fatalf("%d pages have changed, with %v", n, want)
	}
}

// put sets an entry at the place that Free tells; that place.
func (r *run) put(e prints.Entry) int {
	r.t.Helper()
	i, err := r.table.Free(e.Digest)
	r.told("Free", i, err == nil, err, r.is.free())
	r.set(i, e)
	return i
}

// filled puts entries, each of another digest and slot, while there is a place.
func (r *run) filled() *run {
	r.t.Helper()
	for i := range r.is {
		r.put(entry(i+2, i%256, 1+i%15))
		// No transaction has more pages than may be.
		if i%50 == 49 {
			is(r.t, r.book.Commit(), api.OK)
		}
	}
	is(r.t, r.book.Commit(), api.OK)
	return r
}

// P8.1: the chapter's example.
func TestExample(t *testing.T) {
	for _, n := range []int{1, 2, 7, 300} {
		r := begun(t, n)
		d := digest(77)
		i := r.put(prints.Entry{Digest: d, Slot: 3, Refs: 15})
		if _, ok, err := r.table.Find(d); ok || err != nil {
			t.Fatal(ok, err)
		}
		if k, ok, err := r.table.Slot(3); k != i || !ok || err != nil {
			t.Fatal(k, ok, err)
		}
		r.looked()
	}
}

// P8.1: New answers a table without entries on pages of zeros, just where the book has n pages from first on.
func TestNewBounds(t *testing.T) {
	for _, n := range []int{1, 2, 3, 16, 59, 255, 256, 257, 1000} {
		for _, first := range []int{0, 1, 5, 100} {
			b := bound(t, first+n)
			on(t, b, first, make(model, n)).looked()
			refused(t, b, first+1, n)
			refused(t, b, first, n+1)
			refused(t, b, first+n, 1)
			refused(t, b, first+n, n)
			refused(t, bound(t, first+n+1), first+2, n)
		}
	}
	b := bound(t, 2048)
	on(t, b, 0, make(model, 2048)).looked()
	on(t, b, 2047, make(model, 1)).looked()
	refused(t, b, 0, 2049)
	refused(t, b, 1, 2048)
	refused(t, b, 2048, 1)
}

// P8.1: ErrArg of New: no book, a first page below 0, no places, more pages than there are, however great; a book that is broken isn't asked.
func TestNewWrongArguments(t *testing.T) {
	odd := []int{1 << 31, 1 << 32, 1<<32 + 1, -1 << 32, 1 << 62, math.MinInt, math.MinInt + 1, math.MaxInt, math.MaxInt - 4, math.MaxInt - 5}
	for _, b := range []*pages.Book{bound(t, 400), broken(t, 400)} {
		for _, n := range append(odd, 0, -1, -2, -400, 401, 402, 2048, 4096) {
			for _, first := range append(odd, 0, 1, 399, 400, -1) {
				refused(t, b, first, n)
			}
		}
		for _, first := range append(odd, -1, -2, -400, 400, 401, 2048) {
			for _, n := range []int{1, 2, 5, 400} {
				refused(t, b, first, n)
			}
		}
		opened(t, b, 0, 400)
		opened(t, b, 399, 1)
		opened(t, b, 100, 300)
	}
	for _, b := range []*pages.Book{nil, {}} {
		for _, n := range append(odd, -1, 0, 1, 64) {
			for _, first := range append(odd, -64, -1, 0, 1) {
				refused(t, b, first, n)
			}
		}
	}
}

// P8.1: each slot with all refs is kept, by a place of its own for each.
func TestAllSlotsAndRefs(t *testing.T) {
	r := begun(t, 256)
	for refs := 1; refs <= 15; refs++ {
		for i := range 256 {
			r.set(i, entry(i*refs, 255-i, refs))
			is(t, r.book.Commit(), api.OK)
		}
		r.got()
		for s := range 256 {
			r.slot(s)
		}
	}
}

// P8.1: all bits of a digest count, for Get and for Find, that of zeros and that of ones too.
func TestAllBitsOfADigest(t *testing.T) {
	for n := range 4 {
		d := digest(n)
		r := begun(t, 3)
		r.set(1, prints.Entry{Digest: d, Slot: 9, Refs: 14})
		r.looked()
		for bit := range 256 {
			r.find(turned(d, bit))
			r.set(2, prints.Entry{Digest: turned(d, bit), Slot: 9, Refs: 1})
			r.find(d)
			r.find(turned(d, bit))
			r.got()
			r.set(2, prints.Entry{})
		}
	}
}

// P8.1: Find tells an entry just while its refs are below MaxRefs, of several the one that has room, wherever it stands.
func TestFind(t *testing.T) {
	for refs := range 16 {
		for at := range 5 {
			r := begun(t, 5)
			r.set(at, entry(7, 3, refs))
			i, ok, err := r.table.Find(digest(7))
			if want := refs >= 1 && refs <= 14; ok != want || ok && i != at || !ok && i != 0 || err != nil {
				t.Fatalf("of %d refs at place %d Find tells %d, %v, %v", refs, at, i, ok, err)
			}
			for other := range 5 {
				if other != at {
					r.set(other, entry(7, 4+other, 15))
				}
			}
			r.looked()
			r.set(at, entry(7, 3, 15))
			r.looked()
		}
	}
}

// P8.1: Free tells a place without an entry, while there is one, whatever the digest, and then ErrIndex; a place that is left is told again.
func TestFree(t *testing.T) {
	for _, n := range []int{1, 2, 3, 5, 16, 17, 64} {
		r := begun(t, n)
		// All of them begin to be looked for at the same place.
		for i := range n {
			r.put(prints.Entry{Digest: turned(digest(2), 255-i), Slot: i, Refs: 1 + i%15})
			r.find(digest(2))
			if i%50 == 49 {
				is(t, r.book.Commit(), api.OK)
			}
		}
		is(t, r.book.Commit(), api.OK)
		for d := range 40 {
			r.find(digest(d))
		}
		for i := range n {
			r.set(i, prints.Entry{})
			for d := range 10 {
				if at, err := r.table.Free(digest(d)); at != i || err != nil {
					t.Fatalf("Free tells %d, %v, want %d", at, err, i)
				}
			}
			r.set(i, entry(i, i, 15))
			r.find(digest(i))
			is(t, r.book.Commit(), api.OK)
		}
		r.looked()
	}
}

// P8.1: Slot tells an entry of that slot, whatever its refs, and none for a number that is no slot.
func TestSlot(t *testing.T) {
	r := begun(t, 7)
	for _, s := range append(beyond(256), 0, 1, 255) {
		r.slot(s)
	}
	for at, e := range []prints.Entry{entry(0, 0, 1), entry(1, 255, 15), entry(2, 1, 7), entry(3, 255, 1)} {
		r.set(at+2, e)
		for _, s := range append(beyond(256), 0, 1, 2, 254, 255) {
			r.slot(s)
		}
	}
	r.set(2, prints.Entry{})
	r.set(3, prints.Entry{Slot: 255})
	for _, s := range []int{0, 1, 255} {
		r.slot(s)
	}
	if i, ok, err := r.table.Slot(255); i != 5 || !ok || err != nil {
		t.Fatal(i, ok, err)
	}
}

// P8.1: All tells the places with entries, rising, in new memory; none of a table without entries.
func TestAll(t *testing.T) {
	r := begun(t, 20)
	if l, err := r.table.All(); len(l) != 0 || err != nil {
		t.Fatal(l, err)
	}
	for _, i := range []int{19, 4, 0, 11, 12, 7} {
		r.set(i, entry(i, 200-i, 15))
	}
	want := []int{0, 4, 7, 11, 12, 19}
	for range 3 {
		l, err := r.table.All()
		if err != nil || !slices.Equal(l, want) {
			t.Fatalf("places %v have entries, %v, want %v", l, err, want)
		}
		for i := range l {
			l[i] = 77
		}
		_ = append(l, 78)
	}
	for i := range 20 {
		r.set(i, prints.Entry{Refs: 1})
		r.got()
	}
	for i := range 20 {
		r.set(i, prints.Entry{})
		r.got()
	}
}

// P8.1: an entry of no refs is none, whatever digest and slot it has, where there was one, and where there was none.
func TestSetOfNoRefs(t *testing.T) {
	for _, was := range []prints.Entry{{}, entry(0, 0, 1), entry(5, 255, 15), entry(1, 3, 2)} {
		for _, none := range []prints.Entry{{}, entry(5, 255, 0), entry(1, 0, 0), {Slot: 7}} {
			r := begun(t, 3)
			r.set(1, was)
			r.set(1, none)
			r.looked()
			r.find(none.Digest)
			r.slot(none.Slot)
			if e, err := r.table.Get(1); e != (prints.Entry{}) || woe.Number(err) != api.ErrNone {
				t.Fatalf("place 1 has %v, %v", e, err)
			}
			r.set(1, entry(9, 8, 7))
			r.looked()
		}
	}
}

// P8.1: of entries that are gone nothing is left on the pages: they are zeros, as those of a table without entries.
func TestNothingIsLeft(t *testing.T) {
	r := begun(t, 9).filled()
	for i := range 9 {
		r.set(i, entry(i+2, 255, 0))
	}
	if !slices.Equal(all(t, r.book), make([]disk.Page, 14)) {
		t.Fatal("something is left")
	}
	r.looked()
}

// wrong holds Get and Set of places that there aren't, and Set of entries that can't be, against ErrArg.
func wrong(t testing.TB, x *prints.Table, n int) {
	t.Helper()
	for _, i := range beyond(n) {
		e, err := x.Get(i)
		is(t, err, api.ErrArg)
		if e != (prints.Entry{}) {
			t.Fatalf("of place %d %v is told beside an error", i, e)
		}
		is(t, x.Set(i, entry(1, 2, 3)), api.ErrArg)
		is(t, x.Set(i, prints.Entry{}), api.ErrArg)
	}
	for _, bad := range beyond(256) {
		is(t, x.Set(0, prints.Entry{Slot: bad, Refs: 1}), api.ErrArg)
		is(t, x.Set(n-1, prints.Entry{Slot: bad, Refs: 15}), api.ErrArg)
		// What is no entry may tell no such slot either.
		is(t, x.Set(0, prints.Entry{Slot: bad}), api.ErrArg)
	}
	for _, bad := range append(beyond(16), 31, 240, 255, 256, 257, 271) {
		is(t, x.Set(0, entry(1, 0, bad)), api.ErrArg)
		is(t, x.Set(n-1, entry(1, 255, bad)), api.ErrArg)
	}
}

// P8.1: ErrArg of wrong places, slots and refs, ahead of ErrNone, ErrLarge and ErrOff; nothing changes.
func TestWrongArguments(t *testing.T) {
	for _, n := range []int{1, 2, 16, 100} {
		r := begun(t, n)
		r.set(0, entry(4, 5, 6))
		before := all(t, r.book)
		wrong(t, r.table, n)
		if !slices.Equal(all(t, r.book), before) {
			t.Fatal("something has changed")
		}
		r.looked()
		wrong(t, opened(t, broken(t, 200), 7, n), n)
	}
	b := bound(t, 200)
	crowded(t, b, 100, 0)
	wrong(t, opened(t, b, 3, 20), 20)
}

// P8.1: each Set at all states of small tables of few entries: what was there doesn't count, and no other place changes.
func TestAllStates(t *testing.T) {
	some := []prints.Entry{{}, entry(0, 0, 1), entry(0, 0, 15), entry(2, 0, 14), entry(2, 255, 15)}
	for n := 1; n <= 3; n++ {
		states := 1
		for range n {
			states *= len(some)
		}
		b := bound(t, n+2)
		for state := range states {
			for at := range n {
				for _, e := range some {
					r := on(t, b, 1, make(model, n))
					for i, x := 0, state; i < n; i, x = i+1, x/len(some) {
						r.is.set(i, some[x%len(some)])
						is(t, r.table.Set(i, some[x%len(some)]), api.OK)
					}
					r.looked()
					r.set(at, e)
					r.looked()
				}
			}
		}
	}
}

// call is one of all calls that change something.
func (r *run) call(eager int, next func(int) int) {
	r.t.Helper()
	at := next(len(r.is))
	if taken := r.is.taken(); len(taken) > 0 && next(4) > 0 {
		at = taken[next(len(taken))]
	}
	e := entry(next(len(r.is)), next(256), 1+next(15))
	switch x := next(20); {
	case x < eager && len(r.is.free()) > 0:
		r.put(e)
	case x == 19:
		r.set(next(len(r.is)+4)-2, entry(next(9), next(260)-2, next(19)-2))
	case x == 18:
		r.set(at, e)
	case x%2 == 0:
		r.set(at, entry(next(9), next(256), 0))
	default:
		// Wanted once more, or once less.
		e = r.is[at]
		e.Refs += 1 - 2*next(2)
		r.set(at, e)
	}
}

// P8.1: by the words over long runs of all calls, with transactions that are committed and undone, books that are mounted again, and pages of others beside.
func TestRunsAgainstTheWords(t *testing.T) {
	for seed := range 12 {
		next := chance(seed)
		n := []int{1, 2, 3, 7, 16, 40}[seed%6]
		k := made(t, n+next(20)+3)
		r := on(t, mounted(t, k), next(3), make(model, n))
		kept := r.is.copy()
		eager := 4 + next(6) // how often of twenty a call is at a place that Free tells, by turns
		for c := range 1500 {
			if c%200 == 0 {
				eager = 20 - eager
			}
			r.call(eager, next)
			r.looked()
			// No transaction has more pages than may be.
			if next(9) == 0 || c%50 == 0 {
				is(t, r.book.Commit(), api.OK)
				kept = r.is.copy()
			}
			if next(40) == 0 {
				r.book.Undo()
				r.is = kept.copy()
				r.looked()
			}
			if next(100) == 0 {
				is(t, r.book.Sync(), api.OK)
				k = k.Crash(nil)
				r = on(t, mounted(t, k), r.first, kept.copy())
				r.looked()
			}
			if t.Failed() {
				t.Fatalf("seed %d, call %d", seed, c)
			}
		}
	}
}

// P8.1: what is changed is changed in the book's transaction: Undo takes all of it back, a crash loses it till it was committed and synced, and then nothing.
func TestTransactions(t *testing.T) {
	k := made(t, 30)
	b := mounted(t, k)
	r := on(t, b, 2, make(model, 12))
	for i := range 7 {
		r.put(entry(i, i, 15-i))
	}
	is(t, b.Commit(), api.OK)
	is(t, b.Sync(), api.OK)
	kept, lies := r.is.copy(), all(t, b)
	r.put(entry(20, 20, 1))
	r.set(r.is.taken()[3], prints.Entry{})
	r.set(r.is.taken()[4], entry(21, 21, 2))
	r.looked()
	if k.Pending() != 0 {
		t.Fatal("something was written ahead of a commit")
	}
	b.Undo()
	if !slices.Equal(all(t, b), lies) {
		t.Fatal("something is left of what was undone")
	}
	r.is = kept.copy()
	r.looked()
	r.put(entry(22, 22, 3))
	is(t, b.Commit(), api.OK)
	on(t, mounted(t, k.Crash(nil)), 2, kept.copy()).looked()
	is(t, b.Sync(), api.OK)
	found := on(t, mounted(t, k.Crash(nil)), 2, r.is.copy())
	found.looked()
	found.put(entry(23, 23, 4))
	found.looked()
}

// P8.1: no call takes a step of the disk: they read, and change the transaction.
func TestNoSteps(t *testing.T) {
	k := made(t, 30)
	r := on(t, mounted(t, k), 2, make(model, 12))
	k.Fuel(0)
	for i := range 6 {
		r.put(entry(i, i, 15))
	}
	r.set(0, prints.Entry{})
	r.looked()
	if k.Off() || k.Pending() != 0 {
		t.Fatal("a call has taken a step")
	}
}

// crowded takes all but so many places of a book's transaction, by pages from at on.
func crowded(t testing.TB, b *pages.Book, at, left int) {
	t.Helper()
	for i := range api.MaxTxn - left {
		is(t, b.Write(at+i, disk.Page{byte(i + 1)}), api.OK)
	}
}

// P8.1: a Set takes one place of a transaction at most, and none, where its place was set in that transaction already; without it ErrLarge, and nothing changes.
func TestErrLarge(t *testing.T) {
	for left := range 3 {
		b := bound(t, 110)
		r := on(t, b, 0, make(model, 20))
		r.set(3, entry(3, 3, 3))
		is(t, b.Commit(), api.OK)
		kept := r.is.copy()
		crowded(t, b, 30, left)
		for i := range left {
			r.set(i, entry(i+10, i, 15))
			r.set(i, entry(i+20, i, 1))
			r.set(i, entry(i+20, i, 2))
		}
		for i := left; i < 20; i++ {
			is(t, r.table.Set(i, entry(i+30, i+100, 4)), api.ErrLarge)
			r.got()
		}
		is(t, r.table.Set(3, prints.Entry{}), api.ErrLarge)
		for i := range left {
			r.set(i, entry(i+20, i, 3))
			r.set(i, prints.Entry{})
			r.set(i, entry(i+40, i, 1))
		}
		r.looked()
		b.Undo()
		r.is = kept
		r.looked()
	}
}

// off holds all calls that need a page which can't be read against ErrOff.
func off(t testing.TB, x *prints.Table, i int) {
	t.Helper()
	e, err := x.Get(i)
	is(t, err, api.ErrOff)
	is(t, x.Set(i, entry(1, 1, 1)), api.ErrOff)
	is(t, x.Set(i, prints.Entry{}), api.ErrOff)
	if e != (prints.Entry{}) {
		t.Errorf("beside ErrOff is told %v", e)
	}
	lost(t, x)
}

// lost holds all calls that ask all places, where one can't be read, against ErrOff.
func lost(t testing.TB, x *prints.Table) {
	t.Helper()
	for n := range 5 {
		i, ok, err := x.Find(digest(n + 900))
		is(t, err, api.ErrOff)
		k, has, err := x.Slot(n + 200)
		is(t, err, api.ErrOff)
		if i != 0 || ok || k != 0 || has {
			t.Errorf("beside ErrOff are told %d, %v, %d, %v", i, ok, k, has)
		}
	}
	l, err := x.All()
	is(t, err, api.ErrOff)
	if len(l) != 0 {
		t.Errorf("beside ErrOff is told %v", l)
	}
}

// P8.1: ErrOff, with zeros, of a book that is broken.
func TestBrokenBook(t *testing.T) {
	for _, n := range []int{1, 3, 64} {
		k := made(t, n)
		b := mounted(t, k)
		r := on(t, b, 0, make(model, n)).filled()
		k.Fuel(0)
		is(t, b.Sync(), api.ErrOff)
		for i := range n {
			off(t, r.table, i)
		}
		at, err := r.table.Free(digest(5))
		is(t, err, api.ErrOff)
		if at != 0 {
			t.Errorf("beside ErrOff is told %d", at)
		}
		wrong(t, r.table, n)
	}
	off(t, opened(t, broken(t, 20), 3, 2), 1)
}

// out is a disk's going off, by which no book is broken.
func out(t testing.TB, k *disk.Disk) {
	t.Helper()
	k.Fuel(0)
	is(t, k.Flush(), api.ErrOff)
}

// P8.1: of a disk that is off, whose book isn't broken: what lies in the transaction or in the news is told and changed, what lies at home alone is ErrOff.
func TestOffButNotBroken(t *testing.T) {
	k := made(t, 20)
	r := on(t, mounted(t, k), 1, make(model, 8))
	out(t, k)
	off(t, r.table, 0)

	// All pages of this book are the table's, and all of them are news.
	k = made(t, 8)
	r = on(t, mounted(t, k), 0, make(model, 8)).filled()
	out(t, k)
	r.looked()
	r.set(3, entry(77, 200, 15))
	r.set(4, prints.Entry{})
	r.looked()

	// Of these eight places three are news, and one is in the transaction.
	k = made(t, 8)
	b := mounted(t, k)
	r = on(t, b, 0, make(model, 8)).filled()
	is(t, b.Sync(), api.OK)
	k = k.Crash(nil)
	b = mounted(t, k)
	r = on(t, b, 0, r.is)
	for _, i := range []int{1, 2, 5, 7} {
		is(t, b.Commit(), api.OK)
		r.set(i, entry(50+i, 60+i, i))
	}
	out(t, k)
	for i, want := range r.is {
		e, err := r.table.Get(i)
		if !slices.Contains([]int{1, 2, 5, 7}, i) {
			off(t, r.table, i)
			continue
		}
		is(t, err, api.OK)
		if e != want {
			t.Errorf("place %d has %v, want %v", i, e, want)
		}
		is(t, r.table.Set(i, entry(90+i, 100+i, i)), api.OK)
		if e, err := r.table.Get(i); e != entry(90+i, 100+i, i) || err != nil {
			t.Errorf("place %d has %v, %v", i, e, err)
		}
	}
}

// P8.1: tables side by side on one book are apart, and two tables on the same pages are one.
func TestTablesOfOneBook(t *testing.T) {
	b := bound(t, 40)
	x := on(t, b, 3, make(model, 12))
	y := on(t, b, 15, make(model, 16))
	for i := range 12 {
		x.put(entry(i, i, 1+i))
		y.put(entry(i+1, i+100, 15-i))
		if i%3 == 0 {
			y.set(y.is.taken()[0], prints.Entry{})
		}
		y.looked()
		x.looked()
	}
	is(t, b.Commit(), api.OK)
	for i := range 12 {
		x.set(i, prints.Entry{})
		y.looked()
	}
	same := on(t, b, 15, y.is)
	for i := range 5 {
		y.put(entry(i+50, i+200, 14))
		same.looked()
		same.set(same.is.taken()[0], prints.Entry{})
		y.looked()
	}
	// Of the same pages a part is a table of that part.
	if l, err := opened(t, b, 15, 16).All(); !slices.Equal(l, y.is.taken()) || err != nil {
		t.Errorf("places %v have entries, %v, want %v", l, err, y.is.taken())
	}
}

// P8.1: tables on two books are two.
func TestTablesOfTwoBooks(t *testing.T) {
	x, y := begun(t, 2), begun(t, 2)
	x.put(entry(1, 1, 1))
	y.looked()
	y.put(entry(2, 2, 2))
	y.put(entry(3, 3, 3))
	x.looked()
	y.looked()
}

// P8.1: the greatest table, on the greatest book: each entry is where it was set, behind a crash too.
func TestGreatestTable(t *testing.T) {
	k := made(t, 2048)
	b := mounted(t, k)
	x := opened(t, b, 0, 2048)
	m := make(model, 2048)
	for n := range m {
		e := entry(n, n%256, 1+n%15)
		i, err := x.Free(e.Digest)
		is(t, err, api.OK)
		if m[i].Refs != 0 {
			t.Fatalf("place %d isn't free", i)
		}
		is(t, x.Set(i, e), api.OK)
		m.set(i, e)
		if n%60 == 59 {
			is(t, b.Commit(), api.OK)
		}
	}
	is(t, b.Commit(), api.OK)
	is(t, b.Sync(), api.OK)
	r := on(t, mounted(t, k.Crash(nil)), 0, m)
	r.got()
	for n := range 2050 {
		if n%50 == 0 || n > 2040 {
			r.find(digest(n))
			r.slot(n)
		}
	}
	r.set(2047, prints.Entry{})
	r.find(digest(3))
	r.find(digest(2047))
}

// P8.1 and rule 7: of a nil *Table: ErrArg, with zeros.
func TestNilTable(t *testing.T) {
	var x *prints.Table
	for _, n := range append(beyond(4), 0, 1, 2, 3) {
		e, err := x.Get(n)
		is(t, err, api.ErrArg)
		is(t, x.Set(n, entry(1, 1, 1)), api.ErrArg)
		is(t, x.Set(n, prints.Entry{}), api.ErrArg)
		is(t, x.Set(0, prints.Entry{Slot: n, Refs: n}), api.ErrArg)
		i, ok, err2 := x.Slot(n)
		is(t, err2, api.ErrArg)
		if e != (prints.Entry{}) || i != 0 || ok {
			t.Errorf("of %d %v, %d and %v are told beside an error", n, e, i, ok)
		}
	}
	for n := range 4 {
		i, ok, err := x.Find(digest(n))
		is(t, err, api.ErrArg)
		k, err := x.Free(digest(n))
		is(t, err, api.ErrArg)
		if i != 0 || ok || k != 0 {
			t.Errorf("beside ErrArg are told %d, %v, %d", i, ok, k)
		}
	}
	l, err := x.All()
	is(t, err, api.ErrArg)
	if len(l) != 0 {
		t.Errorf("beside ErrArg is told %v", l)
	}
}

// P0: a table that New didn't make doesn't panic.
func TestOddTables(t *testing.T) {
	x := &prints.Table{}
	for _, n := range append(beyond(4), 0, 1, 2, 3) {
		_, _ = x.Get(n)
		_ = x.Set(n, entry(1, 1, 1))
		_, _, _ = x.Slot(n)
		_, _, _ = x.Find(digest(n))
		_, _ = x.Free(digest(n))
	}
	_, _ = x.All()
}

// seen is what a table tells of its places by Get, whatever lies there.
func seen(t testing.TB, x *prints.Table, n int) model {
	t.Helper()
	m := make(model, n)
	for i := range m {
		e, err := x.Get(i)
		if err != nil {
			is(t, err, api.ErrNone)
			continue
		}
		if e.Refs < 1 || e.Refs > 15 || e.Slot < 0 || e.Slot > 255 {
			t.Fatalf("place %d has %v", i, e)
		}
		m[i] = e
	}
	return m
}

// P0, P8.1: whatever bytes lie on the pages, no call panics, each entry that is told can be, and all calls tell of the same entries; a table all of whose places were set has just these entries.
func TestWhateverLiesThere(t *testing.T) {
	for seed := range 200 {
		next := chance(seed + 1000)
		n := 1 + next(20)
		b := bound(t, n)
		for i := range n {
			var p disk.Page
			for j := range p {
				p[j] = byte(next([]int{2, 3, 17, 64, 256}[seed%5]))
			}
			is(t, b.Write(i, p), api.OK)
		}
		x := opened(t, b, 0, n)
		r := on(t, b, 0, seen(t, x, n))
		r.looked()
		for i := range n {
			r.set(i, entry(next(20), next(256), next(16)))
			r.looked()
		}
	}
}
