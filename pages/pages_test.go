package pages_test

import (
	"crypto/sha256"
	"encoding/binary"
	"errors"
	"maps"
	"math"
	"slices"
	"testing"

	"bulkhead/api"
	"bulkhead/disk"
	"bulkhead/pages"
	"bulkhead/ring"
	"bulkhead/woe"
)

// page is bytes that tell n, each byte another one.
func page(n int) disk.Page {
	var p disk.Page
	for i := range p {
		p[i] = byte(n*(2*i+1) + n>>8 + i + 1)
	}
	return p
}

// some are changes of so many pages from at on, which tell n.
func some(at, k, n int) []ring.Change {
	l := make([]ring.Change, k)
	for i := range l {
		l[i] = ring.Change{At: at + i, What: page(n + i*7)}
	}
	return l
}

// last is a digest that tells n.
func last(n int) [32]byte {
	p := page(n)
	return [32]byte(p[:])
}

// chance answers numbers below its argument, the same ones for the same seed.
func chance(seed int) func(n int) int {
	x := uint64(seed)*2654435761 + 12345
	return func(n int) int {
		x ^= x << 13
		x ^= x >> 7
		x ^= x << 17
		return int(x>>8) % n
	}
}

// chosen are the numbers below n that fit.
func chosen(n int, fits func(int) bool) []int {
	var l []int
	for i := range n {
		if fits(i) {
			l = append(l, i)
		}
	}
	return l
}

// all are the numbers below n.
func all(n int) []int { return chosen(n, func(int) bool { return true }) }

// made is a new disk of so many sectors.
func made(t testing.TB, sectors int) *disk.Disk {
	t.Helper()
	d, err := disk.New(sectors)
	if err != nil {
		t.Fatal(err)
	}
	return d
}

// off is a disk of so many sectors that is off.
func off(t testing.TB, sectors int) *disk.Disk {
	t.Helper()
	d := made(t, sectors)
	d.Fuel(0)
	is(t, d.Flush(), api.ErrOff)
	return d
}

// mounted is the book of a disk, whose Mount is to be done.
func mounted(t testing.TB, d *disk.Disk, size int) *pages.Book {
	t.Helper()
	b, err := pages.Mount(d, size)
	if err != nil || b == nil {
		t.Fatalf("Mount answers %v, %v", b, err)
	}
	return b
}

// refused holds a Mount against the error that it is to tell: no book, and nothing of the disk changes, nor is a step taken.
func refused(t testing.TB, d *disk.Disk, size int, want api.Errno) {
	t.Helper()
	on := !d.Off()
	if on {
		d.Fuel(0)
	}
	before := kept(t, d)
	b, err := pages.Mount(d, size)
	is(t, err, want)
	if b != nil {
		t.Errorf("Mount(%d sectors, %d) answers a book beside its error", d.Size(), size)
	}
	if on == d.Off() || !slices.Equal(before, kept(t, d)) {
		t.Errorf("Mount(%d sectors, %d) did something, and refused", d.Size(), size)
	}
	if on {
		d.Fuel(-1)
	}
}

// is holds an error against a number: that one is found, and no other one.
func is(t testing.TB, err error, want api.Errno) {
	t.Helper()
	if want == api.OK {
		if err != nil {
			t.Errorf("the error is %v, want none", err)
		}
		return
	}
	if err == nil || woe.Number(err) != want {
		t.Errorf("the error is %v, want %v", err, want)
	}
	for n := api.Errno(-1); n < 40; n++ {
		if errors.Is(err, n) != (n == want) {
			t.Errorf("the error is %v: it is taken for %v", err, n)
		}
	}
}

// sectors are all those of a disk that is on.
func sectors(t testing.TB, d *disk.Disk) []disk.Page {
	t.Helper()
	l := make([]disk.Page, d.Size())
	for i := range l {
		p, err := d.Read(i)
		if err != nil {
			t.Fatal(err)
		}
		l[i] = p
	}
	return l
}

// kept are all sectors of a disk, on or off, as they are with all that is pending.
func kept(t testing.TB, d *disk.Disk) []disk.Page {
	t.Helper()
	if d == nil {
		return nil
	}
	return sectors(t, d.Crash(all(d.Pending())))
}

// alike holds a disk against the one that it is to be, by what is firm, and each write that is pending.
func alike(t testing.TB, got, want *disk.Disk) {
	t.Helper()
	if got.Size() != want.Size() || got.Off() != want.Off() || got.Pending() != want.Pending() {
		t.Fatalf("the disk has %d sectors, off is %v, pending are %d; want %d, %v, %d", got.Size(), got.Off(), got.Pending(), want.Size(), want.Off(), want.Pending())
	}
	for i := -1; i < got.Pending(); i++ {
		x, y := sectors(t, got.Crash([]int{i})), sectors(t, want.Crash([]int{i}))
		for s := range x {
			if x[s] != y[s] {
				t.Fatalf("of write %d of those pending, sector %d is %v, want %v", i, s, x[s], y[s])
			}
		}
	}
}

// put writes a sector, which is to be done.
func put(t testing.TB, d *disk.Disk, at int, p disk.Page) {
	t.Helper()
	is(t, d.Write(at, p), api.OK)
}

// change writes pages of a book, which is to be done.
func change(t testing.TB, b *pages.Book, l []ring.Change) {
	t.Helper()
	for _, c := range l {
		is(t, b.Write(c.At, c.What), api.OK)
	}
}

// commit changes pages of a book in a transaction, which is to be done.
func commit(t testing.TB, b *pages.Book, l []ring.Change) {
	t.Helper()
	change(t, b, l)
	is(t, b.Commit(), api.OK)
}

// has holds a page of a book against what it is to be.
func has(t testing.TB, b *pages.Book, i int, want disk.Page) {
	t.Helper()
	if p, err := b.Read(i); err != nil || p != want {
		t.Errorf("page %d is %v, %v, want %v", i, p, err, want)
	}
}

// hasAll holds all pages of a book against what they are to be.
func hasAll(t testing.TB, b *pages.Book, want []disk.Page) {
	t.Helper()
	if b.Pages() != len(want) {
		t.Fatalf("there are %d pages, want %d", b.Pages(), len(want))
	}
	for i, p := range want {
		has(t, b, i, p)
	}
}

// of are so many pages of zeros, behind those changes.
func of(n int, l ...ring.Change) []disk.Page {
	p := make([]disk.Page, n)
	for _, c := range l {
		p[c.At] = c.What
	}
	return p
}

// beyond are numbers that are no page of so many.
func beyond(n int) []int {
	return []int{-1, -2, -n, n, n + 1, api.MaxPages, api.MaxSectors, 1 << 32, -1 << 32, math.MinInt, math.MaxInt}
}

// title is the page that tells a generation and a mark, by the words.
func title(generation uint64, m ring.Mark) disk.Page {
	b := binary.LittleEndian.AppendUint64([]byte{'B'}, generation)
	b = binary.LittleEndian.AppendUint64(b, m.Number)
	b = binary.LittleEndian.AppendUint16(b, uint16(m.Place))
	b = append(b, m.Last[:]...)
	d := sha256.Sum256(b)
	return disk.Page(append(b, d[:13]...))
}

// home is the mark with which a generation begins, where the ring's head is m ahead of it, by the words.
func home(m ring.Mark, generation uint64) ring.Mark {
	m.Last = sha256.Sum256(binary.LittleEndian.AppendUint64(m.Last[:], generation))
	return m
}

// record are the sectors of a record of l at m, by the words of layer 5.
func record(m ring.Mark, l []ring.Change) []disk.Page {
	head := binary.LittleEndian.AppendUint64([]byte{'T'}, m.Number)
	head = append(head, byte(len(l)))
	var body []byte
	for _, c := range l {
		body = binary.LittleEndian.AppendUint32(body, uint32(c.At))
	}
	for len(body)%api.Sector != 0 {
		body = append(body, 0)
	}
	for _, c := range l {
		body = append(body, c.What[:]...)
	}
	d := sha256.Sum256(slices.Concat(m.Last[:], head, body))
	first := append(head, d[:]...)
	first = append(first, make([]byte, api.Sector-len(first))...)
	var p []disk.Page
	for s := range slices.Chunk(append(first, body...), api.Sector) {
		p = append(p, disk.Page(s))
	}
	return p
}

// A script is, step by step, what a book's calls are to do to its disk, by the words.
type script struct {
	size       int
	generation uint64
	head       ring.Mark
	room       int
	steps      []func(d *disk.Disk) error
}

func (s *script) flush() { s.steps = append(s.steps, (*disk.Disk).Flush) }

func (s *script) write(at int, p disk.Page) {
	s.steps = append(s.steps, func(d *disk.Disk) error { return d.Write(at, p) })
}

// home is to bring home those news.
func (s *script) home(news []ring.Change) {
	s.flush()
	for _, c := range news {
		s.write(2+s.size+c.At, c.What)
	}
	s.flush()
	s.generation++
	s.head = home(s.head, s.generation)
	s.write(int(s.generation&1), title(s.generation, s.head))
	s.flush()
	s.room = s.size
}

// record is to add a record.
func (s *script) record(l []ring.Change) {
	p := record(s.head, l)
	for i := range p {
		s.write(2+(s.head.Place+i)%s.size, p[i])
	}
	s.head = ring.Mark{Place: (s.head.Place + len(p)) % s.size, Number: s.head.Number + 1, Last: [32]byte(p[0][10:42])}
	s.room -= len(p)
}

// done does the script to a disk, to its end, or till the disk is off.
func (s *script) done(d *disk.Disk) *disk.Disk {
	for _, step := range s.steps {
		if step(d) != nil {
			break
		}
	}
	return d
}

// P6.1: Mount answers a book for all sizes of rings on all disks that have room for one page, and the pages are the sectors that are left, MaxPages at most.
func TestMountBounds(t *testing.T) {
	for _, c := range []struct{ sectors, size, want int }{
		{99, 96, 1},
		{100, 96, 2},
		{100, 97, 1},
		{200, 100, 98},
		{1000, 96, 902},
		{1000, 997, 1},
		{2145, 96, 2047},
		{2146, 96, 2048},
		{2147, 96, 2048},
		{4096, 96, 2048},
		{4096, 2045, 2048},
		{4096, 2046, 2048},
		{4096, 2047, 2047},
		{4096, 4092, 2},
		{4096, 4093, 1},
	} {
		d := made(t, c.sectors)
		b := mounted(t, d, c.size)
		if b.Pages() != c.want {
			t.Errorf("of %d sectors and a ring of %d there are %d pages, want %d", c.sectors, c.size, b.Pages(), c.want)
		}
		hasAll(t, b, make([]disk.Page, c.want))
		commit(t, b, []ring.Change{{At: c.want - 1, What: page(1)}})
		hasAll(t, b, of(c.want, ring.Change{At: c.want - 1, What: page(1)}))
		is(t, b.Sync(), api.OK)
		b = mounted(t, d.Crash(nil), c.size)
		hasAll(t, b, of(c.want, ring.Change{At: c.want - 1, What: page(1)}))
		for _, i := range beyond(c.want)[:5] {
			_, err := b.Read(i)
			is(t, err, api.ErrArg)
		}
	}
}

// P6.1: ErrArg of Mount, for no disk, wrong sizes, and too few sectors, ahead of ErrOff and of ErrForm.
func TestMountWrongArguments(t *testing.T) {
	formless := made(t, 200)
	put(t, formless, 0, title(1, ring.Mark{Place: 60000}))
	for _, size := range []int{95, 94, 2, 1, 0, -1, -95, -96, -100, 198, 199, 200, 201, 4096, 4097, 1 << 16, 1 << 32, 1<<32 + 100, math.MinInt, math.MinInt + 100, math.MaxInt, math.MaxInt - 2} {
		refused(t, nil, size, api.ErrArg)
		refused(t, &disk.Disk{}, size, api.ErrArg)
		refused(t, made(t, 200), size, api.ErrArg)
		refused(t, off(t, 200), size, api.ErrArg)
		refused(t, formless, size, api.ErrArg)
	}
	refused(t, formless, 197, api.ErrForm)
	for _, size := range []int{96, 97, 150, 4096} {
		refused(t, nil, size, api.ErrArg)
		for _, n := range []int{1, 2, 95, 96, 97, size - 1, size, size + 1, size + 2} {
			if n <= api.MaxSectors && n < size+3 {
				refused(t, made(t, n), size, api.ErrArg)
				refused(t, off(t, n), size, api.ErrArg)
			}
		}
	}
	refused(t, made(t, 4096), 4094, api.ErrArg)
	refused(t, made(t, 4096), 4095, api.ErrArg)
}

// P6.1: ErrOff of Mount, where the disk is off, with no book, ahead of ErrForm.
func TestMountOff(t *testing.T) {
	refused(t, off(t, 99), 96, api.ErrOff)
	d := made(t, 4096)
	put(t, d, 0, title(1, ring.Mark{Place: 60000}))
	d.Fuel(0)
	is(t, d.Flush(), api.ErrOff)
	refused(t, d, 96, api.ErrOff)
	refused(t, d, 4093, api.ErrOff)
}

// P6.1: of a disk of zeros Mount brings nothing home: two flushes, a title of generation 1 in sector 1, a flush.
func TestMountOfZeros(t *testing.T) {
	for fuel := range 5 {
		d := made(t, 120)
		d.Fuel(fuel)
		b, err := pages.Mount(d, 96)
		if fuel < 4 {
			is(t, err, api.ErrOff)
			if b != nil {
				t.Error("Mount answers a book beside its error")
			}
		} else {
			is(t, err, api.OK)
		}
		s := &script{size: 96}
		s.home(nil)
		x := made(t, 120)
		x.Fuel(fuel)
		alike(t, d, s.done(x))
	}
	behind := [40]byte{32: 1}
	body := slices.Concat([]byte{'B', 1}, make([]byte, 7+8+2))
	sum := sha256.Sum256(behind[:])
	body = append(body, sum[:]...)
	sum = sha256.Sum256(body)
	want := make([]disk.Page, 120)
	want[1] = disk.Page(append(body, sum[:13]...))
	d := made(t, 120)
	b := mounted(t, d, 96)
	if d.Pending() != 0 || !slices.Equal(sectors(t, d), want) {
		t.Error("the sectors are others")
	}
	hasAll(t, b, make([]disk.Page, 22))
}

// P6.1: behind a Mount the generation is one more than that of the greater title, wherever that lies; the new title is in sector 0 if it is even, else in 1, and the other sector is as it was.
func TestGreaterTitle(t *testing.T) {
	const n = math.MaxUint64
	none := []uint64{0, 1, 2, 3, 4, 255, 256, 65535, 1<<32 - 1, 1 << 32, 1<<32 + 1, 1 << 40, 1<<63 - 1, 1 << 63, n - 2, n - 1}
	for _, g0 := range none {
		for _, g1 := range none {
			if g0 == g1 && g0 != 0 {
				continue
			}
			m0 := ring.Mark{Place: 94, Number: 77, Last: last(1)}
			m1 := ring.Mark{Place: 1, Number: 1<<63 + 5, Last: last(2)}
			d := made(t, 103)
			put(t, d, 0, title(g0, m0))
			put(t, d, 1, title(g1, m1))
			want := sectors(t, d)
			g, m := g0, m0
			if g1 > g0 {
				g, m = g1, m1
			}
			if g == 0 {
				m = ring.Mark{}
			}
			want[(g+1)&1] = title(g+1, home(m, g+1))
			mounted(t, d, 96)
			if d.Pending() != 0 || !slices.Equal(sectors(t, d), want) {
				t.Fatalf("titles of %d and %d: the sectors are others", g0, g1)
			}
		}
	}
}

// P6.1: one title is enough, in either sector, whatever lies in the other one; where neither is a title the generation and the mark are zeros.
func TestOneTitle(t *testing.T) {
	m := ring.Mark{Place: 40, Number: 9, Last: last(3)}
	for _, other := range []disk.Page{{}, page(5), {'B'}, {'B', 9}, {'T'}} {
		for at := range 2 {
			for _, g := range []uint64{0, 1, 6, 7} {
				d := made(t, 103)
				put(t, d, at, title(g, m))
				put(t, d, 1-at, other)
				want := sectors(t, d)
				want[(g+1)&1] = title(g+1, home(m, g+1))
				if g == 0 {
					want[1] = title(1, home(ring.Mark{}, 1))
				}
				mounted(t, d, 96)
				if !slices.Equal(sectors(t, d), want) {
					t.Fatalf("a title of %d in sector %d: the sectors are others", g, at)
				}
			}
		}
		d := made(t, 103)
		put(t, d, 0, other)
		put(t, d, 1, other)
		want := sectors(t, d)
		want[1] = title(1, home(ring.Mark{}, 1))
		mounted(t, d, 96)
		if !slices.Equal(sectors(t, d), want) {
			t.Fatal("no title: the sectors are others")
		}
	}
}

// P6.1: each bit of a title counts: with one turned it is none.
func TestEachBitOfATitleCounts(t *testing.T) {
	m0 := ring.Mark{Place: 70, Number: 77, Last: last(1)}
	m1 := ring.Mark{Place: 1, Number: 5, Last: last(2)}
	for bit := range 8 * api.Sector {
		for at := range 2 {
			p := title(10, m0)
			p[bit/8] ^= 1 << (bit % 8)
			d := made(t, 103)
			put(t, d, at, p)
			put(t, d, 1-at, title(5, m1))
			want := sectors(t, d)
			want[0] = title(6, home(m1, 6))
			mounted(t, d, 96)
			if !slices.Equal(sectors(t, d), want) {
				t.Fatalf("bit %d in sector %d: the sectors are others", bit, at)
			}
		}
	}
}

// P6.1: a page with another sign isn't a title, though its digest be right.
func TestTitleSign(t *testing.T) {
	m := ring.Mark{Place: 40, Number: 9, Last: last(3)}
	for _, sign := range []byte{0, 'A', 'b', 'C', 'T', 'V', 255} {
		p := title(10, m)
		p[0] = sign
		sum := sha256.Sum256(p[:51])
		copy(p[51:], sum[:])
		d := made(t, 103)
		put(t, d, 0, p)
		mounted(t, d, 96)
		want := made(t, 103)
		put(t, want, 0, p)
		put(t, want, 1, title(1, home(ring.Mark{}, 1)))
		if !slices.Equal(sectors(t, d), sectors(t, want)) {
			t.Errorf("sign %d: the sectors are others", sign)
		}
	}
}

// P6.1: ErrForm of Mount, where the mark's place isn't below the ring's size; the mark is that of the greater title alone.
func TestPlaceBelowSize(t *testing.T) {
	for _, size := range []int{96, 255, 256, 300, 4000} {
		for _, place := range []int{0, 1, size - 2, size - 1} {
			d := made(t, size+10)
			m := ring.Mark{Place: place, Number: 3}
			put(t, d, 0, title(8, m))
			put(t, d, 1, title(7, ring.Mark{Place: 65535}))
			mounted(t, d, size)
			if p, _ := d.Read(1); p != title(9, home(m, 9)) {
				t.Errorf("size %d, place %d: the title is another one", size, place)
			}
		}
		for _, place := range []int{size, size + 1, 2 * size, 32767, 32768, 65535} {
			d := made(t, size+10)
			put(t, d, 0, title(7, ring.Mark{}))
			put(t, d, 1, title(8, ring.Mark{Place: place}))
			refused(t, d, size, api.ErrForm)
		}
	}
}

// lay adds records to the ring of a disk, from m on, and answers where the next one would stand.
func lay(t testing.TB, d *disk.Disk, size int, m ring.Mark, records ...[]ring.Change) ring.Mark {
	t.Helper()
	r, _, err := ring.Open(d, 2, size, m)
	is(t, err, api.OK)
	for _, l := range records {
		is(t, r.Add(l), api.OK)
	}
	return r.Head()
}

// P6.1: ErrForm of Mount, where a record changes a page that there isn't, in whatever record and place, though there be such a sector.
func TestMountNoSuchPage(t *testing.T) {
	m := ring.Mark{Place: 90, Number: 5, Last: last(1)}
	for _, c := range []struct{ sectors, pages int }{{99, 1}, {103, 5}, {2146, 2048}, {2147, 2048}, {4096, 2048}} {
		n := c.pages
		good := []ring.Change{{At: n - 1, What: page(1)}, {At: 0, What: page(2)}}
		for _, bad := range []int{n, n + 1, n + 2 + 96, 2048, 4095, 4096, math.MaxInt32, 1 << 31, math.MaxUint32, -1} {
			for _, records := range [][][]ring.Change{
				{{{At: bad, What: page(3)}}},
				{{{At: bad}}},
				{good, {{At: 0, What: page(4)}, {At: bad, What: page(3)}}, good},
				{good, {{At: bad, What: page(3)}, {At: 0, What: page(4)}}},
			} {
				d := made(t, c.sectors)
				put(t, d, 0, title(2, m))
				lay(t, d, 96, m, records...)
				refused(t, d, 96, api.ErrForm)
			}
		}
		d := made(t, c.sectors)
		put(t, d, 0, title(2, m))
		lay(t, d, 96, m, good, []ring.Change{{At: n - 1, What: page(3)}})
		b := mounted(t, d, 96)
		has(t, b, n-1, page(3))
		if n > 1 {
			has(t, b, 0, page(2))
		}
	}
}

// P6.1: Mount brings home what the records say, the last change of each page, in order of the pages' numbers, step by step.
func TestMountBringsHome(t *testing.T) {
	const size, sectors = 96, 120
	m := ring.Mark{Place: 93, Number: 1 << 40, Last: last(1)}
	records := [][]ring.Change{
		{{At: 21, What: page(1)}, {At: 3, What: page(2)}},
		{{At: 3, What: page(3)}, {At: 4, What: page(4)}, {At: 0, What: page(5)}},
		{{At: 4, What: page(6)}, {At: 4, What: page(7)}},
		{{At: 9, What: page(8)}, {At: 0, What: disk.Page{}}},
	}
	news := []ring.Change{{At: 0}, {At: 3, What: page(3)}, {At: 4, What: page(7)}, {At: 9, What: page(8)}, {At: 21, What: page(1)}}
	for fuel := range 11 {
		for pending := range 2 {
			begun := func() (*disk.Disk, ring.Mark) {
				d := made(t, sectors)
				for i := range sectors {
					put(t, d, i, page(1000+i)) // homes with something else
				}
				put(t, d, 1, title(4, m)) // where none of that generation is written
				head := lay(t, d, size, m, records...)
				if pending == 0 {
					is(t, d.Flush(), api.OK)
				}
				d.Fuel(fuel)
				return d, head
			}
			d, head := begun()
			b, err := pages.Mount(d, size)
			x, _ := begun()
			s := &script{size: size, generation: 4, head: head}
			s.home(news)
			if len(s.steps) != 9 {
				t.Fatal("the script is another one")
			}
			alike(t, d, s.done(x))
			if fuel < 9 {
				is(t, err, api.ErrOff)
				if b != nil {
					t.Error("Mount answers a book beside its error")
				}
				continue
			}
			is(t, err, api.OK)
			want := make([]disk.Page, 22)
			for i := range want {
				want[i] = page(1000 + 98 + i)
			}
			for _, c := range news {
				want[c.At] = c.What
			}
			hasAll(t, b, want)
		}
	}
}

// P6.1: the calls of a book do to its disk, step by step, what the words say, with fuel for each number of steps: what is committed is a record, in order of the pages' numbers; it is brought home first where the ring has no room, just then. With an error the book is broken.
func TestCallsStepByStep(t *testing.T) {
	const size, sectors = 96, 2 + 96 + 70
	reversed := func(l []ring.Change) []ring.Change {
		l = slices.Clone(l)
		slices.Reverse(l)
		return l
	}
	// Of the ring's 96 places these records take 4, 65 and 27: all; 65 and 31: all; then 65, 65 and 3.
	txns := [][]ring.Change{
		some(3, 2, 100),
		some(10, 60, 200),
		some(0, 24, 300),
		some(9, 60, 400),
		some(42, 28, 500),
		some(1, 60, 600),
		some(2, 60, 700),
		some(69, 1, 800),
	}
	s := &script{size: size}
	s.home(nil)
	ends := []int{len(s.steps)} // how many steps are done behind each call
	news := map[int]disk.Page{}
	brought := 0
	for i, l := range txns {
		if 1+(len(l)+15)/16+len(l) > s.room {
			s.home(inOrder(news))
			clear(news)
			brought++
		}
		s.record(l)
		for _, c := range l {
			news[c.At] = c.What
		}
		ends = append(ends, len(s.steps))
		if i%3 == 0 {
			s.flush()
		}
		ends = append(ends, len(s.steps))
	}
	if brought != 3 {
		t.Fatalf("the script brings home %d times", brought)
	}
	for fuel := range len(s.steps) + 1 {
		d, x := made(t, sectors), made(t, sectors)
		d.Fuel(fuel)
		x.Fuel(fuel)
		alike(t, callsOf(t, d, size, txns, ends, fuel, reversed), s.done(x))
	}
}

// callsOf are the calls of TestCallsStepByStep to a disk with so much fuel, till one is to tell an error.
func callsOf(t *testing.T, d *disk.Disk, size int, txns [][]ring.Change, ends []int, fuel int, order func([]ring.Change) []ring.Change) *disk.Disk {
	t.Helper()
	b, err := pages.Mount(d, size)
	if fuel < ends[0] {
		is(t, err, api.ErrOff)
		return d
	}
	is(t, err, api.OK)
	for i, l := range txns {
		change(t, b, order(l))
		err := b.Commit()
		if fuel < ends[2*i+1] {
			is(t, err, api.ErrOff)
			broken(t, b)
			return d
		}
		is(t, err, api.OK)
		if i%3 == 0 {
			err := b.Sync()
			if fuel < ends[2*i+2] {
				is(t, err, api.ErrOff)
				broken(t, b)
				return d
			}
			is(t, err, api.OK)
		}
	}
	return d
}

// inOrder are the pages of a map, as changes, in order of their numbers.
func inOrder(m map[int]disk.Page) []ring.Change {
	var l []ring.Change
	for _, at := range slices.Sorted(maps.Keys(m)) {
		l = append(l, ring.Change{At: at, What: m[at]})
	}
	return l
}

// broken holds a book's calls against those of one that is broken.
func broken(t testing.TB, b *pages.Book) {
	t.Helper()
	for range 2 {
		for _, i := range append(beyond(b.Pages()), 0, 1, 5, b.Pages()-1) {
			p, err := b.Read(i)
			is(t, err, api.ErrOff)
			if p != (disk.Page{}) {
				t.Errorf("Read(%d) answers %v beside its error", i, p)
			}
			is(t, b.Write(i, page(1)), api.ErrOff)
			is(t, b.Write(i, disk.Page{}), api.ErrOff)
		}
		is(t, b.Commit(), api.ErrOff)
		is(t, b.Sync(), api.ErrOff)
		b.Undo()
	}
}

// P6.1: how many pages there are is told of a broken book too.
func TestPagesOfABrokenBook(t *testing.T) {
	d := made(t, 120)
	b := mounted(t, d, 96)
	d.Fuel(0)
	is(t, b.Sync(), api.ErrOff)
	broken(t, b)
	if b.Pages() != 22 {
		t.Errorf("there are %d pages", b.Pages())
	}
}

// P6.1: a book is broken by a Sync that isn't done, by an Add that isn't, and by each step of bringing home that isn't, and stays so.
func TestBroken(t *testing.T) {
	begun := func(fuel int) (*disk.Disk, *pages.Book) {
		d := made(t, 200)
		b := mounted(t, d, 96)
		commit(t, b, some(0, 60, 1))
		is(t, b.Write(5, page(9)), api.OK)
		d.Fuel(fuel)
		return d, b
	}
	d, b := begun(0)
	is(t, b.Sync(), api.ErrOff)
	d.Fuel(-1) // the disk stays off
	broken(t, b)
	d, b = begun(2)
	is(t, b.Commit(), api.ErrOff)
	d.Fuel(100)
	broken(t, b)
	for fuel := range 1 + 60 + 1 + 1 + 1 + 65 { // no room: all is brought home first
		_, b := begun(fuel)
		change(t, b, some(0, 60, 300))
		is(t, b.Commit(), api.ErrOff)
		broken(t, b)
	}
}

// P6.1: a book whose disk is off isn't broken by that, till a call meets it: pages of the transaction and of the news are read and written yet, pages at home aren't.
func TestOffButNotBroken(t *testing.T) {
	d := made(t, 120)
	b := mounted(t, d, 96)
	commit(t, b, []ring.Change{{At: 3, What: page(3)}, {At: 4, What: page(4)}})
	is(t, b.Write(5, page(5)), api.OK)
	d.Fuel(0)
	is(t, d.Flush(), api.ErrOff)
	try := func() {
		t.Helper()
		for _, i := range []int{0, 1, 2, 6, 21} {
			p, err := b.Read(i)
			is(t, err, api.ErrOff)
			if p != (disk.Page{}) {
				t.Errorf("Read(%d) answers %v beside its error", i, p)
			}
			is(t, b.Write(i, page(7)), api.ErrOff)
			is(t, b.Write(i, disk.Page{}), api.ErrOff)
		}
		for _, i := range beyond(22) {
			_, err := b.Read(i)
			is(t, err, api.ErrArg)
			is(t, b.Write(i, page(7)), api.ErrArg)
		}
	}
	try()
	for i := 3; i < 6; i++ {
		has(t, b, i, page(i))
		is(t, b.Write(i, page(i)), api.OK)
	}
	is(t, b.Write(4, page(44)), api.OK)
	has(t, b, 4, page(44))
	b.Undo()
	has(t, b, 3, page(3))
	has(t, b, 4, page(4))
	_, err := b.Read(5)
	is(t, err, api.ErrOff)
	try()
	is(t, b.Commit(), api.OK) // there is nothing to commit
	has(t, b, 3, page(3))
	is(t, b.Write(3, page(33)), api.OK)
	is(t, b.Commit(), api.ErrOff)
	broken(t, b)
}

// P6.1: Read answers the transaction's bytes, or those of the news, or those at home; Undo leaves none of a transaction, and nothing else.
func TestReadAndUndo(t *testing.T) {
	d := made(t, 120)
	put(t, d, 98+7, page(7))
	b := mounted(t, d, 96)
	want := of(22, ring.Change{At: 7, What: page(7)})
	hasAll(t, b, want)
	b.Undo()
	hasAll(t, b, want)
	commit(t, b, []ring.Change{{At: 7, What: page(8)}, {At: 8, What: page(9)}})
	want[7], want[8] = page(8), page(9)
	hasAll(t, b, want)
	change(t, b, []ring.Change{{At: 8, What: page(10)}, {At: 9, What: page(11)}, {At: 7, What: disk.Page{}}})
	under := slices.Clone(want)
	under[7], under[8], under[9] = disk.Page{}, page(10), page(11)
	hasAll(t, b, under)
	steps := d.Pending()
	b.Undo()
	hasAll(t, b, want)
	is(t, b.Commit(), api.OK)
	hasAll(t, b, want)
	if d.Pending() != steps {
		t.Error("what was undone is written")
	}
	change(t, b, []ring.Change{{At: 9, What: page(12)}})
	is(t, b.Commit(), api.OK)
	b.Undo() // there is none under way
	want[9] = page(12)
	hasAll(t, b, want)
	if d.Pending() != steps+3 {
		t.Errorf("a record of one page takes %d writes", d.Pending()-steps)
	}
}

// P6.1: Read and Write of a page that there isn't: ErrArg, with zeros, and nothing changes.
func TestNoSuchPage(t *testing.T) {
	for _, c := range []struct{ sectors, pages int }{{99, 1}, {120, 22}, {2200, 2048}, {4096, 2048}} {
		d := made(t, c.sectors)
		b := mounted(t, d, 96)
		change(t, b, []ring.Change{{At: c.pages - 1, What: page(1)}})
		for _, i := range beyond(c.pages) {
			if i >= 0 && i < c.pages {
				continue
			}
			p, err := b.Read(i)
			is(t, err, api.ErrArg)
			if p != (disk.Page{}) {
				t.Errorf("Read(%d) answers %v beside its error", i, p)
			}
			is(t, b.Write(i, page(2)), api.ErrArg)
			is(t, b.Write(i, disk.Page{}), api.ErrArg)
		}
		is(t, b.Commit(), api.OK)
		if d.Pending() != 3 {
			t.Errorf("a record of one page takes %d writes", d.Pending())
		}
		hasAll(t, b, of(c.pages, ring.Change{At: c.pages - 1, What: page(1)}))
	}
}

// P6.1: nothing is written by calls that have nothing to write, and no step is taken: Read, Write, Undo, Pages, and a Commit of no page.
func TestNoSteps(t *testing.T) {
	d := made(t, 120)
	b := mounted(t, d, 96)
	before := sectors(t, d)
	d.Fuel(0)
	for i := range 22 {
		has(t, b, i, disk.Page{})
		is(t, b.Write(i, disk.Page{}), api.OK)
	}
	is(t, b.Commit(), api.OK)
	change(t, b, some(0, 22, 1))
	b.Undo()
	is(t, b.Commit(), api.OK)
	is(t, b.Commit(), api.OK)
	if b.Pages() != 22 || d.Off() || d.Pending() != 0 || !slices.Equal(sectors(t, d), before) {
		t.Error("the disk is another one")
	}
}

// P6.1: a Write of the bytes that a page has puts it into no transaction; but a page that is in one stays there, though it get back the bytes that it had.
func TestWriteOfTheSame(t *testing.T) {
	d := made(t, 200)
	s := &script{size: 96}
	s.home(nil)
	b := mounted(t, d, 96)
	check := func(l ...ring.Change) {
		t.Helper()
		is(t, b.Commit(), api.OK)
		if len(l) > 0 {
			s.record(l)
		}
		alike(t, d, s.done(made(t, 200)))
	}
	is(t, b.Write(1, disk.Page{}), api.OK) // as at home
	check()
	change(t, b, []ring.Change{{At: 2, What: page(2)}, {At: 1, What: disk.Page{}}, {At: 0, What: page(1)}})
	check(ring.Change{At: 0, What: page(1)}, ring.Change{At: 2, What: page(2)})
	change(t, b, []ring.Change{{At: 2, What: page(2)}, {At: 0, What: page(1)}}) // as in the news
	check()
	change(t, b, []ring.Change{{At: 2, What: page(3)}, {At: 2, What: page(2)}, {At: 1, What: page(4)}, {At: 1, What: disk.Page{}}})
	has(t, b, 2, page(2))
	check(ring.Change{At: 1}, ring.Change{At: 2, What: page(2)})
	change(t, b, []ring.Change{{At: 3, What: page(3)}, {At: 3, What: page(3)}, {At: 3, What: page(4)}})
	check(ring.Change{At: 3, What: page(4)})
}

// P6.1: ErrLarge of Write of one more than MaxTxn pages; the transaction is as it was, pages that are in it can be written, and bytes that a page has.
func TestTooManyPages(t *testing.T) {
	d := made(t, 200)
	b := mounted(t, d, 96)
	commit(t, b, []ring.Change{{At: 80, What: page(80)}})
	steps := d.Pending()
	want := of(102, ring.Change{At: 80, What: page(80)})
	change(t, b, some(0, 60, 1))
	for _, c := range some(0, 60, 1) {
		want[c.At] = c.What
	}
	try := func() {
		t.Helper()
		for _, i := range []int{60, 61, 79, 80, 81, 101} {
			is(t, b.Write(i, page(999)), api.ErrLarge)
			is(t, b.Write(i, want[i]), api.OK)
		}
		is(t, b.Write(80, disk.Page{}), api.ErrLarge)
		for _, i := range beyond(102) {
			is(t, b.Write(i, page(999)), api.ErrArg)
		}
		hasAll(t, b, want)
	}
	try()
	for _, i := range []int{0, 59, 30} {
		is(t, b.Write(i, page(500+i)), api.OK)
		want[i] = page(500 + i)
	}
	is(t, b.Write(7, disk.Page{}), api.OK) // as it was; it stays in the transaction
	want[7] = disk.Page{}
	try()
	is(t, b.Commit(), api.OK)
	hasAll(t, b, want)
	if d.Pending()-steps != 65 {
		t.Errorf("a record of 60 pages takes %d writes", d.Pending()-steps)
	}
	is(t, b.Write(60, page(60)), api.OK) // the next transaction has room again
	want[60] = page(60)
	hasAll(t, b, want)
}

// P6.1: behind an Undo a transaction has room for MaxTxn pages again.
func TestUndoOfManyPages(t *testing.T) {
	d := made(t, 200)
	b := mounted(t, d, 96)
	for range 3 {
		change(t, b, some(0, 60, 1))
		is(t, b.Write(60, page(1)), api.ErrLarge)
		b.Undo()
		hasAll(t, b, make([]disk.Page, 102))
	}
	commit(t, b, some(42, 60, 5))
	hasAll(t, b, of(102, some(42, 60, 5)...))
	if d.Pending() != 65 {
		t.Errorf("a record of 60 pages takes %d writes", d.Pending())
	}
}

// P6.1: what is read, and what was written, are bytes of their own.
func TestPagesAreValues(t *testing.T) {
	b := mounted(t, made(t, 120), 96)
	p := page(1)
	is(t, b.Write(0, p), api.OK)
	p[0]++
	got, _ := b.Read(0)
	got[1]++
	has(t, b, 0, page(1))
	is(t, b.Commit(), api.OK)
	got, _ = b.Read(0)
	got[2]++
	has(t, b, 0, page(1))
}

// P6.1: books on two disks are two.
func TestBooksAreApart(t *testing.T) {
	a, b := mounted(t, made(t, 120), 96), mounted(t, made(t, 120), 96)
	change(t, a, some(0, 3, 1))
	hasAll(t, b, make([]disk.Page, 22))
	is(t, b.Commit(), api.OK)
	is(t, a.Commit(), api.OK)
	hasAll(t, b, make([]disk.Page, 22))
	commit(t, b, some(2, 3, 9))
	hasAll(t, a, of(22, some(0, 3, 1)...))
	hasAll(t, b, of(22, some(2, 3, 9)...))
}

// P6.1: no sector is touched but the titles, the ring and the homes, though there be others behind MaxPages homes.
func TestGreatestBook(t *testing.T) {
	d := made(t, api.MaxSectors)
	for i := 98; i < d.Size(); i++ {
		put(t, d, i, page(i))
	}
	want := sectors(t, d)[98:]
	b := mounted(t, d, 96)
	for i := range 200 {
		l := some(i*37%1990, 50, 10000*i)
		for _, c := range l {
			want[c.At] = c.What
		}
		commit(t, b, l)
	}
	commit(t, b, []ring.Change{{At: 2047, What: page(1)}})
	want[2047] = page(1)
	hasAll(t, b, want[:2048])
	is(t, b.Sync(), api.OK)
	d = d.Crash(nil)
	hasAll(t, mounted(t, d, 96), want[:2048])
	if !slices.Equal(sectors(t, d)[98:], want) {
		t.Error("the homes, or the sectors behind them, are others")
	}
}

// P6.1 and rule 7: of a nil *Book: ErrOff, 0.
func TestNilBook(t *testing.T) {
	var b *pages.Book
	if b.Pages() != 0 {
		t.Errorf("there are %d pages", b.Pages())
	}
	broken(t, b)
}

// P0: a book that Mount didn't make doesn't panic, nor does a title of the last generation.
func TestOddBooks(t *testing.T) {
	use := func(b *pages.Book) {
		b.Undo()
		for _, i := range append(beyond(22), 0, 1) {
			b.Read(i)
			b.Write(i, page(1))
		}
		b.Commit()
		b.Sync()
		b.Undo()
		b.Pages()
	}
	use(&pages.Book{})
	d := made(t, 120)
	put(t, d, 1, title(math.MaxUint64, ring.Mark{Place: 95, Number: math.MaxUint64}))
	b, _ := pages.Mount(d, 96)
	use(b)
}

// P6.1: a mark's number goes around behind its greatest one.
func TestNumberGoesAround(t *testing.T) {
	d := made(t, 200)
	m := ring.Mark{Place: 7, Number: math.MaxUint64 - 1, Last: last(4)}
	put(t, d, 0, title(2, m))
	is(t, d.Flush(), api.OK)
	b := mounted(t, d, 96)
	s := &script{size: 96, generation: 2, head: m}
	s.write(0, title(2, m))
	s.home(nil)
	news := map[int]disk.Page{}
	for i := range 4 {
		l := some(i, 40, 50*i)
		commit(t, b, l)
		if s.room < 44 {
			s.home(inOrder(news))
			clear(news)
		}
		s.record(l)
		for _, c := range l {
			news[c.At] = c.What
		}
	}
	if s.head.Number != 2 {
		t.Fatalf("the script's number is %d", s.head.Number)
	}
	alike(t, d, s.done(made(t, 200)))
}

// A model is a book by the words, on a disk of its own; layers 4 and 5 do for it what they do for a book.
type model struct {
	d          *disk.Disk
	r          *ring.Ring
	size       int
	pages      int
	generation uint64
	news, txn  map[int]disk.Page
	broken     bool
}

// modelled is Mount of a model.
func modelled(d *disk.Disk, size int) (*model, error) {
	if size < 96 || size > 4096 || d.Size() < 3+size {
		return nil, api.ErrArg
	}
	if d.Off() {
		return nil, api.ErrOff
	}
	m := &model{d: d, size: size, pages: min(2048, d.Size()-2-size), news: map[int]disk.Page{}, txn: map[int]disk.Page{}}
	var mark ring.Mark
	for i := range 2 {
		p, _ := d.Read(i)
		g := binary.LittleEndian.Uint64(p[1:])
		x := ring.Mark{Number: binary.LittleEndian.Uint64(p[9:]), Place: int(binary.LittleEndian.Uint16(p[17:])), Last: [32]byte(p[19:])}
		if p == title(g, x) && g > m.generation {
			m.generation, mark = g, x
		}
	}
	if mark.Place >= size {
		return nil, api.ErrForm
	}
	r, found, err := ring.Open(d, 2, size, mark)
	if err != nil {
		return nil, err
	}
	m.r = r
	for _, c := range slices.Concat(found...) {
		if c.At >= m.pages {
			return nil, api.ErrForm
		}
		m.news[c.At] = c.What
	}
	return m, m.home()
}

// home is to bring home.
func (m *model) home() error {
	s := &script{size: m.size, generation: m.generation, head: m.r.Head()}
	s.home(inOrder(m.news))
	for _, step := range s.steps {
		if err := step(m.d); err != nil {
			m.broken = true
			return err
		}
	}
	m.generation = s.generation
	m.r.Cut(s.head.Last)
	clear(m.news)
	return nil
}

func (m *model) read(i int) (disk.Page, error) {
	if m.broken {
		return disk.Page{}, api.ErrOff
	}
	if i < 0 || i >= m.pages {
		return disk.Page{}, api.ErrArg
	}
	for _, l := range []map[int]disk.Page{m.txn, m.news} {
		if p, ok := l[i]; ok {
			return p, nil
		}
	}
	return m.d.Read(2 + m.size + i)
}

func (m *model) write(i int, p disk.Page) error {
	now, err := m.read(i)
	if err != nil {
		return err
	}
	_, in := m.txn[i]
	if !in && now == p {
		return nil
	}
	if !in && len(m.txn) == 60 {
		return api.ErrLarge
	}
	m.txn[i] = p
	return nil
}

func (m *model) commit() error {
	if m.broken {
		return api.ErrOff
	}
	l := inOrder(m.txn)
	clear(m.txn)
	if len(l) == 0 {
		return nil
	}
	if 1+(len(l)+15)/16+len(l) > m.r.Room() {
		if err := m.home(); err != nil {
			return err
		}
	}
	if err := m.r.Add(l); err != nil {
		m.broken = true
		return err
	}
	for _, c := range l {
		m.news[c.At] = c.What
	}
	return nil
}

func (m *model) sync() error {
	if m.broken {
		return api.ErrOff
	}
	err := m.d.Flush()
	m.broken = err != nil
	return err
}

// A run is a book at work beside its model, each on a disk of its own.
type run struct {
	t    *testing.T
	d, x *disk.Disk
	size int
	b    *pages.Book
	m    *model
}

// equal holds an error of the book against that of the model.
func (r *run) equal(got, want error) {
	r.t.Helper()
	is(r.t, got, woe.Number(want))
}

// looked holds all that can be seen of the book, but what is pending, against the model.
func (r *run) looked() {
	r.t.Helper()
	if r.d.Off() != r.x.Off() || r.d.Pending() != r.x.Pending() || !slices.Equal(kept(r.t, r.d), kept(r.t, r.x)) {
		r.t.Fatalf("the disks aren't alike: off are %v, %v, pending %d, %d", r.d.Off(), r.x.Off(), r.d.Pending(), r.x.Pending())
	}
	if r.b.Pages() != r.m.pages {
		r.t.Fatalf("there are %d pages, want %d", r.b.Pages(), r.m.pages)
	}
	for i := -1; i <= r.m.pages; i++ {
		p, err := r.b.Read(i)
		q, want := r.m.read(i)
		r.equal(err, want)
		if p != q {
			r.t.Fatalf("page %d is %v, want %v", i, p, q)
		}
	}
}

// mounted mounts both, with fuel for so many steps; without end, if that isn't enough. Where that is refused, the disks begin as zeros.
func (r *run) mounted(fuel int) {
	r.t.Helper()
	for {
		r.d.Fuel(fuel)
		r.x.Fuel(fuel)
		b, err := pages.Mount(r.d, r.size)
		m, want := modelled(r.x, r.size)
		r.equal(err, want)
		alike(r.t, r.d, r.x)
		if want == nil {
			r.b, r.m = b, m
			return
		}
		if woe.Number(want) == api.ErrForm {
			r.d, r.x = made(r.t, r.d.Size()), made(r.t, r.d.Size())
		}
		all := all(r.d.Pending())
		r.d, r.x, fuel = r.d.Crash(all), r.x.Crash(all), -1
	}
}

// fallen is the run behind a crash that keeps some of each ten writes.
func (r *run) fallen(next func(int) int) {
	r.t.Helper()
	share := next(12)
	pick := chosen(r.d.Pending(), func(int) bool { return next(10) < share })
	r.d, r.x = r.d.Crash(pick), r.x.Crash(pick)
	if next(4) == 0 {
		r.spoiled(next(2), next)
	}
	r.mounted(next(60) - 20)
}

// spoiled turns a bit of a sector.
func (r *run) spoiled(sector int, next func(int) int) {
	p, _ := r.d.Read(sector)
	p[next(api.Sector)] ^= 1 << next(8)
	r.equal(r.d.Write(sector, p), r.x.Write(sector, p)) // there may be no fuel left
}

// P6.1: by the words over long runs of all calls, with falls, fuel that ends, and spoiled sectors.
func TestRunsAgainstTheWords(t *testing.T) {
	for seed := range 150 {
		next := chance(seed)
		r := &run{t: t, size: 96 + next(30)}
		n := r.size + 3 + next(80)
		r.d, r.x = made(t, n), made(t, n)
		r.mounted(-1)
		for call := range 80 {
			r.call(call, next)
			r.looked()
			if call%16 == 0 {
				alike(t, r.d, r.x)
			}
			if t.Failed() {
				t.Fatalf("run %d, call %d", seed, call)
			}
		}
		alike(t, r.d, r.x)
	}
}

// call is one call, by chance.
func (r *run) call(n int, next func(int) int) {
	r.t.Helper()
	switch next(20) {
	case 0:
		r.b.Undo()
		clear(r.m.txn)
	case 1, 2:
		r.equal(r.b.Sync(), r.m.sync())
	case 3:
		r.fallen(next)
	case 4:
		fuel := next(90)
		r.d.Fuel(fuel)
		r.x.Fuel(fuel)
	case 5, 6, 7, 8, 9:
		r.equal(r.b.Commit(), r.m.commit())
	case 10:
		if !r.d.Off() {
			r.spoiled(next(r.d.Size()), next)
		}
	default:
		at, k := next(r.m.pages), 1+next(4)
		if next(3) == 0 {
			at, k = 0, next(70)
		}
		for i := range k {
			p := page(n + i*next(3))
			if next(4) == 0 {
				p, _ = r.m.read(at + i)
			}
			r.equal(r.b.Write(at+i, p), r.m.write(at+i, p))
		}
	}
}

// P6.2: the chapter's example, and the same without Sync.
func TestExample(t *testing.T) {
	d := made(t, 120)
	b := mounted(t, d, 96)
	change(t, b, []ring.Change{{At: 5, What: page(1)}, {At: 6, What: page(2)}})
	is(t, b.Commit(), api.OK)
	lost := d.Crash(nil)
	is(t, b.Sync(), api.OK)
	hasAll(t, mounted(t, d.Crash(nil), 96), of(22, ring.Change{At: 5, What: page(1)}, ring.Change{At: 6, What: page(2)}))
	hasAll(t, mounted(t, lost, 96), make([]disk.Page, 22))
}

// A history is a book at work, and what its transactions made, one by one.
type history struct {
	t      testing.TB
	d      *disk.Disk
	size   int
	b      *pages.Book
	states [][]disk.Page // all pages behind the first 0, 1, .. transactions; no two are the same
	least  int           // so many transactions may not be lost
}

// begun is a history on a new disk.
func begun(t testing.TB, size, n int) *history {
	t.Helper()
	h := &history{t: t, d: made(t, 2+size+n), size: size, states: [][]disk.Page{make([]disk.Page, n)}}
	h.b = mounted(t, h.d, size)
	return h
}

// commit changes pages in a transaction, and tells whether that was done. If it wasn't, a crash may keep it all the same: where its last writes weren't done, there may be those bytes already.
func (h *history) commit(l []ring.Change) bool {
	state := slices.Clone(h.states[len(h.states)-1])
	for _, c := range l {
		if h.b.Write(c.At, c.What) != nil {
			h.b.Undo()
			return false
		}
		state[c.At] = c.What
	}
	h.states = append(h.states, state)
	return h.b.Commit() == nil
}

// sync syncs, and tells whether that was done.
func (h *history) sync() bool {
	if h.b.Sync() != nil {
		return false
	}
	h.least = len(h.states) - 1
	return true
}

// found is how many first ones of the transactions a book has that was mounted behind a fall.
func (h *history) found(b *pages.Book) int {
	h.t.Helper()
	now := make([]disk.Page, b.Pages())
	for i := range now {
		p, err := b.Read(i)
		if err != nil {
			h.t.Fatal(err)
		}
		now[i] = p
	}
	k := slices.IndexFunc(h.states, func(s []disk.Page) bool { return slices.Equal(s, now) })
	if k < h.least {
		h.t.Fatalf("there is what %d first transactions made, of %d; %d may not be lost", k, len(h.states)-1, h.least)
	}
	return k
}

// fallen is a copy of the history behind a crash, mounted: what that didn't find is none of it any more.
func (h *history) fallen(pick []int) *history {
	h.t.Helper()
	x := *h
	x.d = h.d.Crash(pick)
	x.b = mounted(x.t, x.d, x.size)
	k := x.found(x.b)
	x.states, x.least = slices.Clone(x.states[:k+1]), k
	return &x
}

// picks are choices of so many writes: all of them, where they are few, or some of each kind.
func picks(pending int) [][]int {
	var l [][]int
	if pending <= 5 {
		for bits := range 1 << pending {
			l = append(l, chosen(pending, func(i int) bool { return bits>>i&1 == 1 }))
		}
		return l
	}
	for one := range pending {
		l = append(l, chosen(pending, func(i int) bool { return i != one }))
		if one%3 == 0 {
			l = append(l, chosen(pending, func(i int) bool { return i < one }), chosen(pending, func(i int) bool { return i > one }))
		}
	}
	next := chance(pending)
	for range 20 {
		share := next(8)
		l = append(l, chosen(pending, func(int) bool { return next(8) <= share }))
	}
	return append(l, nil, all(pending))
}

// P6.2: transactions of several sizes, some of them synced, that are brought home on their way: the disk off at each step, whatever a crash keeps: some first transactions, all those that were synced among them.
func TestFallsAtEachStep(t *testing.T) {
	sizes := []int{1, 3, 24, 1, 60, 2, 20, 50, 1, 1}
	for synced := range 3 { // none, or each third one, or each one
		for fuel := 0; ; fuel++ {
			if fuel > 1000 {
				t.Fatal("there is no end of steps")
			}
			h := begun(t, 96, 64)
			h.d.Fuel(fuel)
			ended := true
			for i, k := range sizes {
				if !h.commit(some(i, k, 100*i+fuel%2)) || synced > 0 && i%(5-2*synced) == 0 && !h.sync() {
					ended = false
					break
				}
			}
			for i, pick := range picks(h.d.Pending()) {
				if i%3 == synced || h.d.Pending() <= 5 {
					h.fallen(pick)
				}
			}
			if ended {
				break
			}
		}
	}
}

// P6.2: a fall in Mount, at each of its steps, whatever a crash keeps: the next Mount finds what that one found, and then all of it lasts.
func TestFallsInMount(t *testing.T) {
	for seed := range 12 {
		next := chance(seed)
		h := begun(t, 96, 40)
		for i := range 6 + next(6) {
			h.commit(some(next(20), 1+next(8), 1000*seed+100*i))
			if next(4) == 0 {
				h.sync()
			}
		}
		share := next(9)
		d := h.d.Crash(chosen(h.d.Pending(), func(int) bool { return next(8) < share }))
		k := h.found(mounted(t, d.Crash(nil), 96))
		h.states, h.least = h.states[:k+1], k
		for fuel := 0; ; fuel++ {
			x := d.Crash(nil)
			x.Fuel(fuel)
			b, err := pages.Mount(x, 96)
			for _, pick := range picks(x.Pending()) {
				y := x.Crash(pick)
				h.found(mounted(t, y, 96))
				h.found(mounted(t, y.Crash(nil), 96))
			}
			if err == nil {
				h.found(b)
				break
			}
			is(t, err, api.ErrOff)
		}
	}
}

// P6.2: a transaction that was lost doesn't come again, though those behind it lie in the ring whole, and the one ahead of it is done once more, byte for byte: in the same Mount's book, or behind several Mounts, whole ones and ones that fell.
func TestLostNeverComesAgain(t *testing.T) {
	const size, n = 96, 10
	txns := [][]ring.Change{some(0, 2, 1), some(1, 3, 20), some(0, 1, 40), some(5, 2, 60)}
	for lost := range txns { // the first one that a crash loses
		for mounts := range 5 {
			h := begun(t, size, n)
			h.commit(some(0, 10, 500))
			h.sync()
			for _, l := range txns {
				h.commit(l)
			}
			at := 0
			var pick []int
			for i, l := range txns {
				if i != lost {
					pick = append(pick, chosen(at+2+len(l), func(x int) bool { return x >= at })...)
				}
				at += 2 + len(l)
			}
			if h.d.Pending() != at {
				t.Fatalf("pending are %d writes, want %d", h.d.Pending(), at)
			}
			h = h.fallen(pick)
			if len(h.states) != 2+lost {
				t.Fatalf("there are %d transactions, want %d", len(h.states)-1, 1+lost)
			}
			for range mounts {
				f := h.d.Crash(nil)
				f.Fuel(2)
				_, err := pages.Mount(f, size)
				is(t, err, api.ErrOff)
				h.d = f
				h = h.fallen(nil)
			}
			again(h, txns[lost:])
		}
	}
}

// again does lost transactions once more, one by one, and falls behind each one.
func again(h *history, txns [][]ring.Change) {
	h.t.Helper()
	for i, l := range txns {
		h.commit(l)
		x := h.fallen(all(h.d.Pending()))
		if len(x.states) != len(h.states) {
			h.t.Fatalf("of %d transactions there are %d", len(h.states)-1, len(x.states)-1)
		}
		y := h.fallen(nil)
		if len(y.states) != len(h.states)-i-1 {
			h.t.Fatalf("of %d transactions that were synced there are %d", len(h.states)-i-2, len(y.states)-1)
		}
	}
}

// P6.2: what was lost doesn't come again either where the ring was gone around since.
func TestLostAroundTheRing(t *testing.T) {
	for seed := range 40 {
		next := chance(seed)
		h := begun(t, 96, 30)
		for i := range 60 {
			// The same transactions, again and again, but for a page that tells them apart.
			l := append(some(1+i%3, 1+i%5, 7), ring.Change{At: 0, What: page(100 + i)})
			h.commit(l)
			if i%7 == 3 {
				share := next(9)
				h = h.fallen(chosen(h.d.Pending(), func(int) bool { return next(8) < share }))
			}
		}
		h.sync()
		h.fallen(nil)
	}
}

// P6.2: over many falls, in Mount too: what was synced or found once stays, what wasn't found never comes.
func TestManyFalls(t *testing.T) {
	for seed := range 60 {
		next := chance(seed)
		h := begun(t, 96+next(30), 64)
		for call := range 120 {
			switch next(8) {
			case 0:
				if !h.sync() {
					h = h.fallen(nil)
				}
			case 1:
				h = fallenAgain(h, next)
			case 2:
				h.d.Fuel(next(100))
			case 3:
				h.b.Undo()
				h.b.Write(next(64), page(call)) // never committed
				h.b.Undo()
			default:
				l := append(some(1+next(3), 1+next(58), 100*call), ring.Change{At: 0, What: page(7 + 1000*seed + call)})
				if !h.commit(l[next(len(l)):]) {
					h = h.fallen(all(h.d.Pending()))
				}
			}
		}
		h.fallen(nil)
	}
}

// fallenAgain is a history behind a crash, and another one in its Mount.
func fallenAgain(h *history, next func(int) int) *history {
	h.t.Helper()
	share := next(9)
	some := func(int) bool { return next(8) < share }
	x := *h
	x.d = h.d.Crash(chosen(h.d.Pending(), some))
	x.d.Fuel(next(12))
	if b, err := pages.Mount(x.d, x.size); err == nil {
		k := x.found(b)
		x.states, x.least = x.states[:k+1], k
	}
	return x.fallen(chosen(x.d.Pending(), some))
}

// P6.2: a transaction under way, or one that was undone, is never found.
func TestNotCommitted(t *testing.T) {
	d := made(t, 120)
	b := mounted(t, d, 96)
	commit(t, b, some(0, 4, 1))
	change(t, b, some(2, 4, 100))
	is(t, b.Sync(), api.OK)
	hasAll(t, mounted(t, d.Crash(nil), 96), of(22, some(0, 4, 1)...))
	hasAll(t, mounted(t, d.Crash(all(d.Pending())), 96), of(22, some(0, 4, 1)...))
	under := slices.Concat(some(0, 4, 1), some(2, 4, 100))
	hasAll(t, b, of(22, under...))
	b.Undo()
	commit(t, b, some(20, 1, 7))
	is(t, b.Sync(), api.OK)
	hasAll(t, mounted(t, d.Crash(nil), 96), of(22, slices.Concat(some(0, 4, 1), some(20, 1, 7))...))
}
