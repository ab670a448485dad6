package ring_test

import (
	"bytes"
	"crypto/sha256"
	"encoding/binary"
	"errors"
	"math"
	"slices"
	"testing"

	"bulkhead/api"
	"bulkhead/disk"
	"bulkhead/ring"
	"bulkhead/woe"
)

// page is bytes that tell n, each byte another one.
func page(n int) disk.Page {
	var p disk.Page
	for i := range p {
		p[i] = byte(n*(2*i+1) + n>>8 + i)
	}
	return p
}

// last is a digest that tells n.
func last(n int) [32]byte {
	p := page(n)
	return [32]byte(p[:])
}

// some are k changes that tell n.
func some(k, n int) []ring.Change {
	l := make([]ring.Change, k)
	for i := range l {
		l[i] = ring.Change{At: n*61 + i*257, What: page(n + i*7)}
	}
	return l
}

// made is a new disk of so many sectors.
func made(t testing.TB, sectors int) *disk.Disk {
	t.Helper()
	d, err := disk.New(sectors)
	if err != nil {
		t.Fatal(err)
	}
	return d
}

// open is the ring from m on, and what stands there; that is to be done.
func open(t testing.TB, d *disk.Disk, first, n int, m ring.Mark) (*ring.Ring, [][]ring.Change) {
	t.Helper()
	r, l, err := ring.Open(d, first, n, m)
	if err != nil || r == nil {
		t.Fatalf("Open answers %v, %v", r, err)
	}
	return r, l
}

// add adds a record, which is to be done.
func add(t testing.TB, r *ring.Ring, l []ring.Change) {
	t.Helper()
	is(t, r.Add(l), api.OK)
}

// is holds an error against a number: that one is found, and no other one.
func is(t testing.TB, err error, want api.Errno) {
	t.Helper()
	if want == api.OK {
		if err != nil {
			t.Errorf("the error is %v, want none", err)
		}
		return
	}
	if err == nil || woe.Number(err) != want {
		t.Errorf("the error is %v, want %v", err, want)
	}
	for n := api.Errno(-1); n < 40; n++ {
		if errors.Is(err, n) != (n == want) {
			t.Errorf("the error is %v: it is taken for %v", err, n)
		}
	}
}

// same tells whether two lists of records have the same changes.
func same(a, b [][]ring.Change) bool {
	return slices.EqualFunc(a, b, func(x, y []ring.Change) bool { return slices.Equal(x, y) })
}

// at holds a ring's head and room against what they are to be.
func at(t testing.TB, r *ring.Ring, head ring.Mark, room int) {
	t.Helper()
	if r.Head() != head || r.Room() != room {
		t.Fatalf("the head is %v, the room %d; want %v, %d", r.Head(), r.Room(), head, room)
	}
}

// sectors are all those of a disk.
func sectors(t testing.TB, d *disk.Disk) []disk.Page {
	t.Helper()
	l := make([]disk.Page, d.Size())
	for i := range l {
		p, err := d.Read(i)
		if err != nil {
			t.Fatal(err)
		}
		l[i] = p
	}
	return l
}

// lay writes sectors from the head on, around, as they are.
func lay(t testing.TB, d *disk.Disk, first, n int, m ring.Mark, l []disk.Page) {
	t.Helper()
	for i, p := range l {
		is(t, d.Write(first+(m.Place+i)%n, p), api.OK)
	}
}

// told are a record's sectors, by the words: places, the sign, the number, the count and the changes are as told, whether a record may be so or not.
func told(last [32]byte, sign byte, number uint64, count int, l []ring.Change) []disk.Page {
	head := binary.LittleEndian.AppendUint64([]byte{sign}, number)
	head = append(head, byte(count))
	var body []byte
	for _, c := range l {
		body = binary.LittleEndian.AppendUint32(body, uint32(c.At))
	}
	for len(body)%api.Sector != 0 {
		body = append(body, 0)
	}
	for _, c := range l {
		body = append(body, c.What[:]...)
	}
	return sealed(last, head, nil, body)
}

// sealed are the sectors of that head, with its digest and that tail behind it, and of that body.
func sealed(last [32]byte, head, tail, body []byte) []disk.Page {
	d := sha256.Sum256(slices.Concat(last[:], head, body))
	begin := slices.Concat(head, d[:], tail)
	begin = append(begin, make([]byte, api.Sector-len(begin))...)
	var l []disk.Page
	for p := range slices.Chunk(append(begin, body...), api.Sector) {
		l = append(l, disk.Page(p))
	}
	return l
}

// record are the sectors of a record of l at m, by the words.
func record(m ring.Mark, l []ring.Change) []disk.Page {
	return told(m.Last, 'T', m.Number, len(l), l)
}

// behind is the mark behind a record that stands at m, in a ring of n places.
func behind(m ring.Mark, record []disk.Page, n int) ring.Mark {
	return ring.Mark{
		Place:  (m.Place + len(record)) % n,
		Number: m.Number + 1,
		Last:   [32]byte(record[0][10:42]),
	}
}

// read is what stands from m on, by the words: the records, the head behind them, and the room that is left.
func read(pages []disk.Page, first, n int, m ring.Mark) ([][]ring.Change, ring.Mark, int) {
	var rest []byte // the places from m on, around
	for i := range n {
		p := pages[first+(m.Place+i)%n]
		rest = append(rest, p[:]...)
	}
	var found [][]ring.Change
	for len(rest) > 0 && rest[0] == 'T' && binary.LittleEndian.Uint64(rest[1:]) == m.Number {
		k := int(rest[9])
		j := (k + 15) / 16
		end := (1 + j + k) * api.Sector
		if k < 1 || k > 60 || end > len(rest) {
			break
		}
		d := sha256.Sum256(slices.Concat(m.Last[:], rest[:10], rest[api.Sector:end]))
		if !bytes.Equal(d[:], rest[10:42]) {
			break
		}
		var l []ring.Change
		for i := range k {
			l = append(l, ring.Change{
				At:   int(binary.LittleEndian.Uint32(rest[api.Sector+4*i:])),
				What: disk.Page(rest[(1+j+i)*api.Sector:]),
			})
		}
		found = append(found, l)
		m = ring.Mark{Place: (m.Place + end/api.Sector) % n, Number: m.Number + 1, Last: d}
		rest = rest[end:]
	}
	return found, m, len(rest) / api.Sector
}

// chance answers numbers below its argument, the same ones for the same seed.
func chance(seed int) func(n int) int {
	x := uint64(seed)*2654435761 + 12345
	return func(n int) int {
		x ^= x << 13
		x ^= x >> 7
		x ^= x << 17
		return int(x>>8) % n
	}
}

// P5.1: Open answers a ring for all first sectors and sizes within the disk and their bounds, and all places in it.
func TestOpenBounds(t *testing.T) {
	for _, c := range []struct{ sectors, first, n, place int }{
		{96, 0, 96, 0},
		{96, 0, 96, 95},
		{97, 1, 96, 7},
		{200, 104, 96, 95},
		{200, 0, 200, 199},
		{4096, 0, 4096, 0},
		{4096, 0, 4096, 4095},
		{4096, 2, 4094, 4093},
		{4096, 4000, 96, 50},
	} {
		m := ring.Mark{Place: c.place, Number: 5, Last: [32]byte{6}}
		r, l := open(t, made(t, c.sectors), c.first, c.n, m)
		if len(l) != 0 {
			t.Errorf("%v: %d records stand on zeros", c, len(l))
		}
		at(t, r, m, c.n)
	}
}

// P5.1: ErrArg of Open, whatever else is right, with no ring and no records beside it.
func TestOpenWrongArguments(t *testing.T) {
	big := made(t, api.MaxSectors)
	d := made(t, 200)
	for _, c := range []struct {
		d               *disk.Disk
		first, n, place int
	}{
		{d, -1, 100, 0},
		{d, math.MinInt, 100, 0},
		{d, 0, 95, 0},
		{d, 0, 0, 0},
		{d, 0, -1, 0},
		{d, 0, -96, 0},
		{d, 0, math.MinInt, 0},
		{d, 0, 201, 0},
		{d, 1, 200, 0},
		{d, 101, 100, 0},
		{d, 104, 97, 0},
		{d, 200, 96, 0},
		{d, 1 << 32, 96, 0},
		{d, math.MaxInt, 96, 0},
		{d, math.MaxInt - 95, 96, 0},
		{d, math.MaxInt, 4096, 0},
		{d, 0, math.MaxInt, 0},
		{d, math.MaxInt, math.MaxInt, 0},
		{d, 0, 1<<32 + 100, 0},
		{d, 0, 100, -1},
		{d, 0, 100, 100},
		{d, 0, 100, math.MinInt},
		{d, 0, 100, math.MaxInt},
		{d, 0, 100, 1 << 32},
		{big, 0, api.MaxSectors + 1, 0},
		{big, 0, api.MaxSectors, api.MaxSectors},
		{big, 1, api.MaxSectors, 0},
		{big, 0, 95, 0},
		{made(t, 95), 0, 95, 0},
		{made(t, 95), 0, 96, 0},
		{made(t, 1), 0, 96, 0},
		{nil, 0, 96, 0},
		{nil, 0, 0, 0},
		{nil, -1, 5000, -1},
	} {
		r, l, err := ring.Open(c.d, c.first, c.n, ring.Mark{Place: c.place})
		is(t, err, api.ErrArg)
		if r != nil || len(l) != 0 {
			t.Errorf("first %d, n %d, place %d: Open answers %v, %v beside its error", c.first, c.n, c.place, r, l)
		}
	}
}

// P5.1: of a disk that is off: ErrOff, but behind ErrArg; with neither a ring nor the records that stand there.
func TestOpenOff(t *testing.T) {
	d := made(t, 100)
	r, _ := open(t, d, 0, 96, ring.Mark{})
	add(t, r, some(2, 1))
	d.Fuel(0)
	is(t, d.Flush(), api.ErrOff)
	r, l, err := ring.Open(d, 0, 96, ring.Mark{})
	is(t, err, api.ErrOff)
	if r != nil || len(l) != 0 {
		t.Errorf("Open answers %v, %v beside its error", r, l)
	}
	for _, c := range []struct{ first, n, place int }{{-1, 96, 0}, {5, 96, 0}, {0, 95, 0}, {0, 96, 96}, {0, 96, -1}} {
		_, _, err := ring.Open(d, c.first, c.n, ring.Mark{Place: c.place})
		is(t, err, api.ErrArg)
	}
}

// P5.1: the chapter's example, and the bytes of its three sectors.
func TestExample(t *testing.T) {
	d := made(t, 96)
	r, _ := open(t, d, 0, 96, ring.Mark{})
	add(t, r, []ring.Change{{At: 0x01020304, What: page(9)}})
	want := make([]disk.Page, 96)
	want[1] = disk.Page{4, 3, 2, 1}
	want[2] = page(9)
	sum := sha256.Sum256(slices.Concat(make([]byte, 32), []byte{'T', 0, 0, 0, 0, 0, 0, 0, 0, 1}, want[1][:], want[2][:]))
	want[0][0], want[0][9] = 'T', 1
	copy(want[0][10:], sum[:])
	if !slices.Equal(sectors(t, d), want) {
		t.Error("the sectors are others")
	}
	at(t, r, ring.Mark{Place: 3, Number: 1, Last: sum}, 93)
}

// P5.1: records of each size, at places of all kinds, lie as the words say, on the ring's sectors alone, and are written in order.
func TestAddBytes(t *testing.T) {
	const first, n = 3, 97
	for k := 1; k <= api.MaxTxn; k++ {
		for _, place := range []int{0, 1, 32, 33, 60, 95, 96} {
			d := made(t, first+n+2)
			for i := range d.Size() {
				is(t, d.Write(i, page(1000+i)), api.OK)
			}
			is(t, d.Flush(), api.OK)
			m := ring.Mark{Place: place, Number: 0x0102030405060708 * uint64(k), Last: last(k)}
			r, _ := open(t, d, first, n, m)
			l := some(k, place)
			add(t, r, l)
			rec := record(m, l)
			if len(rec) != 1+(k+15)/16+k || d.Pending() != len(rec) {
				t.Fatalf("k %d: pending are %d, want %d", k, d.Pending(), len(rec))
			}
			want := sectors(t, d.Crash(nil))
			for i, p := range rec {
				s := first + (place+i)%n
				if x, _ := d.Crash([]int{i}).Read(s); x != p {
					t.Fatalf("k %d, place %d: write %d isn't sector %d of the record", k, place, i, i)
				}
				want[s] = p
			}
			if !slices.Equal(sectors(t, d), want) {
				t.Fatalf("k %d, place %d: the sectors are others", k, place)
			}
			at(t, r, behind(m, rec, n), n-len(rec))
			x, found := open(t, d, first, n, m)
			if !same(found, [][]ring.Change{l}) {
				t.Fatalf("k %d, place %d: Open answers %v", k, place, found)
			}
			at(t, x, r.Head(), r.Room())
		}
	}
}

// P5.1: a record's digest is that of the mark's Last and of the one ahead: records behind each other, as Open finds them from each mark.
func TestRecordsBehindEachOther(t *testing.T) {
	const first, n = 1, 150
	d := made(t, 160)
	m := ring.Mark{Place: 100, Number: 1<<32 - 2, Last: [32]byte{1, 2, 3}}
	r, _ := open(t, d, first, n, m)
	marks, rooms := []ring.Mark{m}, []int{n}
	var all [][]ring.Change
	for i, k := range []int{1, 17, 16, 2, 33, 60} {
		l := some(k, i)
		rec := record(marks[i], l)
		add(t, r, l)
		all = append(all, l)
		marks = append(marks, behind(marks[i], rec, n))
		rooms = append(rooms, rooms[i]-len(rec))
		at(t, r, marks[i+1], rooms[i+1])
	}
	for i, m := range marks {
		x, found := open(t, d, first, n, m)
		if !same(found, all[i:]) {
			t.Errorf("from mark %d on there are %d records, want %d", i, len(found), len(all)-i)
		}
		at(t, x, marks[len(marks)-1], n-(rooms[i]-rooms[len(rooms)-1]))
	}
}

// P5.1: the number goes around behind its greatest one.
func TestNumberGoesAround(t *testing.T) {
	d := made(t, 96)
	m := ring.Mark{Number: math.MaxUint64 - 1}
	r, _ := open(t, d, 0, 96, m)
	for i := range 4 {
		add(t, r, some(1, i))
		if want := m.Number + uint64(i) + 1; r.Head().Number != want {
			t.Errorf("the number is %d, want %d", r.Head().Number, want)
		}
	}
	x, found := open(t, d, 0, 96, m)
	if len(found) != 4 || x.Head().Number != 2 {
		t.Errorf("there are %d records, the number is %d", len(found), x.Head().Number)
	}
}

// P5.1: page numbers are taken as their lowest four bytes, and told as what these say.
func TestPageNumbers(t *testing.T) {
	numbers := []struct{ at, want int }{
		{0, 0},
		{1, 1},
		{255, 255},
		{256, 256},
		{2047, 2047},
		{0x12345678, 0x12345678},
		{math.MaxInt32, math.MaxInt32},
		{1 << 31, 1 << 31},
		{math.MaxUint32, math.MaxUint32},
		{1 << 32, 0},
		{1<<32 + 5, 5},
		{1<<40 + 1<<31 + 9, 1<<31 + 9},
		{-1, math.MaxUint32},
		{-2, math.MaxUint32 - 1},
		{math.MinInt32, 1 << 31},
		{math.MinInt, 0},
		{math.MinInt + 3, 3},
		{math.MaxInt, math.MaxUint32},
	}
	d := made(t, 96)
	r, _ := open(t, d, 0, 96, ring.Mark{})
	var l, want []ring.Change
	for i, n := range numbers {
		l = append(l, ring.Change{At: n.at, What: page(i)})
		want = append(want, ring.Change{At: n.want, What: page(i)})
	}
	add(t, r, l)
	if got := sectors(t, d)[:len(l)+3]; !slices.Equal(got, record(ring.Mark{}, l)) {
		t.Error("the sectors are others")
	}
	if _, found := open(t, d, 0, 96, ring.Mark{}); !same(found, [][]ring.Change{want}) {
		t.Errorf("Open answers %v", found)
	}
}

// P5.1: the same page may be changed several times in a record, in the order that was told.
func TestSamePageTwice(t *testing.T) {
	d := made(t, 96)
	r, _ := open(t, d, 0, 96, ring.Mark{})
	l := []ring.Change{{At: 5, What: page(1)}, {At: 4, What: page(2)}, {At: 5, What: page(3)}, {At: 5, What: page(1)}}
	add(t, r, l)
	if _, found := open(t, d, 0, 96, ring.Mark{}); !same(found, [][]ring.Change{l}) {
		t.Errorf("Open answers %v", found)
	}
}

// P5.1: ErrLarge of Add, ahead of ErrSpace and of ErrOff; ErrSpace ahead of ErrOff. Nothing changes.
func TestAddErrors(t *testing.T) {
	d := made(t, 96)
	r, _ := open(t, d, 0, 96, ring.Mark{})
	add(t, r, some(60, 1))
	head, room, pages := r.Head(), r.Room(), sectors(t, d)
	try := func() {
		t.Helper()
		for _, k := range []int{0, 61, 62, 64, 256, 257, 1000} {
			is(t, r.Add(make([]ring.Change, k)), api.ErrLarge)
		}
		is(t, r.Add(nil), api.ErrLarge)
		for _, k := range []int{29, 30, 40, 60} {
			is(t, r.Add(some(k, 2)), api.ErrSpace)
		}
		at(t, r, head, room)
	}
	try()
	if d.Pending() != len(pages)-31 || !slices.Equal(sectors(t, d), pages) {
		t.Error("a record that isn't added was written")
	}
	d.Fuel(0)
	try()
	if d.Off() {
		t.Error("a record that isn't added takes a step")
	}
	is(t, r.Add(some(28, 2)), api.ErrOff)
	try()
	is(t, r.Add(some(1, 2)), api.ErrOff)
	at(t, r, head, room)
}

// P5.1: where a write isn't done, Add tells its error; those ahead of it are written, and the head is as it was.
func TestAddOff(t *testing.T) {
	for fuel := range 21 {
		d := made(t, 96)
		m := ring.Mark{Place: 90, Number: 7}
		r, _ := open(t, d, 0, 96, m)
		d.Fuel(fuel)
		l := some(18, 1) // 1 + 2 + 18 sectors
		is(t, r.Add(l), api.ErrOff)
		at(t, r, m, 96)
		if d.Pending() != fuel || !d.Off() || !r.Fits(60) {
			t.Errorf("fuel %d: pending are %d, off is %v", fuel, d.Pending(), d.Off())
		}
		is(t, r.Add(l), api.ErrOff)
		if d.Pending() != fuel {
			t.Errorf("fuel %d: pending are %d", fuel, d.Pending())
		}
		picks := make([]int, fuel)
		for i := range picks {
			picks[i] = i
		}
		x := d.Crash(picks)
		want := make([]disk.Page, 96)
		for i, p := range record(m, l)[:fuel] {
			want[(90+i)%96] = p
		}
		if !slices.Equal(sectors(t, x), want) {
			t.Errorf("fuel %d: the sectors are others", fuel)
		}
		if r, found := open(t, x, 0, 96, m); len(found) != 0 || r.Head() != m {
			t.Errorf("fuel %d: a part of a record stands", fuel)
		}
	}
	d := made(t, 96)
	r, _ := open(t, d, 0, 96, ring.Mark{})
	d.Fuel(21)
	add(t, r, some(18, 1))
	if d.Off() {
		t.Error("the record takes more steps than sectors")
	}
}

// P5.1: Fits and Room for each number of changes, in rings of each room.
func TestFits(t *testing.T) {
	for _, n := range []int{96, 97, 130, 4096} {
		d := made(t, n)
		r, _ := open(t, d, 0, n, ring.Mark{Place: n - 1})
		for room := n; ; room -= 3 {
			if r.Room() != room {
				t.Fatalf("the room is %d, want %d", r.Room(), room)
			}
			for k := -70; k <= 300; k++ {
				want := k >= 1 && k <= 60 && 1+(k+15)/16+k <= room
				if r.Fits(k) != want {
					t.Fatalf("room %d: Fits(%d) is %v", room, k, !want)
				}
			}
			for _, k := range []int{math.MinInt, math.MaxInt, math.MinInt + 1, math.MaxInt - 15, 1 << 32, 1<<32 + 1, -1 << 32} {
				if r.Fits(k) {
					t.Errorf("Fits(%d)", k)
				}
			}
			if room < 3 {
				is(t, r.Add(some(1, 0)), api.ErrSpace)
				break
			}
			add(t, r, some(1, room))
		}
	}
}

// P5.1: a ring can be filled to its last place; then there is no room, and Open finds just what was added.
func TestFullRing(t *testing.T) {
	d := made(t, 100)
	m := ring.Mark{Place: 40}
	r, _ := open(t, d, 2, 96, m)
	add(t, r, some(60, 1))
	if r.Room() != 31 || !r.Fits(28) || r.Fits(29) {
		t.Fatalf("the room is %d", r.Room())
	}
	add(t, r, some(28, 2))
	if r.Room() != 0 || r.Fits(1) || r.Head().Place != 40 {
		t.Errorf("the room is %d, the place %d", r.Room(), r.Head().Place)
	}
	is(t, r.Add(some(1, 3)), api.ErrSpace)
	x, found := open(t, d, 2, 96, m)
	if !same(found, [][]ring.Change{some(60, 1), some(28, 2)}) {
		t.Errorf("there are %d records", len(found))
	}
	at(t, x, r.Head(), 0)
	is(t, x.Add(some(1, 3)), api.ErrSpace)
}

// P5.1: behind Cut no place is taken, the head has the digest, its place and its number; records behind it go on from there.
func TestCut(t *testing.T) {
	d := made(t, 96)
	r, _ := open(t, d, 0, 96, ring.Mark{Number: 9})
	add(t, r, some(60, 1))
	last := [32]byte{5, 31: 6}
	pages := sectors(t, d)
	r.Cut(last)
	m := ring.Mark{Place: 65, Number: 10, Last: last}
	at(t, r, m, 96)
	if !r.Fits(60) || !slices.Equal(sectors(t, d), pages) || d.Pending() != 65 {
		t.Error("Cut wrote something")
	}
	add(t, r, some(60, 2))
	rec := record(m, some(60, 2))
	at(t, r, behind(m, rec, 96), 31)
	x, found := open(t, d, 0, 96, m)
	if !same(found, [][]ring.Change{some(60, 2)}) {
		t.Errorf("there are %d records", len(found))
	}
	at(t, x, r.Head(), 31)
	if _, found := open(t, d, 0, 96, ring.Mark{Number: 9}); len(found) != 0 {
		t.Error("a record stands that was written over")
	}
	x.Cut([32]byte{})
	at(t, x, ring.Mark{Place: 34, Number: 11}, 96)
	x.Cut(last)
	x.Cut(last)
	at(t, x, ring.Mark{Place: 34, Number: 11, Last: last}, 96)
}

// P5.1: records that stood ahead of a Cut don't stand behind it, though their numbers would follow.
func TestCutEndsTheOldRecords(t *testing.T) {
	d := made(t, 96)
	r, _ := open(t, d, 0, 96, ring.Mark{})
	add(t, r, some(1, 1))
	x, _ := open(t, d, 0, 96, r.Head())
	x.Cut([32]byte{1})
	add(t, r, some(1, 2)) // where the records behind the Cut begin
	if _, found := open(t, d, 0, 96, x.Head()); len(found) != 0 {
		t.Error("a record stands behind a digest that it wasn't added behind")
	}
	if _, found := open(t, d, 0, 96, ring.Mark{}); len(found) != 2 {
		t.Errorf("there are %d records", len(found))
	}
}

// P5.1: what stands at the head is no record, if one of its signs isn't right, though its digest be.
func TestNoRecord(t *testing.T) {
	const first, n = 2, 96
	m := ring.Mark{Place: 94, Number: 1<<40 + 3, Last: [32]byte{8}}
	other := m.Last
	other[31]++
	cases := map[string][]disk.Page{
		"zeros":                 make([]disk.Page, 3),
		"another sign":          told(m.Last, 'U', m.Number, 2, some(2, 1)),
		"a small sign":          told(m.Last, 't', m.Number, 2, some(2, 1)),
		"no sign":               told(m.Last, 0, m.Number, 2, some(2, 1)),
		"the next number":       told(m.Last, 'T', m.Number+1, 2, some(2, 1)),
		"the number ahead":      told(m.Last, 'T', m.Number-1, 2, some(2, 1)),
		"another highest byte":  told(m.Last, 'T', m.Number+1<<56, 2, some(2, 1)),
		"another half":          told(m.Last, 'T', m.Number&math.MaxUint32, 2, some(2, 1)),
		"no changes":            told(m.Last, 'T', m.Number, 0, nil),
		"61 changes":            told(m.Last, 'T', m.Number, 61, some(61, 1)),
		"64 changes":            told(m.Last, 'T', m.Number, 64, some(64, 1)),
		"89 changes":            told(m.Last, 'T', m.Number, 89, some(89, 1)),
		"another Last":          told(other, 'T', m.Number, 2, some(2, 1)),
		"no Last":               told([32]byte{}, 'T', m.Number, 2, some(2, 1)),
		"fewer than it says":    told(m.Last, 'T', m.Number, 3, some(2, 1)),
		"more than it says":     told(m.Last, 'T', m.Number, 1, some(2, 1)),
		"255 changes":           told(m.Last, 'T', m.Number, 255, some(2, 1)),
		"a digest of zeros":     slices.Concat([]disk.Page{{'T', 3, 9: 2}}, told(m.Last, 'T', m.Number, 2, some(2, 1))[1:]),
		"the digest of nothing": slices.Concat([]disk.Page{sealed(m.Last, nil, nil, nil)[0]}, told(m.Last, 'T', m.Number, 2, some(2, 1))[1:]),
	}
	for name, l := range cases {
		d := made(t, first+n)
		lay(t, d, first, n, m, l)
		r, found := open(t, d, first, n, m)
		if len(found) != 0 {
			t.Errorf("%s: %d records stand", name, len(found))
		}
		at(t, r, m, n)
		add(t, r, some(3, 4)) // over it
		if _, found := open(t, d, first, n, m); !same(found, [][]ring.Change{some(3, 4)}) {
			t.Errorf("%s: the record that was added over it isn't found", name)
		}
	}
}

// P5.1: a record stands, whatever is in its bytes that the words ask nothing of.
func TestRecordWithOtherBytes(t *testing.T) {
	m := ring.Mark{Place: 5, Number: 77, Last: [32]byte{8}}
	l := some(17, 1)
	rec := record(m, l)
	body := make([]byte, 0, 19*api.Sector)
	for _, p := range rec[1:] {
		body = append(body, p[:]...)
	}
	p := page(5)
	for i := 17 * 4; i < 2*api.Sector; i++ {
		body[i] = byte(i) // behind the page numbers
	}
	d := made(t, 96)
	odd := sealed(m.Last, rec[0][:10], p[42:], body)
	lay(t, d, 0, 96, m, odd)
	r, found := open(t, d, 0, 96, m)
	if !same(found, [][]ring.Change{l}) {
		t.Fatalf("Open answers %v", found)
	}
	at(t, r, behind(m, odd, 96), 96-20)
	add(t, r, some(1, 2))
	if _, found := open(t, d, 0, 96, m); len(found) != 2 {
		t.Errorf("there are %d records", len(found))
	}
}

// P5.1: each bit counts that the digest is of, and none of those behind the digest.
func TestEachBitCounts(t *testing.T) {
	d := made(t, 96)
	m := ring.Mark{Place: 94, Number: 300, Last: [32]byte{3}}
	r, _ := open(t, d, 0, 96, m)
	add(t, r, some(2, 1))
	pages := sectors(t, d)
	for i := range 4 {
		s := (94 + i) % 96
		for bit := range 8 * api.Sector {
			p := pages[s]
			p[bit/8] ^= 1 << (bit % 8)
			is(t, d.Write(s, p), api.OK)
			want := 0
			if i == 0 && bit/8 >= 42 {
				want = 1
			}
			if _, found := open(t, d, 0, 96, m); len(found) != want {
				t.Fatalf("sector %d of the record, bit %d turned: there are %d records", i, bit, len(found))
			}
		}
		is(t, d.Write(s, pages[s]), api.OK)
	}
	if _, found := open(t, d, 0, 96, m); len(found) != 1 {
		t.Error("no bit turned: there is no record")
	}
}

// P5.1: each bit of the mark's number and Last counts, and its place.
func TestEachBitOfTheMarkCounts(t *testing.T) {
	d := made(t, 96)
	m := ring.Mark{Place: 50, Number: 300, Last: [32]byte{3}}
	r, _ := open(t, d, 0, 96, m)
	add(t, r, some(2, 1))
	none := func(m ring.Mark) {
		t.Helper()
		r, found := open(t, d, 0, 96, m)
		if len(found) != 0 {
			t.Errorf("from %v on there are %d records", m, len(found))
		}
		at(t, r, m, 96)
	}
	for bit := range 64 {
		x := m
		x.Number ^= 1 << bit
		none(x)
	}
	for bit := range 256 {
		x := m
		x.Last[bit/8] ^= 1 << (bit % 8)
		none(x)
	}
	for place := range 96 {
		if x := m; place != m.Place {
			x.Place = place
			none(x)
		}
	}
}

// P5.1: a record doesn't stand that takes more places than are free, though its digest is right: here it has, as its last changes, the first sectors of the record that it reaches into.
func TestNoMorePlacesThanFree(t *testing.T) {
	const n = 96
	for over := range 3 {
		d := made(t, n)
		m := ring.Mark{Place: 10, Number: 4}
		r, _ := open(t, d, 0, n, m)
		whole := some(60, 1)
		add(t, r, whole)
		head, pages := r.Head(), sectors(t, d)
		l := some(28+over, 2)
		for i := range over {
			l[28+i].What = pages[m.Place+i]
		}
		lay(t, d, 0, n, head, record(head, l))
		want := [][]ring.Change{whole}
		if over == 0 {
			want = append(want, l)
		}
		x, found := open(t, d, 0, n, m)
		if !same(found, want) {
			t.Errorf("%d places over: there are %d records, want %d", over, len(found), len(want))
		}
		if over > 0 {
			at(t, x, head, 31)
			if _, found := open(t, d, 0, n, head); len(found) == 0 {
				t.Errorf("%d places over: it doesn't stand where all is free", over)
			}
		}
	}
}

// P5.1: records stand only one behind the other: behind one that doesn't stand there is none.
func TestNoneBehindABrokenOne(t *testing.T) {
	for broken := range 4 {
		d := made(t, 96)
		r, _ := open(t, d, 0, 96, ring.Mark{})
		var marks []ring.Mark
		for i := range 4 {
			marks = append(marks, r.Head())
			add(t, r, some(2, i))
		}
		is(t, d.Write(marks[broken].Place+2, page(99)), api.OK)
		x, found := open(t, d, 0, 96, ring.Mark{})
		if len(found) != broken {
			t.Errorf("record %d is broken: there are %d", broken, len(found))
		}
		at(t, x, marks[broken], 96-4*broken)
		if broken < 3 {
			if _, found := open(t, d, 0, 96, marks[broken+1]); len(found) != 3-broken {
				t.Errorf("behind the broken one there are %d", len(found))
			}
		}
	}
}

// P5.1: Open changes nothing: it writes nothing, and takes no step.
func TestOpenOnlyReads(t *testing.T) {
	d := made(t, 96)
	r, _ := open(t, d, 0, 96, ring.Mark{})
	add(t, r, some(20, 1))
	pages, pending := sectors(t, d), d.Pending()
	d.Fuel(0)
	for range 3 {
		if _, found := open(t, d, 0, 96, ring.Mark{}); len(found) != 1 {
			t.Errorf("there are %d records", len(found))
		}
	}
	r.Room()
	r.Fits(1)
	r.Head()
	r.Cut([32]byte{1})
	if d.Off() || d.Pending() != pending || !slices.Equal(sectors(t, d), pages) {
		t.Error("the disk is another one")
	}
}

// P5.1, rule 4: what is handed in isn't changed, nor the room behind it, and not kept.
func TestListsHandedIn(t *testing.T) {
	d := made(t, 96)
	r, _ := open(t, d, 0, 96, ring.Mark{})
	room := some(60, 1)
	l := room[:5]
	add(t, r, l)
	if !slices.Equal(room, some(60, 1)) {
		t.Error("the list is another one")
	}
	clear(room)
	_, found := open(t, d, 0, 96, ring.Mark{})
	if !same(found, [][]ring.Change{some(60, 1)[:5]}) {
		t.Error("the list was kept")
	}
}

// P5.1, rule 4: the lists that Open answers are new memory, and share none.
func TestListsAnswered(t *testing.T) {
	d := made(t, 96)
	r, _ := open(t, d, 0, 96, ring.Mark{})
	add(t, r, some(3, 1))
	add(t, r, some(3, 2))
	x, found := open(t, d, 0, 96, ring.Mark{})
	for _, c := range found[0][:cap(found[0])] {
		if c == (ring.Change{At: some(1, 2)[0].At, What: some(1, 2)[0].What}) {
			t.Error("behind a record's list there is the next one's")
		}
	}
	clear(found[0][:cap(found[0])])
	if !slices.Equal(found[1], some(3, 2)) {
		t.Error("two records' lists share their memory")
	}
	clear(found[1])
	at(t, x, r.Head(), r.Room())
	if _, found := open(t, d, 0, 96, ring.Mark{}); !same(found, [][]ring.Change{some(3, 1), some(3, 2)}) {
		t.Error("what was written to a list is in the next one")
	}
}

// P5.1: rings that lie beside each other on a disk are apart.
func TestTwoRings(t *testing.T) {
	d := made(t, 200)
	a, _ := open(t, d, 4, 96, ring.Mark{Place: 90})
	b, _ := open(t, d, 100, 100, ring.Mark{Place: 90})
	var as, bs [][]ring.Change
	for i := range 10 {
		x, y := some(1+i%4, i), some(1+i%3, 100+i)
		add(t, a, x)
		add(t, b, y)
		as, bs = append(as, x), append(bs, y)
	}
	if _, found := open(t, d, 4, 96, ring.Mark{Place: 90}); !same(found, as) {
		t.Errorf("in the first ring there are %d records", len(found))
	}
	if _, found := open(t, d, 100, 100, ring.Mark{Place: 90}); !same(found, bs) {
		t.Errorf("in the second ring there are %d records", len(found))
	}
}

// P5.1 and rule 7: of a nil *Ring: no room, nothing fits, ErrOff, a mark of zeros.
func TestNilRing(t *testing.T) {
	var r *ring.Ring
	r.Cut([32]byte{1})
	if r.Room() != 0 || r.Head() != (ring.Mark{}) {
		t.Errorf("the room is %d, the head %v", r.Room(), r.Head())
	}
	for _, k := range []int{math.MinInt, -1, 0, 1, 60, 61, math.MaxInt} {
		if r.Fits(k) {
			t.Errorf("Fits(%d)", k)
		}
	}
	for _, k := range []int{0, 1, 60, 61, 1000} {
		is(t, r.Add(make([]ring.Change, k)), api.ErrOff)
	}
	is(t, r.Add(nil), api.ErrOff)
}

// P0: a ring that Open didn't make, and a disk that New didn't make, don't panic either.
func TestRingOfNothing(t *testing.T) {
	r := &ring.Ring{}
	for _, k := range []int{0, 1, 60, 61} {
		r.Fits(k)
		r.Add(make([]ring.Change, k))
	}
	r.Room()
	r.Head()
	r.Cut([32]byte{1})
	r.Add(some(1, 1))
	for _, n := range []int{0, 96, 4096} {
		x, _, _ := ring.Open(&disk.Disk{}, 0, n, ring.Mark{})
		x.Add(some(1, 1))
	}
}

// run is a ring at work, and what it is to have by the words.
type run struct {
	t        *testing.T
	d        *disk.Disk
	r        *ring.Ring
	first, n int
	begin    ring.Mark // where the records begin that take places
	head     ring.Mark
	room     int
}

// opened opens the ring where it began, and holds what is found against the words.
func (x *run) opened() {
	x.t.Helper()
	r, found := open(x.t, x.d, x.first, x.n, x.begin)
	all, head, room := read(sectors(x.t, x.d), x.first, x.n, x.begin)
	if !same(found, all) {
		x.t.Fatalf("there are %d records, want %d", len(found), len(all))
	}
	x.r, x.head, x.room = r, head, room
}

// looked holds what stands from m on against the words, and leaves the ring at its work.
func (x *run) looked(m ring.Mark) {
	x.t.Helper()
	r, found := open(x.t, x.d, x.first, x.n, m)
	all, head, room := read(sectors(x.t, x.d), x.first, x.n, m)
	if !same(found, all) {
		x.t.Fatalf("from %v on there are %d records, want %d", m, len(found), len(all))
	}
	at(x.t, r, head, room)
}

// added adds a record of k changes, which may be too many.
func (x *run) added(k, n int) {
	x.t.Helper()
	l := some(k, n)
	rec := record(x.head, l)
	switch {
	case k < 1 || k > 60:
		is(x.t, x.r.Add(l), api.ErrLarge)
	case len(rec) > x.room:
		is(x.t, x.r.Add(l), api.ErrSpace)
	default:
		is(x.t, x.r.Add(l), api.OK)
		x.head, x.room = behind(x.head, rec, x.n), x.room-len(rec)
	}
}

// cut cuts the ring.
func (x *run) cut(last [32]byte) {
	x.r.Cut(last)
	x.head.Last = last
	x.begin, x.room = x.head, x.n
}

// spoiled turns bits of a byte of a sector.
func (x *run) spoiled(sector, place int, bits byte) {
	p, _ := x.d.Read(sector)
	p[place] ^= bits
	is(x.t, x.d.Write(sector, p), api.OK)
}

// fallen is the run on the disk that a crash leaves.
func (x *run) fallen(pick []int) {
	x.d = x.d.Crash(pick)
	x.opened()
}

// P5.1: by the words over long runs of all calls, with changed sectors, falls, and opening from other marks.
func TestRunsAgainstTheWords(t *testing.T) {
	for seed := range 200 {
		next := chance(seed)
		x := &run{t: t, first: next(4), n: 96 + next(40)}
		x.d = made(t, x.first+x.n+next(3))
		x.begin = ring.Mark{Place: next(x.n), Number: uint64(next(9)) - 5, Last: last(seed)}
		x.opened()
		for call := range 60 {
			switch next(16) {
			case 0:
				x.cut(last(call))
			case 1:
				x.spoiled(next(x.d.Size()), next(api.Sector), byte(1+next(255)))
			case 2:
				is(t, x.d.Flush(), api.OK)
			case 3:
				pick := make([]int, next(200))
				for i := range pick {
					pick[i] = next(x.d.Pending() + 1)
				}
				x.fallen(pick)
			case 4:
				x.opened()
			case 5:
				x.added(next(63), call)
			default:
				x.added(next(10), call)
			}
			at(t, x.r, x.head, x.room)
			x.looked(x.begin)
			x.looked(ring.Mark{Place: next(x.n), Number: x.begin.Number, Last: x.begin.Last})
			if t.Failed() {
				t.Fatalf("run %d, call %d", seed, call)
			}
		}
	}
}

// stale adds records from m's place on, of the same sizes and numbers as those to come, but behind another Last: as if they had been lost, and were there still. If other is 0, they have the same changes too.
func stale(t *testing.T, d *disk.Disk, first, n int, m ring.Mark, sizes []int, other int) {
	t.Helper()
	m.Last[31]++
	r, _ := open(t, d, first, n, m)
	for i, k := range sizes {
		add(t, r, some(k, i+other))
	}
	is(t, d.Flush(), api.OK)
}

// firstOnes holds what Open finds from m on against the records that were added: some first ones, at least so many.
func firstOnes(t *testing.T, d *disk.Disk, first, n int, m ring.Mark, all [][]ring.Change, least int) {
	t.Helper()
	r, found := open(t, d, first, n, m)
	if len(found) < least || len(found) > len(all) || !same(found, all[:min(len(found), len(all))]) {
		t.Fatalf("there are %d records, of %d that were added and %d that were flushed", len(found), len(all), least)
	}
	for _, l := range found {
		m = behind(m, record(m, l), n)
	}
	if r.Head() != m {
		t.Fatalf("the head is %v, want %v", r.Head(), m)
	}
}

// P5.2: short records, a flush behind some of them, the disk off at each step, whatever a crash keeps of the writes: some first records, each whole, all that were flushed among them.
func TestSomeFirstOnes(t *testing.T) {
	sizes := []int{1, 1, 2, 1} // 3 + 3 + 4 + 3 sectors
	const first, n = 1, 96
	m := ring.Mark{Place: 91, Number: 70000, Last: [32]byte{4}}
	for fuel := range 2 * 16 {
		for flushed := range len(sizes) + 1 { // so many are added ahead of the flush
			d := made(t, first+n)
			stale(t, d, first, n, m, sizes, fuel%2*500)
			r, _ := open(t, d, first, n, m)
			d.Fuel(fuel / 2)
			least := 0
			var all [][]ring.Change
			for i, k := range sizes {
				if i == flushed && d.Flush() == nil {
					least = i
				}
				l := some(k, i)
				all = append(all, l) // the last one may be there, though its Add told an error
				if r.Add(l) != nil {
					break
				}
			}
			if flushed == len(sizes) && d.Flush() == nil {
				least = flushed
			}
			for _, pick := range picks(d.Pending()) {
				firstOnes(t, d.Crash(pick), first, n, m, all, least)
			}
		}
	}
}

// picks are choices of so many writes: all of them, where they are few, or some of each kind.
func picks(pending int) [][]int {
	var l [][]int
	if pending <= 9 {
		for bits := range 1 << pending {
			l = append(l, chosen(pending, func(i int) bool { return bits>>i&1 == 1 }))
		}
		return l
	}
	for one := range pending {
		l = append(l,
			chosen(pending, func(i int) bool { return i < one }),
			chosen(pending, func(i int) bool { return i > one }),
			chosen(pending, func(i int) bool { return i == one }),
			chosen(pending, func(i int) bool { return i != one }))
	}
	next := chance(pending)
	for range 60 {
		l = append(l, chosen(pending, func(int) bool { return next(8) > 0 }))
	}
	return append(l, nil, chosen(pending, func(int) bool { return true }))
}

// chosen are the numbers below n that fit.
func chosen(n int, fits func(int) bool) []int {
	var l []int
	for i := range n {
		if fits(i) {
			l = append(l, i)
		}
	}
	return l
}

// P5.2: long records, at every place of the ring, over ones that were lost.
func TestSomeFirstOnesOfLongRecords(t *testing.T) {
	const first, n = 2, 96
	for place := range n {
		sizes := []int{17, 60, 1}
		d := made(t, first+n)
		m := ring.Mark{Place: place, Number: uint64(place) - 2, Last: [32]byte{4}}
		stale(t, d, first, n, m, sizes, place%2*500)
		r, _ := open(t, d, first, n, m)
		var all [][]ring.Change
		for i, k := range sizes {
			all = append(all, some(k, i))
			add(t, r, all[i])
			if i == place%3 {
				is(t, d.Flush(), api.OK)
			}
		}
		for _, pick := range picks(d.Pending()) {
			firstOnes(t, d.Crash(pick), first, n, m, all, place%3+1)
		}
	}
}

// P5.2: over many falls from one mark on: what was flushed once stays, and records that are added behind a fall go on from there.
func TestFallsFromOneMark(t *testing.T) {
	for seed := range 50 {
		next := chance(seed)
		const first, n = 0, 400
		d := made(t, n)
		m := ring.Mark{Place: next(n), Number: 1, Last: last(seed)}
		r, _ := open(t, d, first, n, m)
		var all [][]ring.Change
		least := 0
		for call := range 100 {
			switch next(6) {
			case 0:
				is(t, d.Flush(), api.OK)
				least = len(all)
			case 1:
				share := next(10)
				d = d.Crash(chosen(d.Pending(), func(int) bool { return next(10) < share }))
				firstOnes(t, d, first, n, m, all, least)
				var found [][]ring.Change
				r, found = open(t, d, first, n, m)
				all, least = all[:len(found)], len(found)
			default:
				l := some(1+next(8), 1000*seed+call)
				if r.Fits(len(l)) {
					add(t, r, l)
					all = append(all, l)
				}
			}
			firstOnes(t, d, first, n, m, all, len(all))
		}
	}
}
