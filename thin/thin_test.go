package thin_test

import (
	"bytes"
	"crypto/sha256"
	"encoding/binary"
	"math"
	"slices"
	"testing"

	"bulkhead/api"
	"bulkhead/disk"
	"bulkhead/pages"
	"bulkhead/pers"
	"bulkhead/thin"
)

// counted holds Count against numbers.
func counted(t testing.TB, v *thin.Volume, want ...int) {
	t.Helper()
	n, err := v.Count()
	is(t, err, api.OK)
	if !slices.Equal(n[:], want) {
		t.Fatalf("the numbers are %v, want %v", n, want)
	}
}

// P11.2: the chapter's example.
func TestExample(t *testing.T) {
	for _, write := range []func(r *run) bool{
		func(r *run) bool { return r.write(0, 2, some(7, 7, 7)...) },
		func(r *run) bool { return r.same(0, 2, 3, block(7)) },
		func(r *run) bool {
			return r.write(0, 2, block(7)) && r.write(0, 4, block(7)) && r.write(0, 3, block(7))
		},
	} {
		r := begun(t, config(2, 5, 5, 10, 3))
		counted(t, r.v, 0, 0, 8, 0, 0)
		if !write(r) {
			t.Fatal("it wasn't written")
		}
		counted(t, r.v, 1, 0, 7, 1, 2)
		r.unmap(0, 3, 2)
		counted(t, r.v, 1, 0, 7, 1, 2)
		r.unmap(0, 2, 1)
		counted(t, r.v, 0, 0, 8, 0, 0)
	}
}

// P11.1: Need is the sum of the words, of configs that aren't right too, however great.
func TestNeed(t *testing.T) {
	odd := []int{0, 1, 2, 3, 64, 65, 2048, -1, -7, 1 << 31, 1 << 40, math.MaxInt, math.MinInt}
	for _, boxes := range odd {
		for _, places := range odd {
			for _, nodes := range odd {
				c := api.Config{Sectors: 5, Ring: 7, Boxes: boxes, Prints: places, Nodes: nodes, Luns: []int{3}}
				if n := thin.Need(c); n != 6+5*boxes+places+nodes {
					t.Fatalf("Need of %v is %d", c, n)
				}
			}
		}
	}
	if n := thin.Need(api.Config{Boxes: 3, Prints: 20, Nodes: 10}); n != 51 {
		t.Fatalf("Need is %d", n)
	}
}

// right holds Right of a config against the words, and Mount too, where it isn't.
func right(t testing.TB, c api.Config, want bool) {
	t.Helper()
	if thin.Right(c) != want {
		t.Errorf("Right of %v is %v", c, !want)
	}
	if want {
		return
	}
	refused(t, nil, c, api.ErrArg)
	if k, err := disk.New(c.Sectors); err == nil {
		refused(t, k, c, api.ErrArg)
		for i := range k.Size() {
			if p, err := k.Read(i); p != block(0) || err != nil {
				t.Fatalf("something of %v was made", c)
			}
		}
	}
}

// roomy is a right config, all of whose numbers may be one more or one less, but for the least ones.
func roomy() api.Config {
	return api.Config{Sectors: 2000, Ring: 200, Boxes: 20, Prints: 300, Nodes: 60, Luns: []int{200, 30}}
}

// P11.1: Right is true just for numbers in range, of each number for itself.
func TestRightRanges(t *testing.T) {
	odd := []int{-1, -64, -1 << 31, 1 << 31, 1 << 32, 1<<32 + 64, 1 << 62, math.MinInt, math.MinInt + 1, math.MaxInt, math.MaxInt - 100}
	for _, x := range []struct {
		of          func(c *api.Config) *int
		least, most int // of roomy's other numbers
	}{
		{func(c *api.Config) *int { return &c.Sectors }, 668, 4096},
		{func(c *api.Config) *int { return &c.Ring }, 96, 1532},
		{func(c *api.Config) *int { return &c.Boxes }, 1, 64},
		{func(c *api.Config) *int { return &c.Prints }, 1, 1632},
		{func(c *api.Config) *int { return &c.Nodes }, 1, 1392},
		{func(c *api.Config) *int { return &c.Luns[0] }, 1, 256},
		{func(c *api.Config) *int { return &c.Luns[1] }, 1, 256},
	} {
		for _, n := range append(odd, 0, x.least-1, x.least, x.least+1, x.most-1, x.most, x.most+1) {
			c := roomy()
			*x.of(&c) = n
			right(t, c, n >= x.least && n <= x.most)
		}
	}
	right(t, api.Config{}, false)
}

// P11.1: Right is true of one to four units, of 1 to 256 blocks each.
func TestRightUnits(t *testing.T) {
	for n := range 7 {
		for _, blocks := range []int{1, 2, 255, 256} {
			c := roomy()
			c.Luns = slices.Repeat([]int{blocks}, n)
			right(t, c, n >= 1 && n <= 4)
			for i := range c.Luns {
				for _, bad := range []int{0, -1, 257, 1 << 32, math.MinInt, math.MaxInt} {
					wrong := c
					wrong.Luns = slices.Clone(c.Luns)
					wrong.Luns[i] = bad
					right(t, wrong, false)
				}
			}
		}
	}
}

// P11.1: Right is true just where the book has as many pages as are wanted, 2048 at most; and then there is a volume.
func TestRightPages(t *testing.T) {
	for _, c := range []api.Config{
		config(1, 1, 1, 1),
		config(64, 1, 1, 1, 1, 1, 1),
		config(3, 500, 7, 9),
		config(2, 9, 700, 256),
	} {
		for _, size := range []int{ring, 97, 300, 1000} {
			c.Ring = size
			c.Sectors = titles + size + pagesOf(c)
			right(t, c, true)
			begun(t, c)
			c.Sectors--
			right(t, c, false)
			c.Sectors += 2
			right(t, c, true)
		}
	}
	for _, c := range []api.Config{config(1, 2036, 1, 1), config(1, 1, 2036, 1), config(64, 1000, 722, 1)} {
		right(t, c, true)
		begun(t, c)
		c.Sectors = 4096
		right(t, c, true)
		c.Prints++
		right(t, c, false)
		c.Prints--
		c.Nodes++
		right(t, c, false)
		c.Nodes--
		c.Boxes++
		right(t, c, false)
	}
	// Numbers out of range count, also where the sum of all would fit.
	for _, c := range []api.Config{
		{Sectors: 4096, Ring: 96, Boxes: -100, Prints: 500, Nodes: 100, Luns: []int{1}},
		{Sectors: 4096, Ring: 96, Boxes: 1, Prints: 2049, Nodes: -400, Luns: []int{1}},
		{Sectors: 4096, Ring: 96, Boxes: 1, Prints: -400, Nodes: 1000, Luns: []int{1}},
		{Sectors: 4096, Ring: 96, Boxes: 1, Prints: math.MaxInt, Nodes: 8, Luns: []int{1}},
		{Sectors: 4096, Ring: 96, Boxes: math.MaxInt, Prints: 10, Nodes: 8, Luns: []int{1}},
		{Sectors: 4096, Ring: 96, Boxes: 1, Prints: math.MaxInt, Nodes: math.MaxInt, Luns: []int{1}},
		{Sectors: math.MinInt, Ring: 96, Boxes: 1, Prints: 1, Nodes: 1, Luns: []int{1}},
		{Sectors: 4096, Ring: math.MinInt, Boxes: 1, Prints: 1, Nodes: 1, Luns: []int{1}},
	} {
		right(t, c, false)
	}
}

// P11.1: Mount's errors, in their order: ErrArg of a config that isn't right, or of a disk that hasn't just its sectors; then those of layer 6.
func TestMountErrors(t *testing.T) {
	c := config(2, 5, 5, 10, 3)
	for _, sectors := range []int{1, c.Sectors - 1, c.Sectors + 1, 4096} {
		k, err := disk.New(sectors)
		is(t, err, api.OK)
		refused(t, k, c, api.ErrArg)
		k.Fuel(0)
		is(t, k.Flush(), api.ErrOff)
		refused(t, k, c, api.ErrArg)
	}
	refused(t, nil, c, api.ErrArg)
	k := made(t, c)
	k.Fuel(0)
	is(t, k.Flush(), api.ErrOff)
	refused(t, k, c, api.ErrOff)
	bad := c
	bad.Boxes = 0
	refused(t, k, bad, api.ErrArg)
}

// P11.1: ErrForm of layer 6, where the ring's title tells a place behind its end.
func TestMountForm(t *testing.T) {
	c := config(2, 5, 5, 10, 3)
	c.Ring, c.Sectors = 200, c.Sectors+104
	k := made(t, c)
	v := mounted(t, k, c)
	for i := range 20 {
		is(t, v.Write(0, 0, data(i+1)), api.OK)
	}
	is(t, v.Sync(), api.OK)
	mounted(t, k, c)
	c.Ring = 96
	refused(t, k, c, api.ErrForm)
}

// signOf is the sign of a config, word by word.
func signOf(c api.Config) disk.Page {
	var b []byte
	for _, n := range append([]int{c.Ring, c.Boxes, c.Prints, c.Nodes, len(c.Luns)}, c.Luns...) {
		b = binary.LittleEndian.AppendUint16(b, uint16(n))
	}
	d := sha256.Sum256(b)
	var p disk.Page
	copy(p[:], append([]byte("V"), d[:]...))
	return p
}

// P11.1: page 0 is the sign, byte by byte, once Mount has answered; it is synced.
func TestSign(t *testing.T) {
	great := config(64, 300, 257, 256, 256, 255, 1)
	great.Ring, great.Sectors = 1000, great.Sectors+904
	for _, c := range []api.Config{config(1, 1, 1, 1), config(3, 20, 10, 40, 20), config(2, 256, 300, 1, 2, 3), great} {
		k := made(t, c)
		mounted(t, k, c)
		for _, left := range []*disk.Disk{k, k.Crash(nil)} {
			l := lying(t, left, c).all(t)
			if l[0] != signOf(c) {
				t.Fatalf("on page 0 lies %v, want %v", l[0], signOf(c))
			}
			if i := slices.IndexFunc(l[1:], func(p disk.Page) bool { return p != block(0) }); i >= 0 {
				t.Fatalf("on page %d lies %v", i+1, l[i+1])
			}
		}
	}
}

// lay makes a page of a volume's book p.
func lay(t testing.TB, k *disk.Disk, c api.Config, at int, p disk.Page) {
	t.Helper()
	s := lying(t, k, c)
	is(t, s.done(s.book.Write(at, p)), api.OK)
	is(t, s.book.Sync(), api.OK)
}

// P11.1: ErrForm, where page 0 isn't the sign, be it another one by one bit; what lies there stays.
func TestMountOfAnotherSign(t *testing.T) {
	c := config(2, 5, 5, 10, 3)
	k := made(t, c)
	is(t, mounted(t, k, c).Write(0, 0, data(9)), api.OK)
	for bit := range 8 * api.Sector {
		p := signOf(c)
		p[bit/8] ^= 1 << (bit % 8)
		left := copied(k)
		lay(t, left, c, 0, p)
		refused(t, left, c, api.ErrForm)
		if lying(t, left, c).all(t)[0] != p {
			t.Fatal("page 0 has changed")
		}
		lay(t, left, c, 0, signOf(c))
		if b, err := mounted(t, left, c).Read(0, 0, 1); err != nil || !bytes.Equal(b, data(9)) {
			t.Fatal(b, err)
		}
	}
}

// P11.1: ErrForm of a volume of another config, whatever is another one in it.
func TestMountOfAnotherConfig(t *testing.T) {
	c := config(5, 50, 20, 10, 20, 30)
	c.Sectors = 500
	k := made(t, c)
	mounted(t, k, c)
	for _, change := range []func(c *api.Config){
		func(c *api.Config) { c.Boxes++ },
		func(c *api.Config) { c.Boxes-- },
		func(c *api.Config) { c.Prints++ },
		func(c *api.Config) { c.Nodes++ },
		func(c *api.Config) { c.Boxes, c.Prints = c.Boxes-1, c.Prints+5 },
		func(c *api.Config) { c.Prints, c.Nodes = c.Nodes, c.Prints },
		func(c *api.Config) { c.Luns = []int{10, 20} },
		func(c *api.Config) { c.Luns = []int{10, 20, 30, 1} },
		func(c *api.Config) { c.Luns = []int{10, 20, 31} },
		func(c *api.Config) { c.Luns = []int{11, 20, 30} },
		func(c *api.Config) { c.Luns = []int{20, 10, 30} },
		func(c *api.Config) { c.Luns = []int{10, 20, 256} },
	} {
		other := c
		change(&other)
		right(t, other, true)
		refused(t, k, other, api.ErrForm)
		refused(t, copied(k), other, api.ErrForm)
		mounted(t, k, c)
	}
}

// P11.1: how many sectors there are isn't in the sign: what lies on a disk is a volume on a greater one too.
func TestMountOnAGreaterDisk(t *testing.T) {
	c := config(2, 5, 5, 10, 3)
	k := made(t, c)
	v := mounted(t, k, c)
	is(t, v.Write(1, 1, data(4)), api.OK)
	is(t, v.Sync(), api.OK)
	greater := c
	greater.Sectors += 50
	g := made(t, greater)
	for i := range k.Size() {
		p, err := k.Read(i)
		is(t, err, api.OK)
		is(t, g.Write(i, p), api.OK)
	}
	if b, err := mounted(t, g, greater).Read(1, 0, 3); err != nil || !bytes.Equal(b, data(0, 4, 0)) {
		t.Fatal(b, err)
	}
}

// P11.1: where the sign lies already a Mount takes just the steps of layer 6's; where it doesn't, those of a commit and a flush more.
func TestMountSteps(t *testing.T) {
	c := config(2, 5, 5, 10, 3)
	for _, x := range []struct {
		k    *disk.Disk
		more int
	}{
		{made(t, c), 4}, // a record of one page takes three writes
		{func() *disk.Disk { k := made(t, c); mounted(t, k, c); return k.Crash(nil) }(), 0},
	} {
		steps := 0
		for ; ; steps++ {
			k := copied(x.k)
			k.Fuel(steps)
			if _, err := pages.Mount(k, c.Ring); err == nil {
				break
			}
		}
		for fuel := range steps + x.more {
			k := copied(x.k)
			k.Fuel(fuel)
			refused(t, k, c, api.ErrOff)
		}
		k := copied(x.k)
		k.Fuel(steps + x.more)
		tells(t, mounted(t, k, c), empty(c))
		if k.Pending() != 0 {
			t.Errorf("%d writes are pending", k.Pending())
		}
	}
}

// P11.1, rule 4: the units are those of the config that Mount was given, whatever becomes of its list; it isn't changed, the room behind it neither.
func TestUnits(t *testing.T) {
	l := []int{7, 256, 1, 9}
	c := config(1, 2, 6, l[:3]...)
	r := begun(t, c)
	if !slices.Equal(l, []int{7, 256, 1, 9}) {
		t.Fatalf("the list is %v", l)
	}
	l[0], l[1], l[2] = 3, 4, 5
	r.c.Luns = []int{7, 256, 1}
	r.looked()
	is(t, r.v.Write(0, 7, data(1)), api.ErrRange)
	if !r.write(0, 6, block(1)) || !r.write(1, 255, block(1)) || !r.write(2, 0, block(1)) {
		t.Fatal("it wasn't written")
	}
	for _, lun := range append(beyond(3), 4) {
		if n := r.v.Size(lun); n != 0 {
			t.Errorf("unit %d has %d blocks", lun, n)
		}
	}
	if again := mounted(t, copied(r.disk), r.c); again.Luns() != 3 || again.Size(1) != 256 {
		t.Errorf("there are %d units, the second one of %d blocks", again.Luns(), again.Size(1))
	}
}

// P11.1: a unit's blocks are zeros at first, and then what was written last, each by itself: for all units and blocks of the greatest volume.
func TestEveryBlock(t *testing.T) {
	c := config(64, 300, 68, 256, 256, 256, 256)
	k := made(t, c)
	v := mounted(t, k, c)
	x := empty(c)
	tells(t, v, x)
	counted(t, v, 0, 0, 256, 0, 0)
	for lun, l := range x.blocks {
		for lba := 0; lba < len(l); lba += 8 {
			for i := range 8 {
				l[lba+i] = block((7*(lba+i)+31*lun)%256 + 1)
			}
			is(t, v.Write(lun, lba, flat(l[lba:lba+8])), api.OK)
		}
	}
	tells(t, v, x)
	counted(t, v, 256, 0, 0, 256, 68)
	is(t, v.Sync(), api.OK)
	k = k.Crash(nil)
	v = mounted(t, k, c)
	tells(t, v, x)
	lies(t, lying(t, copied(k), c), x)
	for lun, l := range x.blocks {
		is(t, v.Write(lun, 100, data(300)), api.ErrSpace)
		for lba := len(l) - 1; lba >= 0; lba-- {
			is(t, v.Unmap(lun, lba, 1), api.OK)
			l[lba] = block(0)
			if lba%16 == 3 {
				b, err := v.Read(lun, max(lba-2, 0), 4)
				if err != nil || !bytes.Equal(b, flat(l[max(lba-2, 0):][:4])) {
					t.Fatal(lun, lba, b, err)
				}
			}
		}
		tells(t, v, x)
	}
	counted(t, v, 0, 0, 256, 0, 0)
}

// P11.1: Read answers just the n blocks from lba on, at each place and each n, in new memory.
func TestRead(t *testing.T) {
	c := config(8, 40, 10, 20, 11)
	r := begun(t, c)
	r.write(0, 3, from(1, 8)...)
	r.write(0, 12, from(20, 8)...)
	r.write(1, 0, from(5, 8)...)
	for lun, l := range r.is.blocks {
		for lba := range len(l) + 1 {
			for n := range min(8, len(l)-lba) + 1 {
				b, err := r.v.Read(lun, lba, n)
				is(t, err, api.OK)
				if !bytes.Equal(b, flat(l[lba:lba+n])) {
					t.Fatalf("%d blocks from %d on are %v", n, lba, b)
				}
				for i := range b {
					b[i] = 77
				}
				_ = append(b, 78)
			}
		}
	}
	r.looked()
}

// P11.1: Write changes just the blocks that it names, for each place and each number of them, and doesn't keep what it was handed.
func TestWrite(t *testing.T) {
	for lba := range 18 {
		for n := range min(8, 17-lba) + 1 {
			r := begun(t, config(9, 40, 10, 17, 17))
			r.write(0, 8, from(100, 8)...)
			b := append(flat(from(1, n)), data(50)...)
			was := slices.Clone(b)
			err := r.v.Write(0, lba, b[:64*n])
			if !bytes.Equal(b, was) {
				t.Fatal("what was handed in has changed")
			}
			clear(b)
			r.filled(0, lba, from(1, n), err)
		}
	}
}

// P11.1: Same is a Write of equal blocks, Unmap one of zeros, for each place and each number.
func TestSameAndUnmap(t *testing.T) {
	for lba := range 18 {
		for n := range min(8, 17-lba) + 1 {
			r := begun(t, config(9, 40, 10, 17, 17))
			r.write(0, 0, from(100, 8)...)
			r.write(0, 9, from(107, 8)...)
			r.same(0, lba, n, block(3))
			r.same(1, lba, n, block(107))
			r.unmap(0, max(lba-1, 0), n)
			r.same(1, max(lba-2, 0), n, block(0))
			if !r.write(0, lba, make([]disk.Page, n)...) {
				t.Fatal("it wasn't written")
			}
		}
	}
}

// P11.1: all bits of a block count: blocks that differ in one are unlike, one that isn't zeros by one bit too.
func TestAllBitsOfABlock(t *testing.T) {
	c := config(64, 260, 40, 256)
	k := made(t, c)
	v := mounted(t, k, c)
	x := empty(c)
	for part := range 4 {
		for bit := range 128 {
			for i, p := range some(0, 1) {
				at := bit + 128*part
				p[at/8] ^= 1 << (at % 8)
				is(t, v.Same(0, 2*bit+i, 1, p), api.OK)
				x.blocks[0][2*bit+i] = p
			}
		}
		tells(t, v, x)
		counted(t, v, 256, 0, 0, 256, 17)
		for lba := 0; lba < 256; lba += 8 {
			is(t, v.Unmap(0, lba, 8), api.OK)
		}
	}
}

// none holds calls of n blocks that aren't done against an error, by all calls that name blocks.
func none(t testing.TB, v *thin.Volume, lun, lba, n int, want api.Errno) {
	t.Helper()
	b, err := v.Read(lun, lba, n)
	is(t, err, want)
	if len(b) != 0 {
		t.Errorf("%d bytes are told beside an error", len(b))
	}
	is(t, v.Same(lun, lba, n, block(8)), want)
	is(t, v.Same(lun, lba, n, block(0)), want)
	is(t, v.Unmap(lun, lba, n), want)
	if n < 0 || n > 100 {
		return
	}
	for _, l := range [][]disk.Page{from(1, n), make([]disk.Page, n)} {
		is(t, v.Write(lun, lba, flat(l)), want)
		at, err := v.Compare(lun, lba, flat(l), flat(from(9, n)))
		is(t, err, want)
		if at != 0 {
			t.Errorf("%d is told beside an error", at)
		}
	}
}

// wrong holds all calls that name what there isn't, or is too much, against ErrArg and ErrRange.
func wrong(t testing.TB, v *thin.Volume, c api.Config) {
	t.Helper()
	odd := []int{math.MinInt, math.MinInt + 1, -1 << 32, math.MaxInt, math.MaxInt - 1, math.MaxInt - 7, math.MaxInt - 8, 1 << 32, 1<<32 + 1}
	for _, lun := range append(beyond(len(c.Luns)), 4) {
		for _, lba := range append(odd, -1, 0, 1, 256) {
			for _, n := range append(odd, -1, 0, 1, 8, 9, 13) {
				none(t, v, lun, lba, n, api.ErrArg)
			}
		}
	}
	for lun, size := range c.Luns {
		for _, n := range append(odd, -1, -2, -8, -64, 9, 10, 16, 64) {
			for _, lba := range append(odd, -1, 0, 1, size, size+1) {
				none(t, v, lun, lba, n, api.ErrArg)
			}
		}
		for n := range 9 {
			for _, lba := range append(odd, -1, -2, -n, -n-1, size-n+1, size-n+2, size+1, size+8, 256, 257, 4096) {
				if lba < 0 || lba > size-n {
					none(t, v, lun, lba, n, api.ErrRange)
				}
			}
		}
	}
}

// P11.1: ErrArg of units and numbers that there aren't, then ErrRange of places; nothing changes.
func TestWrongArguments(t *testing.T) {
	for _, c := range []api.Config{config(2, 5, 5, 10, 3), config(2, 9, 9, 256, 8, 16, 1), config(1, 1, 1, 1)} {
		r := begun(t, c)
		r.write(0, 0, block(1))
		wrong(t, r.v, c)
		r.looked()
	}
}

// P11.1: where n is 0, or there are no bytes, just the unit and the place are asked for; up to the last block's end, and nothing changes.
func TestNoBlocks(t *testing.T) {
	c := config(2, 5, 5, 10, 3)
	r := begun(t, c)
	r.write(0, 9, block(1))
	for lun, size := range c.Luns {
		for lba := range size + 1 {
			b, err := r.v.Read(lun, lba, 0)
			if len(b) != 0 || err != nil {
				t.Fatal(b, err)
			}
			r.write(lun, lba)
			is(t, r.v.Write(lun, lba, []byte{}), api.OK)
			r.same(lun, lba, 0, block(3))
			r.unmap(lun, lba, 0)
			if at, err := r.v.Compare(lun, lba, nil, []byte{}); at != 0 || err != nil {
				t.Fatal(at, err)
			}
		}
	}
	r.looked()
}

// P11.1: ErrArg of bytes that are no whole blocks, and of two lists that aren't equally many, ahead of ErrRange and ErrDiff; for each length.
func TestEachLength(t *testing.T) {
	r := begun(t, config(5, 20, 9, 10, 3))
	long := bytes.Repeat([]byte{0}, 700)
	for n := range 700 {
		whole := n%64 == 0 && n <= 512
		for _, lba := range []int{-1, 0, 1, 11, math.MinInt, math.MaxInt} {
			want := api.ErrArg
			if whole {
				want = api.ErrRange
			}
			if whole && lba >= 0 && lba <= 10-n/64 {
				want = api.OK
			}
			is(t, r.v.Write(0, lba, long[:n:n]), want)
			is(t, r.v.Write(0, lba, long[:n]), want)
			at, err := r.v.Compare(0, lba, long[:n], long[:n])
			is(t, err, want)
			if at != 0 {
				t.Fatalf("%d is told", at)
			}
			for _, m := range []int{0, 1, 63, 64, 65, 128, 512, 576, n - 1, n + 1, n - 64, n + 64} {
				if m < 0 || m > 700 || m == n {
					continue
				}
				at, err := r.v.Compare(0, lba, long[:n], bytes.Repeat([]byte{9}, m))
				is(t, err, api.ErrArg)
				at2, err := r.v.Compare(0, lba, bytes.Repeat([]byte{9}, m), long[:n])
				is(t, err, api.ErrArg)
				if at != 0 || at2 != 0 {
					t.Fatalf("%d and %d are told", at, at2)
				}
			}
		}
	}
	r.looked()
}

// P11.1: Compare tells the first place at which the bytes differ, for each byte of each number of blocks, and then changes nothing.
func TestCompareDiffers(t *testing.T) {
	r := begun(t, config(5, 20, 9, 10, 12))
	r.write(0, 1, from(1, 8)...)
	r.write(1, 4, from(3, 5)...)
	for lun, lba := range []int{1, 2} {
		for n := 1; n <= 8; n++ {
			there := flat(r.is.blocks[lun][lba : lba+n])
			for i := range there {
				for _, last := range []int{i, len(there) - 1} {
					expect := slices.Clone(there)
					expect[i]++
					if last != i {
						expect[last] -= 3
					}
					was := slices.Clone(expect)
					at, err := r.v.Compare(lun, lba, expect, flat(from(50, n)))
					is(t, err, api.ErrDiff)
					if at != i || !bytes.Equal(expect, was) {
						t.Fatalf("of %d blocks byte %d differs, %d is told", n, i, at)
					}
				}
			}
			r.looked()
		}
	}
}

// P11.1: Compare of what is there is a Write, for each place and each number of blocks.
func TestCompareAgrees(t *testing.T) {
	for n := range 9 {
		for lba := range 17 - n {
			r := begun(t, config(9, 40, 10, 17, 17))
			r.write(0, 4, from(100, 8)...)
			if !r.compare(0, lba, slices.Clone(r.is.blocks[0][lba:lba+n]), from(1, n)) {
				t.Fatal("it wasn't done")
			}
			// The same once more is refused now, but of no blocks.
			if r.compare(0, lba, make([]disk.Page, n), from(20, n)) != (n == 0) {
				t.Fatal("it was done")
			}
			r.compare(0, lba, from(1, n), make([]disk.Page, n))
			r.compare(1, lba, make([]disk.Page, n), from(5, n))
		}
	}
}

// P11.1: Compare tells Write's error, and 0, where the blocks are as expected and there is no room; ErrDiff, where they aren't.
func TestCompareWithoutRoom(t *testing.T) {
	r := begun(t, config(1, 9, 9, 9))
	r.write(0, 0, from(1, 4)...)
	at, err := r.v.Compare(0, 2, data(3, 4, 0), data(3, 4, 5))
	is(t, err, api.ErrSpace)
	if at != 0 {
		t.Fatalf("%d is told beside ErrSpace", at)
	}
	at, err = r.v.Compare(0, 2, data(3, 4, 5), data(3, 4, 5))
	is(t, err, api.ErrDiff)
	if at != 128 {
		t.Fatalf("%d is told, want 128", at)
	}
	r.looked()
}

// P11.2: a block is wanted ahead of leaving what was there: where no slot is free it isn't written, though one is dropped by it; what lies there already is.
func TestErrSpace(t *testing.T) {
	r := begun(t, config(2, 20, 9, 20))
	r.write(0, 0, from(1, 8)...)
	for lba := range 8 {
		if r.write(0, lba, block(9)) {
			t.Fatal("it was written")
		}
		is(t, r.v.Same(0, lba, 1, block(9)), api.ErrSpace)
	}
	counted(t, r.v, 8, 0, 0, 8, 2)
	if !r.write(0, 3, block(1)) { // 4 is nowhere now
		t.Fatal("it wasn't written")
	}
	counted(t, r.v, 7, 1, 0, 7, 2)
	// A dead slot isn't free.
	is(t, r.v.Write(0, 19, data(9)), api.ErrSpace)
	r.looked()
}

// P11.2: where no place is free: ErrIndex, ahead of ErrSpace, and of ErrNodes; what lies there already is written.
func TestErrIndex(t *testing.T) {
	r := begun(t, config(4, 4, 9, 20))
	r.write(0, 0, from(1, 4)...)
	for lba := range 20 {
		is(t, r.v.Write(0, lba, data(9)), api.ErrIndex)
	}
	if !r.write(0, 10, some(4, 3, 2, 1)...) {
		t.Fatal("it wasn't written")
	}
	// Neither a slot, nor a place, nor a node is free.
	r = begun(t, config(1, 4, 2, 40))
	r.write(0, 0, from(1, 4)...)
	is(t, r.v.Write(0, 30, data(9)), api.ErrIndex)
	// No slot and no node.
	r = begun(t, config(1, 5, 2, 40))
	r.write(0, 0, from(1, 4)...)
	is(t, r.v.Write(0, 30, data(9)), api.ErrSpace)
	is(t, r.v.Write(0, 30, data(1)), api.ErrNodes)
	r.looked()
}

// P11.1: where no node is free: ErrNodes; blocks of a sixteen that has one are written.
func TestErrNodes(t *testing.T) {
	r := begun(t, config(9, 30, 3, 40, 40))
	r.write(0, 15, some(1, 2)...)
	for _, x := range [][2]int{{0, 32}, {0, 39}, {1, 0}, {1, 16}} {
		for _, n := range []int{1, 9} {
			is(t, r.v.Write(x[0], x[1], data(n)), api.ErrNodes)
		}
		r.unmap(x[0], x[1], 1)
	}
	if !r.write(0, 24, from(3, 8)...) || r.write(0, 25, from(20, 8)...) {
		t.Fatal("it was, or wasn't, written")
	}
	// Of a sixteen that has nothing any more the node is free, but it is one.
	r.unmap(0, 16, 8)
	r.unmap(0, 24, 8)
	if r.write(0, 31, some(4, 5)...) || !r.write(0, 32, some(6)...) {
		t.Fatal("it was, or wasn't, written")
	}
}

// P11.1: blocks are put in order: what an earlier one of a call leaves makes room for a later one, and not the other way round.
func TestInOrder(t *testing.T) {
	// All four slots of the one container: 1, and three dead ones.
	r := begun(t, config(1, 9, 9, 20))
	r.write(0, 0, from(1, 4)...)
	r.unmap(0, 1, 3)
	counted(t, r.v, 1, 3, 0, 1, 2)
	if r.write(0, 8, some(9)...) || !r.write(0, 0, some(0, 9)...) {
		t.Fatal("it was, or wasn't, written")
	}
	counted(t, r.v, 1, 0, 3, 1, 2)
	r.write(0, 2, from(10, 3)...)
	r.unmap(0, 2, 3)
	counted(t, r.v, 1, 3, 0, 1, 2)
	if r.write(0, 0, some(11, 0)...) {
		t.Fatal("it was written")
	}
	// One node for the unit, and one for a sixteen.
	r = begun(t, config(2, 9, 2, 40))
	r.write(0, 15, block(1))
	if !r.write(0, 15, some(0, 2)...) || r.write(0, 15, some(3, 0)...) {
		t.Fatal("it was, or wasn't, written")
	}
}

// P11.1: with an error nothing changes, wherever in a call there is no room any more.
func TestAllOrNone(t *testing.T) {
	for room := range 8 {
		c := config(2, 20, 9, 40)
		r := begun(t, c)
		r.write(0, 0, from(1, 8-room)...)
		before := r.disk.Pending()
		for lba := 8; lba < 32; lba++ {
			// One of the new blocks has no room: the last one of all, or the first one that can have none.
			old, more := from(1, 7-room), from(100, room+1)
			for _, l := range [][]disk.Page{slices.Concat(old, more), slices.Concat(more, old)} {
				is(t, r.v.Write(0, lba, flat(l)), api.ErrSpace)
				at, err := r.v.Compare(0, lba, make([]byte, 512), flat(l))
				is(t, err, api.ErrSpace)
				if at != 0 {
					t.Fatalf("%d is told beside an error", at)
				}
			}
		}
		if r.disk.Pending() != before {
			t.Fatal("something was written")
		}
		r.looked()
		if !r.write(0, 10, from(100, room)...) {
			t.Fatal("it wasn't written")
		}
	}
}

// P11.2: equal blocks lie once, whoever wrote them and wherever, till one is wanted more than 15 times; then once for each 15.
func TestMaxRefs(t *testing.T) {
	r := begun(t, config(4, 12, 20, 50, 50))
	for n := 1; n <= 90; n++ {
		if !r.write(n%2, n/2, block(5)) {
			t.Fatal("it wasn't written")
		}
		k, err := r.v.Count()
		is(t, err, api.OK)
		if k[0] != (n+14)/15 || k[3] != (n+14)/15 {
			t.Fatalf("of %d blocks %d lie there, by %d entries", n, k[0], k[3])
		}
	}
	// What is left of an entry can be wanted once more.
	for lba := range 50 {
		r.unmap(0, lba, 1)
		r.write(0, lba, block(5))
	}
	for lba := range 50 {
		r.unmap(0, lba, 1)
		r.unmap(1, lba, 1)
	}
	counted(t, r.v, 0, 0, 16, 0, 0)
}

// P11.2: a block that is written over itself is wanted ahead of being left: nothing changes, but where it is wanted 15 times: then it lies twice.
func TestOverItself(t *testing.T) {
	r := begun(t, config(2, 9, 9, 20))
	r.write(0, 0, block(6))
	for n := 1; n < 15; n++ {
		r.write(0, n-1, block(6))
		counted(t, r.v, 1, 0, 7, 1, 2)
		r.write(0, n, block(6))
		counted(t, r.v, 1, 0, 7, 1, 2)
	}
	r.write(0, 7, block(6))
	counted(t, r.v, 2, 0, 6, 2, 2)
	// Where there is no room for that, it is refused.
	r = begun(t, config(1, 9, 9, 20))
	r.write(0, 15, from(1, 3)...)
	r.same(0, 0, 8, block(6))
	r.same(0, 8, 6, block(6))
	if !r.write(0, 3, block(6)) || !r.write(0, 14, block(6)) || r.write(0, 3, block(6)) {
		t.Fatal("it was, or wasn't, written")
	}
	counted(t, r.v, 4, 0, 0, 4, 3)
}

// P11.2: a block is wanted by an entry of its digest only if that entry's slot has this very block.
func TestEqualDigests(t *testing.T) {
	c := config(2, 9, 9, 20)
	k := made(t, c)
	v := mounted(t, k, c)
	is(t, v.Write(0, 0, data(1)), api.OK)
	is(t, v.Sync(), api.OK)
	// The entry of block 1 has the digest of block 2, as if both had one.
	k = k.Crash(nil)
	s := lying(t, k, c)
	l, err := s.table.All()
	is(t, err, api.OK)
	e, err := s.table.Get(l[0])
	is(t, err, api.OK)
	two := block(2)
	e.Digest = sha256.Sum256(two[:])
	is(t, s.done(s.table.Set(l[0], e)), api.OK)
	is(t, s.book.Sync(), api.OK)
	v = mounted(t, k, c)
	is(t, v.Write(0, 1, data(2)), api.OK)
	b, err := v.Read(0, 0, 2)
	is(t, err, api.OK)
	if !bytes.Equal(b, data(1, 2)) {
		t.Fatalf("the blocks are %v", b)
	}
	counted(t, v, 2, 0, 6, 2, 2)
	e, err = lying(t, copied(k), c).table.Get(l[0])
	if e.Refs != 1 || err != nil {
		t.Fatalf("the entry of block 1 is %v, %v", e, err)
	}
}

// P11.2: each write of one block to a place, at all states of few blocks, with room and without.
func TestAllStates(t *testing.T) {
	for _, c := range []api.Config{config(1, 4, 6, 3), config(1, 2, 6, 2, 1), config(2, 9, 6, 1, 1, 1), config(1, 3, 2, 3)} {
		// Where the three blocks of the state lie.
		var places [][2]int
		for lun, size := range c.Luns {
			for lba := range size {
				places = append(places, [2]int{lun, lba})
			}
		}
		for state := range 27 {
			for _, at := range places {
				for _, p := range some(0, 1, 2, 3) {
					r := begun(t, c)
					for i, x := 0, state; i < 3; i, x = i+1, x/3 {
						r.write(places[i][0], places[i][1], block(x%3))
					}
					r.write(at[0], at[1], p)
				}
			}
		}
	}
}

// P11.1: no transaction has too many pages: eight unlike blocks of two sixteens over eight others, each of a container of its own, make one of 46 at most; a container with three live slots can be cleaned.
func TestErrLargeNeverComes(t *testing.T) {
	for _, fresh := range [][]disk.Page{from(400, 8), some(400, 0, 401, 0, 402, 0, 403, 0), make([]disk.Page, 8)} {
		r := begun(t, config(20, 100, 20, 100))
		// Of each container one block is left, and three stay.
		for i := range 8 {
			r.write(0, 12+i, block(100+i))
			r.write(0, 40+3*i, from(200+10*i, 3)...)
		}
		r.again()
		if !r.write(0, 12, fresh...) {
			t.Fatal("it wasn't written")
		}
		// Of a block its slot are two pages, its entry one, what it leaves two; two sixteens are six. A record of 46 pages takes four sectors more.
		if n := r.disk.Pending(); n > 46+4 {
			t.Fatalf("%d sectors were written", n)
		}
		counted(t, r.v, r.is.unlike(), 8, 80-8-r.is.unlike(), r.is.unlike(), r.is.nodes())
		for r.clean() > 0 {
		}
		counted(t, r.v, r.is.unlike(), 0, 80-r.is.unlike(), r.is.unlike(), r.is.nodes())
	}
}

// call is one of all calls of a volume.
func (r *run) call(blocks int, next func(n int) int) {
	r.t.Helper()
	lun := next(len(r.c.Luns))
	size := r.c.Luns[lun]
	n := min(next(9), size)
	lba := next(size - n + 1)
	var l []disk.Page
	for range n {
		l = append(l, block(next(blocks)))
	}
	switch next(16) {
	case 0:
		r.same(lun, lba, n, block(next(blocks)))
	case 1, 2:
		r.unmap(lun, lba, n)
	case 3:
		r.compare(lun, lba, slices.Clone(r.is.blocks[lun][lba:lba+n]), l)
	case 4:
		r.compare(lun, lba, l, from(1, n))
	case 5, 6:
		r.clean()
	case 7:
		r.keep(lun, table(next(9), every(next(7))...))
	case 8:
		r.keep(lun, forgotten(table(next(9), every(next(7))...)))
	case 9:
		r.again()
	case 10, 11, 12:
		r.write(lun, lba, l[:min(n, 1)]...)
	default:
		r.write(lun, lba, l...)
	}
}

// P11.1, P11.2, P11.3: by the words over long runs of all calls, with much room and little of each kind, and volumes that are mounted again.
func TestRunsAgainstTheWords(t *testing.T) {
	for i, x := range []struct {
		c      api.Config
		blocks int // how many unlike ones are written
	}{
		{config(8, 40, 20, 40, 20), 25},
		{config(1, 9, 9, 16, 5), 9},
		{config(2, 20, 20, 33), 14},
		{config(6, 3, 20, 20, 20), 7},
		{config(6, 30, 3, 40, 33, 1, 17), 12},
		{config(4, 20, 12, 64, 64), 3},
		{config(3, 9, 12, 64, 64), 5},
		{config(16, 80, 68, 256, 256, 256, 256), 70},
		{config(1, 1, 1, 1), 3},
		{config(3, 12, 4, 8, 7, 6, 5), 16},
	} {
		for seed := range 3 {
			next := chance(10*i + seed)
			r := begun(t, x.c)
			for c := range 250 {
				r.call(x.blocks, next)
				if t.Failed() {
					t.Fatalf("config %v, seed %d, call %d", x.c, seed, c)
				}
			}
		}
	}
}

// P11.3: Clean does nothing, where no slot is dead.
func TestCleanOfNothing(t *testing.T) {
	r := begun(t, config(2, 9, 9, 20))
	for i := range 8 {
		if r.clean() != 0 {
			t.Fatal("something became free")
		}
		r.write(0, i, block(i+1))
	}
	if r.clean() != 0 {
		t.Fatal("something became free")
	}
	counted(t, r.v, 8, 0, 0, 8, 2)
}

// P11.3: of two containers, one full and one with some, some of the first one's blocks are dropped: the rest is moved, if the other one has room, and else nothing changes.
func TestClean(t *testing.T) {
	for in := range 5 { // blocks of the second container
		for bits := range 15 { // the blocks of the first one that are dropped, not all
			r := begun(t, config(2, 9, 9, 20))
			r.write(0, 0, from(1, 4)...)
			r.write(0, 10, from(11, in)...)
			dead := 0
			for i := range 4 {
				if bits>>i&1 == 1 {
					r.unmap(0, i, 1)
					dead++
				}
			}
			live := 4 - dead
			counted(t, r.v, live+in, dead, 4-in, live+in, r.is.nodes())
			want := 0
			if live <= 4-in {
				want = dead
			}
			before := lying(t, copied(r.disk), r.c).all(t)
			if n := r.clean(); n != want {
				t.Fatalf("%d became free, want %d", n, want)
			}
			counted(t, r.v, live+in, dead-want, 4-in+want, live+in, r.is.nodes())
			if want == 0 && !slices.Equal(lying(t, copied(r.disk), r.c).all(t), before) {
				t.Fatal("something has changed")
			}
			// What was moved is found there, and left there.
			r.same(0, 14, 1, block(1))
			r.write(0, 16, from(1, 4)...)
			r.unmap(0, 0, 8)
		}
	}
}

// P11.3: one container at a time is emptied, that with most dead slots; what is wanted often stays so.
func TestCleanByTurns(t *testing.T) {
	r := begun(t, config(6, 40, 20, 60))
	r.write(0, 0, from(1, 8)...)
	r.write(0, 8, from(9, 8)...)
	r.same(0, 20, 8, block(4))
	r.same(0, 30, 3, block(10))
	r.same(0, 33, 5, block(11))
	// Of the containers 1, 3, 2 and 0 slots are dead.
	r.unmap(0, 0, 1)
	r.unmap(0, 4, 3)
	r.unmap(0, 8, 1)
	r.unmap(0, 11, 1)
	counted(t, r.v, 10, 6, 8, 10, r.is.nodes())
	for i, want := range []int{3, 2, 1, 0, 0} {
		if n := r.clean(); n != want {
			t.Fatalf("%d: %d became free, want %d", i, n, want)
		}
	}
	counted(t, r.v, 10, 0, 14, 10, r.is.nodes())
}

// P11.3: whatever was written, Clean by turns ends with no slot dead, or with no room; no block changes.
func TestCleanToTheEnd(t *testing.T) {
	for seed := range 30 {
		next := chance(seed)
		r := begun(t, config(2+next(6), 60, 40, 50))
		for range 30 {
			lba := next(43)
			var l []disk.Page
			for range 1 + next(8) {
				l = append(l, block(next(30)))
			}
			r.write(0, lba, l...)
		}
		for r.clean() > 0 {
		}
		n, err := r.v.Count()
		is(t, err, api.OK)
		// Where others have no room for what is live beside a dead slot two are free at most.
		if n[1] > 0 && n[2] > 2 {
			t.Fatalf("the numbers are %v", n)
		}
	}
}

// P11.1: of each unit the table that was kept last is told, with Aptpl, None where none was, or where it isn't to last; no block changes.
func TestKeep(t *testing.T) {
	r := begun(t, config(2, 9, 9, 20, 20, 1))
	r.write(0, 0, from(1, 3)...)
	for lun := range 3 {
		for _, x := range []api.Table{
			table(0), table(7), table(1, 3), table(1<<32-1, 0, 1, 2, 3, 4, 7),
			{Holder: 6, Type: pers.WriteExclusive, Keys: []api.Registrant{{Nexus: 6, Key: 1<<64 - 1}}, Aptpl: true},
		} {
			r.keep(lun, x)
			r.again()
			r.keep(lun, x)
			r.keep((lun+1)%3, table(lun, lun))
			r.keep(lun, forgotten(x))
			r.again()
			r.keep(lun, forgotten(x))
		}
		r.keep(lun, table(1000+lun, lun, lun+1))
	}
	r.again()
}

// P11.1, rule 4: the list of a table that Keep was handed is neither changed nor kept, that of one that Kept answers is new.
func TestKeptLists(t *testing.T) {
	r := begun(t, config(2, 9, 9, 20))
	x := table(5, 1, 2, 3)
	handed := x
	handed.Keys = append(make([]api.Registrant, 0, 8), x.Keys...)
	r.keep(0, handed)
	if !slices.Equal(handed.Keys, x.Keys) || handed.Keys[:4][3] != (api.Registrant{}) {
		t.Fatalf("the table is %v", handed)
	}
	clear(handed.Keys)
	r.is.kept[0] = x
	r.looked()
	for range 3 {
		got, err := r.v.Kept(0)
		is(t, err, api.OK)
		clear(got.Keys)
		_ = append(got.Keys, api.Registrant{Nexus: 7, Key: 9})
		r.looked()
	}
}

// P11.1: ErrArg of Keep and Kept, where there is no such unit, or the table can't be; nothing changes.
func TestKeepWrongArguments(t *testing.T) {
	c := config(2, 9, 9, 20, 5)
	r := begun(t, c)
	r.keep(0, table(3, 1, 2))
	r.keep(1, table(4, 5))
	odd(t, r.v, 2)
	is(t, r.v.Keep(2, pers.None()), api.ErrArg)
	is(t, r.v.Keep(3, pers.None()), api.ErrArg)
	r.looked()
	k := made(t, c)
	v := mounted(t, k, c)
	k.Fuel(0)
	is(t, v.Sync(), api.ErrOff)
	odd(t, v, 2)
}

// odd holds Keep and Kept of what can't be against ErrArg.
func odd(t testing.TB, v *thin.Volume, luns int) {
	t.Helper()
	for _, lun := range beyond(luns) {
		for _, x := range []api.Table{pers.None(), table(1), table(1, 2, 3), {}, forgotten(table(1, 2))} {
			is(t, v.Keep(lun, x), api.ErrArg)
		}
		x, err := v.Kept(lun)
		is(t, err, api.ErrArg)
		if !sameTable(x, api.Table{}) {
			t.Errorf("%v is told beside an error", x)
		}
	}
	for lun := range luns {
		for _, x := range []api.Table{
			{}, {Aptpl: true}, table(1, 2, 2), table(1, 3, 2), table(1, 8), table(1, -1),
			table(1, 0, 1, 2, 3, 4, 5, 6),
			{Holder: 2, Type: 1, Aptpl: true},
			{Holder: -1, Type: 1, Keys: []api.Registrant{{Nexus: 1, Key: 1}}, Aptpl: true},
			{Holder: 1, Type: 2, Keys: []api.Registrant{{Nexus: 1, Key: 1}}, Aptpl: true},
			{Holder: 1, Type: 1, Keys: []api.Registrant{{Nexus: 1}}},
		} {
			is(t, v.Keep(lun, x), api.ErrArg)
			is(t, v.Keep(lun, forgotten(x)), api.ErrArg)
		}
	}
}

// P11.1: what only tells takes no step of the disk, nor does what is refused, or has nothing to do.
func TestNoSteps(t *testing.T) {
	r := begun(t, config(2, 9, 9, 20, 3))
	r.write(0, 0, from(1, 6)...)
	r.keep(0, table(3, 1, 2))
	r.unmap(0, 0, 1)
	r.write(0, 10, from(11, 2)...)
	before := r.disk.Pending()
	r.disk.Fuel(0)
	r.looked()
	is(t, r.v.Write(0, 3, data(30)), api.ErrSpace)
	is(t, r.v.Write(0, 3, data(0, 0, 31)), api.ErrSpace)
	is(t, r.v.Write(0, 3, data(0, 0, 1)[1:]), api.ErrArg)
	is(t, r.v.Write(0, 19, data(0, 0)), api.ErrRange)
	is(t, r.v.Keep(2, pers.None()), api.ErrArg)
	at, err := r.v.Compare(0, 1, data(2, 4), data(5, 6))
	is(t, err, api.ErrDiff)
	if at != 64 {
		t.Fatalf("%d is told, want 64", at)
	}
	// There is no room for three live slots in a container that is full.
	n, err := r.v.Clean()
	if n != 0 || err != nil {
		t.Fatal(n, err)
	}
	is(t, r.v.Write(0, 20, nil), api.OK)
	is(t, r.v.Unmap(1, 0, 3), api.OK)
	r.looked()
	if r.disk.Off() || r.disk.Pending() != before {
		t.Fatal("a call has taken a step")
	}
}

// fails holds all calls of a volume, of right arguments, against an error, with zeros; of all blocks that are named some are to be asked for.
func fails(t testing.TB, v *thin.Volume, lun, lba int, want api.Errno) {
	t.Helper()
	for n := 1; n <= 8; n++ {
		none(t, v, lun, lba, n, want)
	}
	is(t, v.Sync(), want)
	k, err := v.Clean()
	is(t, err, want)
	n, err := v.Count()
	is(t, err, want)
	if k != 0 || n != [5]int{} {
		t.Errorf("%d and %v are told beside an error", k, n)
	}
	is(t, v.Keep(lun, table(1, 2)), want)
	is(t, v.Keep(lun, pers.None()), want)
	x, err := v.Kept(lun)
	is(t, err, want)
	if !sameTable(x, api.Table{}) {
		t.Errorf("%v is told beside an error", x)
	}
}

// P11.1: ErrOff, with zeros, of a volume whose book is broken, by whichever call it broke; wrong arguments are told ahead of it.
func TestBroken(t *testing.T) {
	c := config(3, 20, 9, 20, 9)
	for i, breaks := range []func(v *thin.Volume) error{
		func(v *thin.Volume) error { return v.Sync() },
		func(v *thin.Volume) error { return v.Write(0, 1, data(77)) },
		func(v *thin.Volume) error { return v.Same(0, 1, 2, block(77)) },
		func(v *thin.Volume) error { return v.Unmap(0, 1, 1) },
		func(v *thin.Volume) error { _, err := v.Compare(0, 1, data(2), data(77)); return err },
		func(v *thin.Volume) error { _, err := v.Clean(); return err },
		func(v *thin.Volume) error { return v.Keep(1, table(1, 2)) },
		func(v *thin.Volume) error { return v.Keep(0, pers.None()) },
	} {
		for fuel := range 2 {
			k := made(t, c)
			v := mounted(t, k, c)
			is(t, v.Write(0, 0, flat(from(1, 6))), api.OK)
			is(t, v.Unmap(0, 0, 1), api.OK)
			if fuel > 0 && (i == 0 || i == 7) {
				continue // Sync takes one step, and so does this Keep
			}
			k.Fuel(fuel)
			is(t, breaks(v), api.ErrOff)
			fails(t, v, 0, 1, api.ErrOff)
			fails(t, v, 1, 0, api.ErrOff)
			wrong(t, v, c)
			if v.Luns() != 2 || v.Size(0) != 20 || v.Size(1) != 9 {
				t.Errorf("there are %d units, of %d and %d blocks", v.Luns(), v.Size(0), v.Size(1))
			}
			mounted(t, copied(k), c)
		}
	}
}

// out is a disk's going off, by which no book is broken.
func out(t testing.TB, k *disk.Disk) {
	t.Helper()
	k.Fuel(0)
	is(t, k.Flush(), api.ErrOff)
}

// P11.1: of a disk that is off, whose book isn't broken yet: what was written lately is told, of all else ErrOff; with the first change that is to be committed it is broken.
func TestOffButNotBroken(t *testing.T) {
	c := config(3, 20, 9, 20, 9)
	k := made(t, c)
	v := mounted(t, k, c)
	is(t, v.Write(0, 0, flat(from(1, 4))), api.OK)
	is(t, v.Keep(1, table(1, 2)), api.OK)
	k = k.Crash(nil)
	v = mounted(t, k, c)
	is(t, v.Write(0, 8, data(9)), api.OK)
	is(t, v.Write(0, 16, data(10)), api.OK)
	out(t, k)
	b, err := v.Read(0, 4, 5)
	is(t, err, api.OK)
	if !bytes.Equal(b, data(0, 0, 0, 0, 9)) {
		t.Fatalf("the blocks are %v", b)
	}
	for lba := range 4 {
		for n := 1; n < 9; n++ {
			none(t, v, 0, lba, n, api.ErrOff)
		}
	}
	at, err := v.Compare(0, 8, data(8), data(1))
	is(t, err, api.ErrDiff)
	if at != 0 {
		t.Fatalf("%d is told, want 0", at)
	}
	_, err = v.Kept(1)
	is(t, err, api.ErrOff)
	_, err = v.Count()
	is(t, err, api.ErrOff)
	_, err = v.Clean()
	is(t, err, api.ErrOff)
	b, err = v.Read(0, 8, 1)
	is(t, err, api.OK)
	if !bytes.Equal(b, data(9)) {
		t.Fatalf("the blocks are %v", b)
	}
	is(t, v.Unmap(0, 8, 1), api.ErrOff)
	fails(t, v, 0, 8, api.ErrOff)
}

// lately is a volume on a disk that goes off, with what was done ahead of a Mount at home, and what was done behind it in the ring alone.
func lately(t testing.TB, c api.Config, home, behind func(v *thin.Volume) error) *thin.Volume {
	t.Helper()
	k := made(t, c)
	v := mounted(t, k, c)
	is(t, home(v), api.OK)
	is(t, v.Sync(), api.OK)
	k = k.Crash(nil)
	v = mounted(t, k, c)
	is(t, behind(v), api.OK)
	out(t, k)
	return v
}

// P11.1: whichever page can't be read that a call needs: ErrOff, with zeros.
func TestPagesThatCantBeRead(t *testing.T) {
	write := func(lba int, numbers ...int) func(v *thin.Volume) error {
		return func(v *thin.Volume) error { return v.Write(0, lba, data(numbers...)) }
	}
	few := config(1, 2, 2, 16)
	// All pages but the roots were written lately: Count lacks these alone.
	v := lately(t, few, write(0, 1), write(0, 2))
	n, err := v.Count()
	is(t, err, api.ErrOff)
	if n != [5]int{} {
		t.Errorf("%v are told beside an error", n)
	}
	// All of them, but for one place of the table.
	v = lately(t, few, write(0), write(0, 1))
	n, err = v.Count()
	is(t, err, api.ErrOff)
	if n != [5]int{} {
		t.Errorf("%v are told beside an error", n)
	}
	// All of them, but for one container.
	v = lately(t, config(2, 1, 2, 16), write(0), write(0, 1))
	n, err = v.Count()
	is(t, err, api.ErrOff)
	if n != [5]int{} {
		t.Errorf("%v are told beside an error", n)
	}
	// All of them.
	v = lately(t, config(1, 1, 2, 16), write(0), write(0, 1))
	counted(t, v, 1, 0, 3, 1, 2)
	// The roots, a leaf and the entry were written lately, and the slot wasn't.
	v = lately(t, config(2, 9, 9, 40), write(0, 1), func(v *thin.Volume) error { return v.Same(0, 15, 2, block(1)) })
	for _, lba := range []int{0, 14, 15, 16} {
		b, err := v.Read(0, lba, 2)
		is(t, err, api.ErrOff)
		at, err := v.Compare(0, lba, data(7, 7), data(8, 8))
		is(t, err, api.ErrOff)
		if len(b) != 0 || at != 0 {
			t.Errorf("%v and %d are told beside an error", b, at)
		}
		// To want it once more its slot is asked for.
		is(t, v.Write(0, 3, data(1)), api.ErrOff)
	}
	b, err := v.Read(0, 3, 8)
	is(t, err, api.OK)
	if !bytes.Equal(b, make([]byte, 512)) {
		t.Errorf("the blocks are %v", b)
	}
	// All slots of a container, the roots and a leaf were written lately, and the entries of the other container's blocks weren't.
	v = lately(t, config(2, 9, 9, 40), write(0, 1, 2, 3, 4, 5, 6, 7, 8), func(v *thin.Volume) error {
		is(t, v.Unmap(0, 0, 4), api.OK)
		is(t, v.Write(0, 0, data(11, 12, 13, 14)), api.OK)
		return v.Write(0, 16, data(11))
	})
	for lba := range 8 {
		b, err := v.Read(0, lba, 1)
		if lba < 4 {
			is(t, err, api.OK)
			if !bytes.Equal(b, data(11+lba)) {
				t.Errorf("block %d is %v", lba, b)
			}
			continue
		}
		is(t, err, api.ErrOff)
		if len(b) != 0 {
			t.Errorf("%v is told beside an error", b)
		}
	}
	// What is dead was told lately, and what is live beside it wasn't.
	v = lately(t, config(1, 9, 9, 40), write(0, 1, 2), func(v *thin.Volume) error { return v.Unmap(0, 0, 1) })
	k, err := v.Clean()
	is(t, err, api.ErrOff)
	if k != 0 {
		t.Errorf("%d is told beside an error", k)
	}
}

// P11.1: volumes on two disks are apart, and one that is mounted on a copy too.
func TestTwoVolumes(t *testing.T) {
	c := config(2, 9, 9, 20, 3)
	x, y := begun(t, c), begun(t, c)
	x.write(0, 0, from(1, 3)...)
	y.looked()
	y.write(0, 1, from(9, 3)...)
	y.keep(1, table(1, 2))
	x.looked()
	v := mounted(t, copied(x.disk), c)
	tells(t, v, x.is)
	is(t, v.Unmap(0, 0, 8), api.OK)
	x.looked()
}

// P11.1 and rule 7: of a nil *Volume: ErrArg, and zeros.
func TestNilVolume(t *testing.T) {
	var v *thin.Volume
	c := config(2, 9, 9, 20, 3)
	wrong(t, v, api.Config{})
	odd(t, v, 0)
	for lun := range c.Luns {
		for _, lba := range []int{-1, 0, 1, 300, math.MinInt, math.MaxInt} {
			fails(t, v, lun, lba, api.ErrArg)
		}
		if v.Size(lun) != 0 {
			t.Errorf("unit %d has blocks", lun)
		}
	}
	if v.Luns() != 0 {
		t.Errorf("there are %d units", v.Luns())
	}
}

// all does all calls with some arguments, whatever they answer.
func all(v *thin.Volume, next func(n int) int) {
	lun, lba, n := next(5), next(40), next(9)
	_, _ = v.Read(lun, lba, n)
	_ = v.Write(lun, lba, flat(from(next(9), n)))
	_ = v.Same(lun, lba, n, block(next(9)))
	_, _ = v.Compare(lun, lba, make([]byte, 64*n), data(next(9), next(9)))
	_, _ = v.Compare(lun, lba, make([]byte, 64), data(next(9)))
	_, _ = v.Clean()
	_, _ = v.Count()
	_ = v.Keep(lun, table(next(9), next(8)))
	_, _ = v.Kept(lun)
	_ = v.Unmap(lun, lba, n)
	_ = v.Sync()
	_, _ = v.Luns(), v.Size(lun)
}

// P0: a volume that Mount didn't make doesn't panic.
func TestOddVolume(t *testing.T) {
	next := chance(1)
	for range 50 {
		all(&thin.Volume{}, next)
	}
}

// P0: whatever bytes lie behind a sign, no call panics, and each ends.
func TestWhateverLiesThere(t *testing.T) {
	for seed := range 150 {
		next := chance(seed)
		c := config(1+next(4), 1+next(20), 1+next(9), 40, 17, 1)
		k := made(t, c)
		mounted(t, k, c)
		s := lying(t, k, c)
		for i := 1; i < pagesOf(c); i++ {
			var p disk.Page
			for j := range p {
				p[j] = byte(next([]int{1, 2, 3, 20, 256}[(seed+i)%5]))
			}
			is(t, s.done(s.book.Write(i, p)), api.OK)
		}
		is(t, s.book.Sync(), api.OK)
		k = k.Crash(nil)
		v := mounted(t, k, c)
		for range 60 {
			all(v, next)
		}
		mounted(t, copied(k), c)
	}
}

// P11.1: on pages of zeros a sign is put, whatever lies behind.
func TestMountOfZerosAlone(t *testing.T) {
	c := config(2, 9, 9, 20, 3)
	r := begun(t, c)
	r.write(0, 0, from(1, 3)...)
	r.keep(1, table(1, 2))
	k := copied(r.disk)
	lay(t, k, c, 0, disk.Page{})
	tells(t, mounted(t, k, c), r.is)
	if p := lying(t, k.Crash(nil), c).all(t)[0]; p != signOf(c) {
		t.Fatalf("on page 0 lies %v", p)
	}
}

// P11.2: an entry's slot, not its place, says where its block is: the places of a table can have been given by turns.
func TestPlacesByTurns(t *testing.T) {
	r := begun(t, config(4, 16, 9, 40))
	for i := range 60 {
		r.write(0, i%7, block(i+1))
		r.write(0, 10+i%5, block(i+1), block(0), block(i/2+1))
		if i%9 == 8 {
			r.clean()
		}
	}
	s := lying(t, copied(r.disk), r.c)
	l, err := s.table.All()
	is(t, err, api.OK)
	apart := 0
	for _, i := range l {
		e, err := s.table.Get(i)
		is(t, err, api.OK)
		if e.Slot != i {
			apart++
		}
	}
	if apart == 0 {
		t.Fatal("all blocks are where their entries are")
	}
}
