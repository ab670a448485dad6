package crc_test

import (
	"bytes"
	hashcrc "hash/crc32"
	"math/bits"
	"slices"
	"strings"
	"testing"

	"bulkhead/crc"
)

// mixed is n bytes of all values, by a rule of its own for each seed.
func mixed(n int, seed uint32) []byte {
	b := make([]byte, n)
	x := seed*2654435761 + 1
	for i := range b {
		x = x*1664525 + 1013904223
		b[i] = byte(x >> 24)
	}
	return b
}

// oddTables are tables that aren't the one Table answers.
func oddTables() []*[256]uint32 {
	var zeros, ones, mirrored, high, steps, mixedUp [256]uint32
	wire := hashcrc.MakeTable(hashcrc.IEEE)
	bytesOf := mixed(1024, 9)
	for i := range 256 {
		ones[i] = 1<<32 - 1
		mirrored[i] = wire[i]
		high[i] = uint32(i) << 24
		steps[i] = uint32(i)
		for _, c := range bytesOf[4*i : 4*i+4] {
			mixedUp[i] = mixedUp[i]<<8 | uint32(c)
		}
	}
	return []*[256]uint32{&zeros, &ones, &mirrored, &high, &steps, &mixedUp}
}

// slowSum is the sum of b by t, in wide numbers and without shifts.
func slowSum(t *[256]uint32, b []byte) uint32 {
	x := uint64(1<<32 - 1)
	for _, c := range b {
		x = uint64(t[x%256^uint64(c)]) ^ x/256
	}
	return uint32(1<<32 - 1 - x)
}

// closed is b with the bytes of its sum by t behind it.
func closed(t *[256]uint32, b []byte) []byte {
	sum := crc.Bytes(crc.Sum(t, b))
	return append(slices.Clone(b), sum[:]...)
}

// P2.1: the table, entry by entry, by the words' own halvings and against another's.
func TestTable(t *testing.T) {
	table := crc.Table()
	if table == nil {
		t.Fatal("no table")
	}
	other := hashcrc.MakeTable(hashcrc.Castagnoli)
	for i := range 256 {
		x := uint64(i)
		for range 8 {
			odd := x%2 == 1
			x /= 2
			if odd {
				x ^= 0x82F63B78
			}
		}
		if uint64(table[i]) != x || table[i] != other[i] {
			t.Errorf("entry %d is %08x, want %08x (%08x)", i, table[i], x, other[i])
		}
	}
}

// P2.1: entries that are known from elsewhere.
func TestKnownEntries(t *testing.T) {
	table := crc.Table()
	known := map[int]uint32{0: 0, 1: 0xF26B8303, 2: 0xE13B70F7, 3: 0x1350F3F4, 128: 0x82F63B78, 254: 0x5F16D052, 255: 0xAD7D5351}
	for i, want := range known {
		if table[i] != want {
			t.Errorf("entry %d is %08x, want %08x", i, table[i], want)
		}
	}
}

// P2.1: each table is new memory: what is written to one is not in another, nor in what nil stands for.
func TestTablesAreNew(t *testing.T) {
	first, second := crc.Table(), crc.Table()
	if first == second {
		t.Fatal("two calls answer one table")
	}
	*first = [256]uint32{}
	if *second == *first || *crc.Table() != *second {
		t.Error("a table that was answered hangs on another one")
	}
	if crc.Sum(nil, []byte("123456789")) != 0xE3069283 {
		t.Error("the sum by nil hangs on a table that was answered")
	}
}

// P2.1: sums that are known from elsewhere.
func TestKnownSums(t *testing.T) {
	upward, downward := make([]byte, 32), make([]byte, 32)
	for i := range 32 {
		upward[i], downward[i] = byte(i), byte(31-i)
	}
	known := []struct {
		text string
		sum  uint32
	}{
		{"", 0},
		{"a", 0xC1D04330},
		{"123456789", 0xE3069283},
		{strings.Repeat("\x00", 32), 0x8A9136AA},
		{strings.Repeat("\xff", 32), 0x62A8AB43},
		{string(upward), 0x46DD794E},
		{string(downward), 0x113FDB5C},
	}
	table := crc.Table()
	for _, k := range known {
		if got := crc.Sum(table, []byte(k.text)); got != k.sum {
			t.Errorf("%q: %08x, want %08x", k.text, got, k.sum)
		}
		if got := crc.Sum(nil, []byte(k.text)); got != k.sum {
			t.Errorf("%q by nil: %08x, want %08x", k.text, got, k.sum)
		}
	}
}

// P2.1: every length, and every byte, against another implementation.
func TestSumAgainstAnother(t *testing.T) {
	table, other := crc.Table(), hashcrc.MakeTable(hashcrc.Castagnoli)
	for n := range 600 {
		for _, b := range [][]byte{mixed(n, 1), mixed(n, 2), make([]byte, n), bytes.Repeat([]byte{0xff}, n)} {
			want := hashcrc.Checksum(b, other)
			if crc.Sum(table, b) != want || crc.Sum(nil, b) != want {
				t.Fatalf("%d bytes", n)
			}
		}
	}
	for x := range 256 {
		b := []byte{byte(x)}
		if crc.Sum(table, b) != hashcrc.Checksum(b, other) {
			t.Errorf("the byte %d", x)
		}
	}
	long := mixed(1<<20+3, 3)
	if crc.Sum(table, long) != hashcrc.Checksum(long, other) {
		t.Error("a MiB of bytes")
	}
}

// P2.1: the empty list, nil or not, by any table.
func TestEmpty(t *testing.T) {
	for _, table := range append(oddTables(), crc.Table(), nil) {
		if crc.Sum(table, nil) != 0 || crc.Sum(table, []byte{}) != 0 || crc.Sum(table, []byte("abc")[:0]) != 0 {
			t.Error("the sum of no bytes is not 0")
		}
	}
}

// P2.1: sums go by the table that is handed in, whatever stands in it.
func TestSumByOtherTables(t *testing.T) {
	for i, table := range oddTables() {
		for n := range 80 {
			b := mixed(n, uint32(n))
			if got, want := crc.Sum(table, b), slowSum(table, b); got != want {
				t.Errorf("table %d, %d bytes: %08x, want %08x", i, n, got, want)
			}
		}
	}
	wire := oddTables()[2]
	if got := crc.Sum(wire, []byte("123456789")); got != 0xCBF43926 {
		t.Errorf("by the IEEE table: %08x", got)
	}
}

// P2.1: each entry of a table counts.
func TestEachEntryCounts(t *testing.T) {
	for i := range 256 {
		table := crc.Table()
		table[i] ^= 1
		b := []byte{byte(i) ^ 0xff}
		if crc.Sum(table, b) != crc.Sum(nil, b)^1 {
			t.Errorf("entry %d is not asked for the byte %d", i, b[0])
		}
	}
}

// P2.1: a sum's bytes, the lowest first.
func TestBytes(t *testing.T) {
	known := map[uint32][4]byte{
		0:          {},
		1:          {1},
		0x100:      {0, 1},
		0x10000:    {0, 0, 1},
		0x1000000:  {0, 0, 0, 1},
		0xE3069283: {0x83, 0x92, 0x06, 0xE3},
		0x80000000: {0, 0, 0, 0x80},
		1<<32 - 1:  {255, 255, 255, 255},
	}
	for x, want := range known {
		if got := crc.Bytes(x); got != want {
			t.Errorf("bytes of %08x: %x, want %x", x, got, want)
		}
	}
	for bit := range 32 {
		var want [4]byte
		want[bit/8] = 1 << (bit % 8)
		if got := crc.Bytes(1 << bit); got != want {
			t.Errorf("bytes of bit %d: %x", bit, got)
		}
	}
}

// P2.1: bytes with their sum behind them fit, by the table that the sum was made with.
func TestFits(t *testing.T) {
	table := crc.Table()
	for n := range 300 {
		b := closed(table, mixed(n, 4))
		if !crc.Fits(table, b) || !crc.Fits(nil, b) {
			t.Fatalf("%d bytes and their sum don't fit", n)
		}
	}
	for i, odd := range oddTables() {
		for n := range 60 {
			if !crc.Fits(odd, closed(odd, mixed(n, 5))) {
				t.Errorf("table %d: %d bytes and their sum don't fit", i, n)
			}
		}
	}
	if crc.Fits(oddTables()[2], closed(table, []byte("123456789"))) || crc.Fits(table, closed(oddTables()[2], []byte("123456789"))) {
		t.Error("a sum by another table fits")
	}
}

// P2.1: less than four bytes never fit; four fit if they are the sum of none.
func TestFitsOfFewBytes(t *testing.T) {
	for _, table := range append(oddTables(), crc.Table(), nil) {
		for n := range 4 {
			if crc.Fits(table, make([]byte, n)) || crc.Fits(table, bytes.Repeat([]byte{0xff}, n)) {
				t.Errorf("%d bytes fit", n)
			}
		}
		if crc.Fits(table, nil) {
			t.Error("nil fits")
		}
		if !crc.Fits(table, make([]byte, 4)) {
			t.Error("four zeros don't fit")
		}
		for _, b := range []string{"\x00\x00\x00\x01", "\x01\x00\x00\x00", "\xff\xff\xff\xff"} {
			if crc.Fits(table, []byte(b)) {
				t.Errorf("%x fits", b)
			}
		}
	}
	behind := closed(nil, []byte("ab"))
	if crc.Fits(nil, behind[:3]) {
		t.Error("bytes behind the list are read")
	}
}

// P2.1: a sum that stands elsewhere, or in another order, doesn't fit.
func TestWrongSums(t *testing.T) {
	for _, s := range []string{
		"123456789\xe3\x06\x92\x83",     // the highest first
		"123456789\x7c\x6d\xf9\x1c",     // its bits not turned about
		"\x83\x92\x06\xe3123456789",     // ahead
		"123456789\x83\x92\x06\xe3\x00", // not last
		"123456789\x83\x92\x06",         // cut
		"12345678\x83\x92\x06\xe3",      // a byte too few
		"\x00123456789\x83\x92\x06\xe3", // a byte too many
		"213456789\x83\x92\x06\xe3",     // two turned about
		"123456789\x84\x92\x06\xe3",
		"123456789\x83\x93\x06\xe3",
		"123456789\x83\x92\x07\xe3",
		"123456789\x83\x92\x06\xe4",
	} {
		if crc.Fits(nil, []byte(s)) || crc.Fits(crc.Table(), []byte(s)) {
			t.Errorf("%q fits", s)
		}
	}
}

// turn turns the bits of burst from place on, counted from the lowest of each byte.
func turn(b []byte, place int, burst uint32) {
	for burst != 0 {
		bit := place + bits.TrailingZeros32(burst)
		b[bit/8] ^= 1 << (bit % 8)
		burst &= burst - 1
	}
}

// checkBurst tells whether b, which fits, no longer fits with the burst turned in it.
func checkBurst(t *testing.T, table *[256]uint32, b []byte, place int, burst uint32) {
	t.Helper()
	turn(b, place, burst)
	if crc.Fits(table, b) {
		t.Fatalf("%d bytes fit with the burst %b turned at bit %d", len(b), burst, place)
	}
	turn(b, place, burst)
}

// P2.2: every burst of up to ten bits, at every place.
func TestShortBursts(t *testing.T) {
	table := crc.Table()
	for _, n := range []int{0, 1, 2, 17, 48} {
		b := closed(table, mixed(n, 6))
		for burst := uint32(1); burst < 1<<10; burst += 2 {
			for place := 0; place+bits.Len32(burst) <= 8*len(b); place++ {
				checkBurst(t, table, b, place, burst)
			}
		}
	}
}

// P2.2: bursts of eleven to 32 bits, at every place; each begins and ends with a turned bit.
func TestLongBursts(t *testing.T) {
	table := crc.Table()
	x := uint32(1)
	for _, n := range []int{0, 3, 20, 64, 300} {
		b := closed(table, mixed(n, 7))
		for size := 11; size <= 32; size++ {
			ends := uint32(1) | 1<<(size-1)
			for place := 0; place+size <= 8*len(b); place++ {
				x = x*1664525 + 1013904223
				checkBurst(t, table, b, place, ends|x>>(32-size))
			}
		}
	}
}

// P2.2: bursts of 32 bits that are all or hardly turned, or are the polynomial's own bits.
func TestEdgesOfBursts(t *testing.T) {
	table := crc.Table()
	b := closed(table, mixed(64, 8))
	for _, burst := range []uint32{1<<32 - 1, 1<<31 | 1, 0x82F63B79, 0x82F63B78, 0x1EDC6F41, 0x9EDC6F41, 1 << 31} {
		for place := 0; place+bits.Len32(burst) <= 8*len(b); place++ {
			checkBurst(t, table, b, place, burst)
		}
	}
}

// P2.1 and P2.2: nothing that is handed in is changed, nor the room behind it.
func TestArgumentsStay(t *testing.T) {
	room := mixed(64, 10)
	kept := slices.Clone(room)
	for i, table := range append(oddTables(), crc.Table()) {
		before := *table
		crc.Sum(table, room[:20])
		crc.Fits(table, room[:20])
		crc.Fits(table, room[:3])
		if *table != before {
			t.Errorf("table %d was changed", i)
		}
	}
	crc.Sum(nil, room[:20])
	crc.Fits(nil, room[:20])
	if !bytes.Equal(room, kept) {
		t.Error("bytes that were handed in were changed")
	}
}

// P2.1: the same call answers the same, however many came between.
func TestNothingIsKept(t *testing.T) {
	b := []byte("123456789")
	odd := oddTables()[5]
	by, byOdd := crc.Sum(nil, b), crc.Sum(odd, b)
	for range 3 {
		if crc.Sum(odd, b) != byOdd || crc.Sum(nil, b) != by || crc.Sum(crc.Table(), b) != by {
			t.Fatal("a sum hangs on the calls ahead of it")
		}
	}
}
