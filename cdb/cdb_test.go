package cdb_test

import (
	"encoding/binary"
	"math"
	"math/big"
	"slices"
	"testing"

	"bulkhead/api"
	"bulkhead/cdb"
)

// ops are the first bytes of the table's rows.
var ops = []byte{0x00, 0x12, 0x25, 0x9E, 0xA0, 0x5E, 0x5F, 0x42, 0x28, 0x88, 0x2A, 0x8A, 0x41, 0x93, 0x89, 0x35, 0x91}

// ofBlocks are those of them that name blocks.
var ofBlocks = []byte{0x28, 0x88, 0x2A, 0x8A, 0x41, 0x93, 0x89, 0x35, 0x91}

// chance answers numbers below its argument, the same ones for the same seed.
func chance(seed int) func(n int) int {
	x := uint64(seed)*2654435761 + 12345
	return func(n int) int {
		x ^= x << 13
		x ^= x >> 7
		x ^= x << 17
		return int(x>>8) % n
	}
}

// A telling is one row of the chapter's table: what the task has, and what is wrong with the bytes.
type telling struct {
	do     int
	vital  bool // bit 0 of b(1) is Vital
	third  bool // bit 3 of b(1) is Fua or, of DoSame, Unmap
	page   bool // b(2) is Page
	action bool // b(1) is Action
	halves bool // b(2) is Scope and Type
	alloc  func(b [16]byte, blocks int64) int64
	length func(b [16]byte, blocks int64) int64
	lba    [2]int // the places of Lba, both ends; 0, 0: none
	blocks [2]int
	wrong  func(b [16]byte, blocks int64) bool // Field
	list   func(length int64) bool             // ListLength
}

// between is the number of b(first..last).
func between(b [16]byte, first, last int) int64 {
	var eight [8]byte
	copy(eight[8-(last-first+1):], b[first:last+1])
	return int64(binary.BigEndian.Uint64(eight[:]))
}

// bytesAt is a field of the bytes from first to last.
func bytesAt(first, last int) func([16]byte, int64) int64 {
	return func(b [16]byte, _ int64) int64 { return between(b, first, last) }
}

// each is a field of so many bytes for each block.
func each(n int64) func([16]byte, int64) int64 {
	return func(_ [16]byte, blocks int64) int64 { return n * blocks }
}

// fixed is a field that is n whatever the bytes.
func fixed(n int64) func([16]byte, int64) int64 {
	return func([16]byte, int64) int64 { return n }
}

func moved(b [16]byte, blocks int64) bool { return b[1] != 0 && b[1] != 8 || blocks > 8 }
func some(b [16]byte, blocks int64) bool  { return b[1] != 0 && b[1] != 8 || blocks < 1 || blocks > 8 }

// rows are the chapter's table.
func rows() map[byte]telling {
	short, long := [2]int{2, 5}, [2]int{2, 9}
	few, many, one := [2]int{7, 8}, [2]int{10, 13}, [2]int{13, 13}
	read := telling{do: 6, third: true, alloc: each(64), wrong: moved}
	write := telling{do: 7, third: true, length: each(64), wrong: moved}
	same := telling{do: 8, third: true, length: fixed(64), wrong: some}
	compare := telling{do: 10, third: true, length: each(128), wrong: some}
	sync := telling{do: 11, wrong: func(b [16]byte, _ int64) bool { return b[1] != 0 }}
	at := func(t telling, lba, blocks [2]int) telling {
		t.lba, t.blocks = lba, blocks
		return t
	}
	return map[byte]telling{
		0x00: {do: 1},
		0x12: {do: 2, vital: true, page: true, alloc: bytesAt(3, 4), wrong: func(b [16]byte, _ int64) bool {
			return !(b[1] == 1 || b[1] == 0 && b[2] == 0)
		}},
		0x25: {do: 3, alloc: fixed(8)},
		0x9E: {do: 4, alloc: bytesAt(10, 13), wrong: func(b [16]byte, _ int64) bool { return b[1] != 16 }},
		0xA0: {do: 5, alloc: bytesAt(6, 9), wrong: func(b [16]byte, _ int64) bool { return b[2] > 2 }},
		0x5E: {do: 12, action: true, alloc: bytesAt(7, 8), wrong: func(b [16]byte, _ int64) bool { return b[1] > 1 }},
		0x5F: {do: 13, action: true, halves: true, length: bytesAt(5, 8), wrong: func(b [16]byte, _ int64) bool {
			return b[1] > 6 || b[2] >= 16
		}, list: func(n int64) bool { return n != 24 }},
		0x42: {do: 9, length: bytesAt(7, 8), list: func(n int64) bool { return n != 0 && n != 24 }},
		0x28: at(read, short, few), 0x88: at(read, long, many),
		0x2A: at(write, short, few), 0x8A: at(write, long, many),
		0x41: at(same, short, few), 0x93: at(same, long, many),
		0x89: at(compare, long, one),
		0x35: at(sync, short, few), 0x91: at(sync, long, many),
	}
}

// told is Decode by the table.
func told(rows map[byte]telling, b [16]byte) (api.Task, int) {
	r, ok := rows[b[0]]
	if !ok {
		return api.Task{}, 0x2000
	}
	t := api.Task{Do: r.do}
	if r.lba != [2]int{} {
		t.Lba = uint64(between(b, r.lba[0], r.lba[1]))
		t.Blocks = uint64(between(b, r.blocks[0], r.blocks[1]))
	}
	if r.wrong != nil && r.wrong(b, int64(t.Blocks)) {
		return api.Task{}, 0x2400
	}
	if r.alloc != nil {
		t.Alloc = int(r.alloc(b, int64(t.Blocks)))
	}
	if r.length != nil {
		t.Length = int(r.length(b, int64(t.Blocks)))
	}
	if r.list != nil && r.list(int64(t.Length)) {
		return api.Task{}, 0x1A00
	}
	t.Vital = r.vital && b[1]%2 == 1
	if r.third && b[1] == 8 {
		t.Unmap, t.Fua = r.do == 8, r.do != 8
	}
	if r.page {
		t.Page = int(b[2])
	}
	if r.action {
		t.Action = int(b[1])
	}
	if r.halves {
		t.Scope, t.Type = int(b[2])/16, int(b[2])%16
	}
	return t, 0
}

// check holds Decode against the table.
func check(t *testing.T, rows map[byte]telling, b [16]byte) {
	t.Helper()
	want, code := told(rows, b)
	got, met := cdb.Decode(b)
	if got != want || met != code {
		t.Fatalf("%x: %+v, %x; want %+v, %x", b, got, met, want, code)
	}
}

// P12.1: the codes of sense are the chapter's numbers.
func TestCodes(t *testing.T) {
	got := []int{cdb.Opcode, cdb.Beyond, cdb.Field, cdb.NoLun, cdb.ListField, cdb.ListLength}
	if want := []int{0x2000, 0x2100, 0x2400, 0x2500, 0x2600, 0x1A00}; !slices.Equal(got, want) {
		t.Fatalf("%x", got)
	}
}

// P12.1: the example of the chapter.
func TestExample(t *testing.T) {
	got, code := cdb.Decode([16]byte{0x28, 0, 0, 0, 0, 5, 0, 0, 2})
	if want := (api.Task{Do: api.DoRead, Lba: 5, Blocks: 2, Alloc: 128}); got != want || code != 0 {
		t.Fatal(got, code)
	}
}

// P12.1: what no row has is Opcode, whatever stands behind it.
func TestNoRow(t *testing.T) {
	few := chance(1)
	for op := range 256 {
		if slices.Contains(ops, byte(op)) {
			continue
		}
		for range 50 {
			b := [16]byte{byte(op)}
			for i := 1; i < 16; i++ {
				b[i] = byte(few(256) * few(2))
			}
			if got, code := cdb.Decode(b); got != (api.Task{}) || code != cdb.Opcode {
				t.Fatalf("%x: %+v, %x", b, got, code)
			}
		}
	}
}

// P12.1: each row, by hand: what is asked for, and both sides of each edge.
func TestRows(t *testing.T) {
	long := uint64(1)<<63 | 1
	for _, x := range []struct {
		b    [16]byte
		t    api.Task
		code int
	}{
		{[16]byte{0: 0x12, 4: 36}, api.Task{Do: api.DoInquiry, Alloc: 36}, 0},
		{[16]byte{0: 0x12, 1: 1, 3: 255, 4: 255}, api.Task{Do: api.DoInquiry, Vital: true, Alloc: 65535}, 0},
		{[16]byte{0: 0x12, 1: 1, 2: 255}, api.Task{Do: api.DoInquiry, Vital: true, Page: 255}, 0},
		{[16]byte{0: 0x12, 1: 3, 2: 128}, api.Task{}, cdb.Field},
		{[16]byte{0: 0x12, 1: 128}, api.Task{}, cdb.Field},
		{[16]byte{0: 0x12, 2: 128}, api.Task{}, cdb.Field},
		{[16]byte{0: 0x9E, 1: 16, 10: 255, 11: 255, 12: 255, 13: 255}, api.Task{Do: api.DoCap16, Alloc: 1<<32 - 1}, 0},
		{[16]byte{0: 0x9E, 1: 17}, api.Task{}, cdb.Field},
		{[16]byte{0: 0x9E, 1: 15}, api.Task{}, cdb.Field},
		{[16]byte{0: 0x9E, 1: 0x30}, api.Task{}, cdb.Field},
		{[16]byte{0: 0xA0, 2: 2, 6: 128, 9: 1}, api.Task{Do: api.DoLuns, Alloc: 1<<31 + 1}, 0},
		{[16]byte{0: 0xA0, 2: 3}, api.Task{}, cdb.Field},
		{[16]byte{0: 0xA0, 2: 255}, api.Task{}, cdb.Field},
		{[16]byte{0: 0x5E, 7: 1, 8: 2}, api.Task{Do: api.DoPrIn, Alloc: 258}, 0},
		{[16]byte{0: 0x5E, 1: 0x21}, api.Task{}, cdb.Field},
		{[16]byte{0: 0x5F, 8: 24}, api.Task{Do: api.DoPrOut, Length: 24}, 0},
		{[16]byte{0: 0x5F, 1: 6, 2: 15, 8: 24}, api.Task{Do: api.DoPrOut, Action: 6, Type: 15, Length: 24}, 0},
		{[16]byte{0: 0x5F, 1: 7, 8: 24}, api.Task{}, cdb.Field},
		{[16]byte{0: 0x5F, 1: 7}, api.Task{}, cdb.Field},
		{[16]byte{0: 0x5F, 2: 0x10}, api.Task{}, cdb.Field},
		{[16]byte{0: 0x5F, 2: 0xF1, 8: 24}, api.Task{}, cdb.Field},
		{[16]byte{0: 0x5F}, api.Task{}, cdb.ListLength},
		{[16]byte{0: 0x5F, 8: 25}, api.Task{}, cdb.ListLength},
		{[16]byte{0: 0x5F, 5: 1, 8: 24}, api.Task{}, cdb.ListLength},
		{[16]byte{0: 0x5F, 7: 1, 8: 24}, api.Task{}, cdb.ListLength},
		{[16]byte{0: 0x42, 8: 24}, api.Task{Do: api.DoUnmap, Length: 24}, 0},
		{[16]byte{0: 0x42, 7: 1, 8: 24}, api.Task{}, cdb.ListLength},
		{[16]byte{0: 0x42, 8: 23}, api.Task{}, cdb.ListLength},
		{[16]byte{0: 0x42, 8: 25}, api.Task{}, cdb.ListLength},
		{[16]byte{0: 0x28}, api.Task{Do: api.DoRead}, 0},
		{[16]byte{0: 0x28, 2: 255, 3: 255, 4: 255, 5: 255, 8: 8}, api.Task{Do: api.DoRead, Lba: 1<<32 - 1, Blocks: 8, Alloc: 512}, 0},
		{[16]byte{0: 0x28, 7: 1}, api.Task{}, cdb.Field},
		{[16]byte{0: 0x88, 1: 8, 2: 128, 9: 1, 13: 8}, api.Task{Do: api.DoRead, Lba: long, Blocks: 8, Fua: true, Alloc: 512}, 0},
		{[16]byte{0: 0x88, 13: 9}, api.Task{}, cdb.Field},
		{[16]byte{0: 0x88, 10: 128}, api.Task{}, cdb.Field},
		{[16]byte{0: 0x88, 1: 4}, api.Task{}, cdb.Field},
		{[16]byte{0: 0x2A, 1: 8, 5: 1, 8: 1}, api.Task{Do: api.DoWrite, Lba: 1, Blocks: 1, Fua: true, Length: 64}, 0},
		{[16]byte{0: 0x2A}, api.Task{Do: api.DoWrite}, 0},
		{[16]byte{0: 0x2A, 1: 9}, api.Task{}, cdb.Field},
		{[16]byte{0: 0x8A, 13: 9}, api.Task{}, cdb.Field},
		{[16]byte{0: 0x8A, 1: 0x18}, api.Task{}, cdb.Field},
		{[16]byte{0: 0x41, 8: 8}, api.Task{Do: api.DoSame, Blocks: 8, Length: 64}, 0},
		{[16]byte{0: 0x41, 1: 8, 5: 7, 8: 1}, api.Task{Do: api.DoSame, Lba: 7, Blocks: 1, Unmap: true, Length: 64}, 0},
		{[16]byte{0: 0x41, 1: 8}, api.Task{}, cdb.Field},
		{[16]byte{0: 0x41, 8: 9}, api.Task{}, cdb.Field},
		{[16]byte{0: 0x93, 1: 1, 13: 1}, api.Task{}, cdb.Field},
		{[16]byte{0: 0x93}, api.Task{}, cdb.Field},
		{[16]byte{0: 0x93, 12: 1, 13: 1}, api.Task{}, cdb.Field},
		{[16]byte{0: 0x89, 1: 8, 9: 3, 13: 8}, api.Task{Do: api.DoCompare, Lba: 3, Blocks: 8, Fua: true, Length: 1024}, 0},
		{[16]byte{0: 0x89, 10: 1, 11: 1, 12: 1, 13: 1}, api.Task{Do: api.DoCompare, Blocks: 1, Length: 128}, 0},
		{[16]byte{0: 0x89}, api.Task{}, cdb.Field},
		{[16]byte{0: 0x89, 12: 1}, api.Task{}, cdb.Field},
		{[16]byte{0: 0x89, 13: 9}, api.Task{}, cdb.Field},
		{[16]byte{0: 0x89, 1: 0x10, 13: 1}, api.Task{}, cdb.Field},
		{[16]byte{0: 0x35}, api.Task{Do: api.DoSync}, 0},
		{[16]byte{0: 0x35, 5: 1, 7: 255, 8: 255}, api.Task{Do: api.DoSync, Lba: 1, Blocks: 65535}, 0},
		{[16]byte{0: 0x35, 1: 8}, api.Task{}, cdb.Field},
		{[16]byte{0: 0x91, 2: 128, 9: 1, 10: 255, 11: 255, 12: 255, 13: 255}, api.Task{Do: api.DoSync, Lba: long, Blocks: 1<<32 - 1}, 0},
		{[16]byte{0: 0x91, 1: 1}, api.Task{}, cdb.Field},
	} {
		if got, code := cdb.Decode(x.b); got != x.t || code != x.code {
			t.Errorf("%x: %+v, %x; want %+v, %x", x.b, got, code, x.t, x.code)
		}
	}
}

// P12.1: each first byte with each second and each third one, the rest being zeros or such that lengths fit.
func TestFirstBytes(t *testing.T) {
	rows := rows()
	for n := range 1 << 24 {
		if testing.Short() && n>>8&0xFF > 0x20 && n>>8&7 != 0 {
			continue
		}
		b := [16]byte{byte(n >> 16), byte(n >> 8), byte(n)}
		if !slices.Contains(ops, b[0]) && n&0xFF > 1 {
			continue
		}
		check(t, rows, b)
		b[8], b[13] = 24, 1
		check(t, rows, b)
		b[8] = 8
		check(t, rows, b)
	}
}

// P12.1: each byte of each row's command, all else as it was, has each value: those that aren't named play no part.
func TestEachByte(t *testing.T) {
	rows := rows()
	for _, op := range ops {
		for _, base := range [][16]byte{{}, {1: 8, 8: 2, 13: 2}, {1: 1, 8: 24, 13: 8}, {1: 16, 13: 200}, {8: 24}, {5: 1, 8: 24}, {8: 8, 13: 7}} {
			base[0] = op
			for i := 1; i < 16; i++ {
				for c := range 256 {
					b := base
					b[i] = byte(c)
					check(t, rows, b)
				}
			}
		}
	}
}

// P12.1: whatever bytes: most of them such as the rows ask for.
func TestWhateverBytes(t *testing.T) {
	rows := rows()
	few := chance(2)
	n := 2000000
	if testing.Short() {
		n = 100000
	}
	met := map[int]int{}
	for range n {
		b := [16]byte{ops[few(len(ops))]}
		for i := 1; i < 16; i++ {
			switch few(4) {
			case 0:
				b[i] = byte(few(256))
			case 1:
				b[i] = byte(few(10))
			}
		}
		if few(2) == 0 {
			b[1] = []byte{0, 1, 8, 16}[few(4)]
		}
		if few(2) == 0 {
			b[5], b[6], b[7], b[8] = 0, 0, 0, byte(24*few(2)+few(2))
		}
		if few(2) == 0 {
			b[10], b[11], b[12], b[13] = 0, 0, 0, byte(few(10))
		}
		check(t, rows, b)
		task, code := cdb.Decode(b)
		met[task.Do]++
		met[-code]++
	}
	for do := range 14 {
		if met[do] == 0 {
			t.Errorf("no task did %d", do)
		}
	}
	if met[-cdb.Field] == 0 || met[-cdb.ListLength] == 0 {
		t.Error(met)
	}
}

// P12.1: Lba and Blocks are numbers with the highest byte first: each bit of them by itself.
func TestBits(t *testing.T) {
	for _, op := range ofBlocks {
		first, last, blocks, end := 2, 9, 10, 13
		switch op {
		case 0x28, 0x2A, 0x41, 0x35:
			last, blocks, end = 5, 7, 8
		case 0x89:
			blocks = 13
		}
		for bit := range 8 * (last - first + 1) {
			b := [16]byte{op}
			b[end] = 1
			b[last-bit/8] |= 1 << (bit % 8)
			if got, code := cdb.Decode(b); code != 0 || got.Lba != 1<<bit || got.Blocks != 1 {
				t.Fatalf("%x: %+v, %x", b, got, code)
			}
		}
		for bit := range 8 * (end - blocks + 1) {
			b := [16]byte{op}
			b[end-bit/8] |= 1 << (bit % 8)
			got, code := cdb.Decode(b)
			if bit > 3 && op != 0x35 && op != 0x91 {
				if code != cdb.Field || got != (api.Task{}) {
					t.Fatalf("%x: %+v, %x", b, got, code)
				}
			} else if code != 0 || got.Blocks != 1<<bit || got.Lba != 0 {
				t.Fatalf("%x: %+v, %x", b, got, code)
			}
		}
	}
}

// pairs are first bytes of the forms of ten bytes and of sixteen.
var pairs = [][2]byte{{0x28, 0x88}, {0x2A, 0x8A}, {0x41, 0x93}, {0x35, 0x91}}

// both are the two forms of one command.
func both(pair [2]byte, second byte, lba uint32, blocks uint16) (short, long [16]byte) {
	short[0], short[1] = pair[0], second
	binary.BigEndian.PutUint32(short[2:], lba)
	binary.BigEndian.PutUint16(short[7:], blocks)
	long[0], long[1] = pair[1], second
	binary.BigEndian.PutUint64(long[2:], uint64(lba))
	binary.BigEndian.PutUint32(long[10:], uint32(blocks))
	return short, long
}

// P12.2: forms of ten bytes and of sixteen that name the same blocks ask for the same, or are refused alike.
func TestForms(t *testing.T) {
	few := chance(3)
	for _, pair := range pairs {
		for second := range 256 {
			for blocks := range 1 << 16 {
				if blocks > 300 && (second != 0 && second != 8 || testing.Short() && blocks&0xFF != 0) {
					break
				}
				lba := uint32(few(1 << 32))
				if few(2) == 0 {
					lba = uint32(few(300))
				}
				short, long := both(pair, byte(second), lba, uint16(blocks))
				x, code := cdb.Decode(short)
				y, other := cdb.Decode(long)
				if x != y || code != other {
					t.Fatalf("%x: %+v, %x; %x: %+v, %x", short, x, code, long, y, other)
				}
				if code == 0 && (x.Lba != uint64(lba) || x.Blocks != uint64(blocks)) {
					t.Fatalf("%x: %+v", short, x)
				}
			}
		}
	}
}

// P12.2: bytes that aren't named make no form ask for another thing.
func TestFormsUnnamed(t *testing.T) {
	few := chance(4)
	for range 200000 {
		pair := pairs[few(4)]
		short, long := both(pair, byte(8*few(2)), uint32(few(1<<32)), uint16(few(9)))
		x, code := cdb.Decode(short)
		for _, i := range []int{6, 9, 10, 11, 12, 13, 14, 15} {
			short[i] = byte(few(256))
		}
		long[14], long[15] = byte(few(256)), byte(few(256))
		y, other := cdb.Decode(short)
		z, last := cdb.Decode(long)
		if x != y || y != z || code != other || other != last {
			t.Fatalf("%x: %+v, %x; %x: %+v, %x", short, y, other, long, z, last)
		}
	}
}

// within is Fits, with numbers without an end.
func within(lba, blocks uint64, size int) bool {
	end := new(big.Int).SetUint64(lba)
	end.Add(end, new(big.Int).SetUint64(blocks))
	return size >= 0 && end.Cmp(big.NewInt(int64(size))) <= 0
}

// P12.1: Fits of small numbers.
func TestFitsSmall(t *testing.T) {
	for lba := range uint64(20) {
		for blocks := range uint64(20) {
			for size := -3; size < 45; size++ {
				got := cdb.Fits(api.Task{Lba: lba, Blocks: blocks}, size)
				if got != (size >= 0 && int(lba)+int(blocks) <= size) {
					t.Fatal(lba, blocks, size, got)
				}
			}
		}
	}
}

// P12.1: Fits of numbers whose sums would wrap, and of sizes at both ends.
func TestFitsGreat(t *testing.T) {
	var greats []uint64
	for _, x := range []uint64{0, 1 << 8, 1 << 31, 1 << 32, 1 << 62, 1 << 63} {
		for d := range uint64(6) {
			greats = append(greats, x+d-3)
		}
	}
	for _, lba := range greats {
		for _, blocks := range greats {
			for _, size := range greats {
				for _, n := range []int{int(size), -int(size)} {
					if got := cdb.Fits(api.Task{Lba: lba, Blocks: blocks}, n); got != within(lba, blocks, n) {
						t.Fatal(lba, blocks, n, got)
					}
				}
			}
		}
	}
	for _, size := range []int{math.MinInt, math.MinInt + 1, -1} {
		if cdb.Fits(api.Task{}, size) || cdb.Fits(api.Task{Lba: 1 << 63, Blocks: 1 << 63}, size) {
			t.Fatal(size)
		}
	}
	if !cdb.Fits(api.Task{Lba: math.MaxInt}, math.MaxInt) || !cdb.Fits(api.Task{Blocks: math.MaxInt}, math.MaxInt) {
		t.Fatal("all of it")
	}
}

// P12.1: Fits looks at Lba and Blocks alone.
func TestFitsAlone(t *testing.T) {
	odd := api.Task{Do: -7, Fua: true, Unmap: true, Action: 99, Scope: -1, Type: 77, Alloc: -5, Length: 1 << 40, Page: -1, Vital: true}
	for _, x := range [][3]int{{0, 0, 0}, {3, 4, 7}, {3, 4, 6}, {8, 0, 7}, {0, 0, -1}} {
		plain := api.Task{Lba: uint64(x[0]), Blocks: uint64(x[1])}
		odd.Lba, odd.Blocks = plain.Lba, plain.Blocks
		if cdb.Fits(odd, x[2]) != cdb.Fits(plain, x[2]) {
			t.Fatal(x)
		}
	}
}

// P0: Decode and Fits end and don't panic, whatever they are given.
func TestWhatever(t *testing.T) {
	few := chance(5)
	for range 200000 {
		var b [16]byte
		for i := range b {
			b[i] = byte(few(256))
		}
		task, code := cdb.Decode(b)
		if code != 0 && task != (api.Task{}) {
			t.Fatalf("%x: %+v beside %x", b, task, code)
		}
		again, other := cdb.Decode(b)
		if again != task || other != code {
			t.Fatalf("%x: told otherwise", b)
		}
		task.Lba, task.Blocks = uint64(few(1<<40))<<few(30), uint64(few(1<<40))<<few(30)
		size := (few(1<<40) - 1<<39) << few(25)
		if cdb.Fits(task, size) != within(task.Lba, task.Blocks, size) {
			t.Fatal(task, size)
		}
	}
}
