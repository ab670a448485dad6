package pdu_test

import (
	"bytes"
	"encoding/binary"
	hashcrc "hash/crc32"
	"math"
	"slices"
	"testing"

	"bulkhead/api"
	"bulkhead/pdu"
)

// chance answers numbers below its argument, the same ones for the same seed.
func chance(seed int) func(n int) int {
	x := uint64(seed)*2654435761 + 12345
	return func(n int) int {
		x ^= x << 13
		x ^= x >> 7
		x ^= x << 17
		return int(x>>8) % n
	}
}

// switches are all choices of digests, of headers and of data.
func switches() [][2]bool {
	return [][2]bool{{false, false}, {true, false}, {false, true}, {true, true}}
}

// someBytes are n bytes by chance.
func someBytes(few func(int) int, n int) []byte {
	b := make([]byte, n)
	for i := range b {
		b[i] = byte(few(256))
	}
	return b
}

// anyPdu is one that may be, with all fields by chance.
func anyPdu(few func(int) int) api.Pdu {
	p := api.Pdu{
		Op:        few(64),
		Immediate: few(2) == 1,
		Flags:     byte(few(256)),
		Spec:      [2]byte{byte(few(256)), byte(few(256))},
		Ahs:       someBytes(few, 4*few(9)*few(2)),
		Lun:       binary.BigEndian.Uint64(someBytes(few, 8)),
		Tag:       uint32(few(1 << 32)),
		Data:      someBytes(few, few(257)*few(2)),
	}
	for i := range p.Words {
		p.Words[i] = uint32(few(1 << 32))
	}
	return p
}

// same tells whether two PDUs are one; an empty list may be nil or not.
func same(p, q api.Pdu) bool {
	return p.Op == q.Op && p.Immediate == q.Immediate && p.Flags == q.Flags && p.Spec == q.Spec &&
		bytes.Equal(p.Ahs, q.Ahs) && p.Lun == q.Lun && p.Tag == q.Tag && p.Words == q.Words && bytes.Equal(p.Data, q.Data)
}

// sumOf are the sum's bytes of b, by another implementation.
func sumOf(b []byte) []byte {
	return binary.LittleEndian.AppendUint32(nil, hashcrc.Checksum(b, hashcrc.MakeTable(hashcrc.Castagnoli)))
}

// told is Encode by the chapter's words, of a PDU that may be.
func told(p api.Pdu, header, data bool) []byte {
	var b bytes.Buffer
	first := byte(p.Op)
	if p.Immediate {
		first += 64
	}
	size := len(p.Data)
	b.Write([]byte{first, p.Flags, p.Spec[0], p.Spec[1], byte(len(p.Ahs) / 4), 0, byte(size / 256), byte(size % 256)})
	binary.Write(&b, binary.BigEndian, p.Lun)
	binary.Write(&b, binary.BigEndian, p.Tag)
	binary.Write(&b, binary.BigEndian, p.Words)
	b.Write(p.Ahs)
	if header {
		b.Write(sumOf(b.Bytes()))
	}
	if size == 0 {
		return b.Bytes()
	}
	d := bytes.Clone(p.Data)
	for len(d)%4 != 0 {
		d = append(d, 0)
	}
	b.Write(d)
	if data {
		b.Write(sumOf(d))
	}
	return b.Bytes()
}

// A teller is a reader by the chapter's words.
type teller struct {
	wait   []byte
	broken bool
}

func (r *teller) feed(s string) {
	if !r.broken {
		r.wait = append(slices.Clip(r.wait), s...)
	}
}

// next is Next: each thing that may be found is asked for in the words' order.
func (r *teller) next(header, data bool) (api.Pdu, int) {
	if r.broken {
		return api.Pdu{}, 3
	}
	b := r.wait
	if len(b) < 48 {
		return api.Pdu{}, 0
	}
	size := int(binary.BigEndian.Uint32(append([]byte{0}, b[5:8]...)))
	if b[0] >= 128 || b[4] > 8 || size > 256 {
		r.wait, r.broken = nil, true
		return api.Pdu{}, 3
	}
	cut := func(n int) ([]byte, bool) {
		if len(b) < n {
			return nil, false
		}
		part := b[:n:n]
		b = b[n:]
		return part, true
	}
	head, ok := cut(48 + 4*int(b[4]))
	if !ok {
		return api.Pdu{}, 0
	}
	if header {
		digest, ok := cut(4)
		if !ok {
			return api.Pdu{}, 0
		}
		if !bytes.Equal(digest, sumOf(head)) {
			r.wait, r.broken = nil, true
			return api.Pdu{}, 3
		}
	}
	body, ok := cut((size + 3) / 4 * 4)
	if !ok {
		return api.Pdu{}, 0
	}
	fits := true
	if data && size > 0 {
		digest, ok := cut(4)
		if !ok {
			return api.Pdu{}, 0
		}
		fits = bytes.Equal(digest, sumOf(body))
	}
	r.wait = b
	p := api.Pdu{
		Op: int(head[0]) % 64, Immediate: head[0] >= 64, Flags: head[1], Spec: [2]byte{head[2], head[3]},
		Ahs: head[48:], Lun: binary.BigEndian.Uint64(head[8:16]), Tag: binary.BigEndian.Uint32(head[16:20]),
	}
	for i := range 7 {
		p.Words[i] = binary.BigEndian.Uint32(head[20+4*i : 24+4*i])
	}
	if !fits {
		return p, 2
	}
	p.Data = body[:size]
	return p, 1
}

// reading is a reader with bytes that wait.
func reading(b []byte) *pdu.Reader {
	r := &pdu.Reader{}
	r.Feed(string(b))
	return r
}

// expect asks a reader for the next PDU, and holds it and what is left against what is told.
func expect(t *testing.T, r *pdu.Reader, on [2]bool, want api.Pdu, found, left int) {
	t.Helper()
	p, f := r.Next(on[0], on[1])
	if f != found || !same(p, want) || r.Left() != left {
		t.Fatalf("digests %v: found %d, %+v, %d bytes left; want %d, %+v, %d", on, f, p, r.Left(), found, want, left)
	}
}

// P14.1: the constants are the chapter's numbers.
func TestConstants(t *testing.T) {
	if got := []int{pdu.MaxAhs, pdu.Nothing, pdu.Whole, pdu.BadData, pdu.Broken}; !slices.Equal(got, []int{32, 0, 1, 2, 3}) {
		t.Fatal(got)
	}
}

// P14.1: the example of the chapter.
func TestExample(t *testing.T) {
	b := pdu.Encode(api.Pdu{Op: api.OpNop, Tag: 5}, false, false)
	want := make([]byte, 48)
	want[19] = 5
	if !bytes.Equal(b, want) {
		t.Fatal(b)
	}
}

// P14.1: what may be, on both sides of each edge; what may not be has no bytes.
func TestMay(t *testing.T) {
	check := func(p api.Pdu, may bool) {
		t.Helper()
		if pdu.May(p) != may {
			t.Fatalf("%d, %d, %d: may it be: %t", p.Op, len(p.Ahs), len(p.Data), !may)
		}
		for _, on := range switches() {
			if b := pdu.Encode(p, on[0], on[1]); (len(b) > 0) != may {
				t.Fatalf("%d, %d, %d: %d bytes", p.Op, len(p.Ahs), len(p.Data), len(b))
			}
		}
	}
	for op := -300; op <= 600; op++ {
		check(api.Pdu{Op: op}, op >= 0 && op <= 63)
	}
	for _, op := range []int{math.MinInt, math.MinInt + 1, -1 << 32, 1 << 32, 1<<32 + 5, math.MaxInt} {
		check(api.Pdu{Op: op}, false)
	}
	for n := range 300 {
		check(api.Pdu{Ahs: make([]byte, n)}, n%4 == 0 && n <= 32)
	}
	check(api.Pdu{Ahs: make([]byte, 1024)}, false)
	check(api.Pdu{Ahs: make([]byte, 4*256)}, false)
	for n := range 600 {
		check(api.Pdu{Data: make([]byte, n)}, n <= 256)
	}
	check(api.Pdu{Data: make([]byte, 1<<16)}, false)
	check(api.Pdu{Data: make([]byte, 1<<24)}, false)
	check(api.Pdu{Op: 63, Ahs: make([]byte, 32), Data: make([]byte, 256)}, true)
	check(api.Pdu{Op: 64, Ahs: make([]byte, 32), Data: make([]byte, 256)}, false)
	check(api.Pdu{Op: 63, Ahs: make([]byte, 33), Data: make([]byte, 256)}, false)
	check(api.Pdu{Op: 63, Ahs: make([]byte, 32), Data: make([]byte, 257)}, false)
	check(api.Pdu{Immediate: true, Flags: 255, Spec: [2]byte{255, 255}, Lun: math.MaxUint64, Tag: math.MaxUint32, Words: [7]uint32{math.MaxUint32}}, true)
}

// P14.1: each field stands where the words have it, each bit of it, and nothing else is touched.
func TestFieldsPlaces(t *testing.T) {
	check := func(p api.Pdu, at int, b byte) {
		t.Helper()
		want := make([]byte, 48)
		want[at] = b
		if got := pdu.Encode(p, false, false); !bytes.Equal(got, want) {
			t.Fatalf("%+v: %x", p, got)
		}
		expect(t, reading(want), [2]bool{}, p, pdu.Whole, 0)
	}
	check(api.Pdu{Immediate: true}, 0, 0x40)
	check(api.Pdu{Op: 0x3F}, 0, 0x3F)
	check(api.Pdu{Op: 0x25, Immediate: true}, 0, 0x65)
	for i := range 6 {
		check(api.Pdu{Op: 1 << i}, 0, 1<<i)
	}
	for i := range 8 {
		check(api.Pdu{Flags: 1 << i}, 1, 1<<i)
		check(api.Pdu{Spec: [2]byte{1 << i}}, 2, 1<<i)
		check(api.Pdu{Spec: [2]byte{1: 1 << i}}, 3, 1<<i)
	}
	for i := range 64 {
		check(api.Pdu{Lun: 1 << i}, 15-i/8, 1<<(i%8))
	}
	for i := range 32 {
		check(api.Pdu{Tag: 1 << i}, 19-i/8, 1<<(i%8))
		for w := range 7 {
			var words [7]uint32
			words[w] = 1 << i
			check(api.Pdu{Words: words}, 23+4*w-i/8, 1<<(i%8))
		}
	}
}

// P14.1: a PDU of all kinds of parts, byte by byte, with each choice of digests.
func TestBytes(t *testing.T) {
	p := api.Pdu{
		Op: 5, Immediate: true, Flags: 0x81, Spec: [2]byte{0xA1, 0xA2}, Ahs: []byte("ahs8 ..."),
		Lun: 0xB1B2B3B4B5B6B7B8, Tag: 0xC1C2C3C4, Words: [7]uint32{0xD1D2D3D4, 1, 2, 3, 4, 5, 0xE1E2E3E4}, Data: []byte("data!"),
	}
	head := "\x45\x81\xA1\xA2\x02\x00\x00\x05\xB1\xB2\xB3\xB4\xB5\xB6\xB7\xB8\xC1\xC2\xC3\xC4\xD1\xD2\xD3\xD4" +
		"\x00\x00\x00\x01\x00\x00\x00\x02\x00\x00\x00\x03\x00\x00\x00\x04\x00\x00\x00\x05\xE1\xE2\xE3\xE4ahs8 ..."
	body := "data!\x00\x00\x00"
	headSum, bodySum := string(sumOf([]byte(head))), string(sumOf([]byte(body)))
	for _, x := range []struct {
		on   [2]bool
		want string
	}{
		{[2]bool{false, false}, head + body},
		{[2]bool{true, false}, head + headSum + body},
		{[2]bool{false, true}, head + body + bodySum},
		{[2]bool{true, true}, head + headSum + body + bodySum},
	} {
		if got := pdu.Encode(p, x.on[0], x.on[1]); string(got) != x.want {
			t.Errorf("digests %v: %q, want %q", x.on, got, x.want)
		}
		expect(t, reading([]byte(x.want)), x.on, p, pdu.Whole, 0)
	}
}

// P14.1: a digest that is known from elsewhere stands with its lowest byte first.
func TestKnownDigest(t *testing.T) {
	zeros := make([]byte, 32)
	b := pdu.Encode(api.Pdu{Data: zeros}, false, true)
	if got := b[len(b)-4:]; !bytes.Equal(got, []byte{0xAA, 0x36, 0x91, 0x8A}) {
		t.Fatalf("%x", got)
	}
}

// P14.1: where there is no data there is no digest of it, nor is one waited for.
func TestNoData(t *testing.T) {
	for _, ahs := range []int{0, 4, 32} {
		p := api.Pdu{Op: 1, Ahs: someBytes(chance(ahs), ahs)}
		for _, data := range []bool{false, true} {
			if n := len(pdu.Encode(p, false, data)); n != 48+ahs {
				t.Fatal(n)
			}
			b := pdu.Encode(p, true, data)
			if len(b) != 52+ahs {
				t.Fatal(len(b))
			}
			expect(t, reading(b), [2]bool{true, data}, p, pdu.Whole, 0)
		}
	}
}

// P14.1 and P14.2: each length of data and of additional headers, there and back.
func TestLengths(t *testing.T) {
	few := chance(1)
	for _, on := range switches() {
		for size := range 257 {
			for ahs := 0; ahs <= 32; ahs += 4 {
				if size > 10 && size < 250 && ahs != 4*(size%9) {
					continue
				}
				p := anyPdu(few)
				p.Ahs, p.Data = someBytes(few, ahs), someBytes(few, size)
				b := pdu.Encode(p, on[0], on[1])
				if !bytes.Equal(b, told(p, on[0], on[1])) {
					t.Fatalf("%d, %d, %v: %x", size, ahs, on, b)
				}
				expect(t, reading(b), on, p, pdu.Whole, 0)
			}
		}
	}
}

// P14.2: what is encoded is read as it was, many behind one another, in whatever pieces.
func TestThereAndBack(t *testing.T) {
	few := chance(2)
	for range 300 {
		on := switches()[few(4)]
		var all []byte
		var sent []api.Pdu
		for range 1 + few(8) {
			p := anyPdu(few)
			sent = append(sent, p)
			all = append(all, pdu.Encode(p, on[0], on[1])...)
		}
		r := &pdu.Reader{}
		for len(all) > 0 {
			n := min(1+few(200), len(all))
			r.Feed(string(all[:n]))
			all = all[n:]
			for {
				p, found := r.Next(on[0], on[1])
				if found == pdu.Nothing {
					break
				}
				if found != pdu.Whole || len(sent) == 0 || !same(p, sent[0]) {
					t.Fatal(found, p)
				}
				sent = sent[1:]
			}
		}
		if len(sent) != 0 || r.Left() != 0 {
			t.Fatal(len(sent), r.Left())
		}
	}
}

// P14.1: digests may be on for one PDU and off for the next.
func TestSwitched(t *testing.T) {
	few := chance(3)
	for range 200 {
		r := &pdu.Reader{}
		var sent []api.Pdu
		var how [][2]bool
		for range 6 {
			p, on := anyPdu(few), switches()[few(4)]
			sent, how = append(sent, p), append(how, on)
			r.Feed(string(pdu.Encode(p, on[0], on[1])))
		}
		for i, p := range sent {
			if q, found := r.Next(how[i][0], how[i][1]); found != pdu.Whole || !same(p, q) {
				t.Fatal(found, q)
			}
		}
	}
}

// P14.1: of each piece of a PDU that is less than the whole: Nothing, and all of it waits on.
func TestPieces(t *testing.T) {
	few := chance(4)
	for range 40 {
		p, on := anyPdu(few), switches()[few(4)]
		b := pdu.Encode(p, on[0], on[1])
		r := &pdu.Reader{}
		for n := range b {
			expect(t, r, on, api.Pdu{}, pdu.Nothing, n)
			expect(t, r, on, api.Pdu{}, pdu.Nothing, n)
			expect(t, reading(b[:n]), on, api.Pdu{}, pdu.Nothing, n)
			r.Feed(string(b[n : n+1]))
		}
		expect(t, r, on, p, pdu.Whole, 0)
		expect(t, r, on, api.Pdu{}, pdu.Nothing, 0)
	}
}

// P14.1: what is behind a PDU waits, and is no part of it.
func TestBehind(t *testing.T) {
	few := chance(5)
	for range 100 {
		p, on := anyPdu(few), switches()[few(4)]
		b := pdu.Encode(p, on[0], on[1])
		rest := someBytes(few, few(47))
		r := reading(append(b, rest...))
		expect(t, r, on, p, pdu.Whole, len(rest))
		expect(t, r, on, api.Pdu{}, pdu.Nothing, len(rest))
	}
}

// P14.1: a first byte's highest bit breaks a reader, when 48 bytes are there, and no sooner.
func TestStrangeFirst(t *testing.T) {
	for first := range 256 {
		for _, on := range switches() {
			b := make([]byte, 48)
			b[0] = byte(first)
			r := reading(b[:47])
			expect(t, r, on, api.Pdu{}, pdu.Nothing, 47)
			r.Feed("\x00")
			switch {
			case first >= 128:
				expect(t, r, on, api.Pdu{}, pdu.Broken, 0)
			case on[0]:
				expect(t, r, on, api.Pdu{}, pdu.Nothing, 48)
			default:
				expect(t, r, on, api.Pdu{Op: first % 64, Immediate: first >= 64}, pdu.Whole, 0)
			}
		}
	}
}

// P14.1: more than eight fours of additional headers break a reader at once.
func TestManyFours(t *testing.T) {
	for fours := range 256 {
		for _, on := range switches() {
			b := make([]byte, 48+4*fours)
			b[4] = byte(fours)
			if on[0] {
				b = append(b, sumOf(b)...)
			}
			r := reading(b[:47])
			expect(t, r, on, api.Pdu{}, pdu.Nothing, 47)
			r.Feed(string(b[47:48]))
			if fours > 8 {
				expect(t, r, on, api.Pdu{}, pdu.Broken, 0)
				expect(t, reading(b), on, api.Pdu{}, pdu.Broken, 0)
				continue
			}
			if len(b) > 48 {
				expect(t, r, on, api.Pdu{}, pdu.Nothing, 48)
			}
			r.Feed(string(b[48:]))
			expect(t, r, on, api.Pdu{Ahs: make([]byte, 4*fours)}, pdu.Whole, 0)
		}
	}
}

// P14.1: more than 256 bytes of data, the sixth byte counting too, break a reader at once.
func TestMuchData(t *testing.T) {
	for _, size := range []int{0, 1, 255, 256, 257, 258, 511, 512, 1 << 15, 1<<16 - 1, 1 << 16, 1<<16 + 1, 1<<16 + 256, 1 << 23, 1<<24 - 1} {
		for _, on := range switches() {
			b := make([]byte, 48)
			b[5], b[6], b[7] = byte(size>>16), byte(size>>8), byte(size)
			if size > 256 {
				expect(t, reading(b[:47]), on, api.Pdu{}, pdu.Nothing, 47)
				expect(t, reading(b), on, api.Pdu{}, pdu.Broken, 0)
				continue
			}
			if on[0] {
				b = append(b, sumOf(b)...)
			}
			body := make([]byte, (size+3)/4*4)
			b = append(b, body...)
			if on[1] && size > 0 {
				b = append(b, sumOf(body)...)
			}
			expect(t, reading(b), on, api.Pdu{Data: make([]byte, size)}, pdu.Whole, 0)
		}
	}
	for i := range 8 {
		b := make([]byte, 1<<17)
		b[5] = 1 << i
		expect(t, reading(b), [2]bool{}, api.Pdu{}, pdu.Broken, 0)
	}
}

// P14.1: a header's digest that is wrong breaks a reader as soon as it is there, whatever of the data is.
func TestWrongHeaderDigest(t *testing.T) {
	few := chance(6)
	for range 30 {
		p := anyPdu(few)
		good := pdu.Encode(p, true, true)
		head := 48 + len(p.Ahs) + 4
		for i := head - 4; i < head; i++ {
			b := bytes.Clone(good)
			b[i] ^= byte(1 + few(255))
			for _, data := range []bool{false, true} {
				r := reading(b[:head-1])
				expect(t, r, [2]bool{true, data}, api.Pdu{}, pdu.Nothing, head-1)
				r.Feed(string(b[head-1 : head]))
				expect(t, r, [2]bool{true, data}, api.Pdu{}, pdu.Broken, 0)
				expect(t, reading(b), [2]bool{true, data}, api.Pdu{}, pdu.Broken, 0)
			}
		}
		sum := bytes.Clone(good)
		slices.Reverse(sum[head-4 : head])
		if !bytes.Equal(sum, good) {
			expect(t, reading(sum), [2]bool{true, true}, api.Pdu{}, pdu.Broken, 0)
		}
	}
}

// P14.1: a digest of data that is wrong: the headers are told, the bytes are taken, and the next PDU is read.
func TestWrongDataDigest(t *testing.T) {
	few := chance(7)
	for range 60 {
		p, next := anyPdu(few), anyPdu(few)
		p.Data = someBytes(few, 1+few(256))
		bare := p
		bare.Data = nil
		for _, header := range []bool{false, true} {
			on := [2]bool{header, true}
			b := pdu.Encode(p, header, true)
			after := pdu.Encode(next, header, true)
			b[len(b)-1-few(4)] ^= byte(1 + few(255))
			r := reading(b[:len(b)-1])
			expect(t, r, on, api.Pdu{}, pdu.Nothing, len(b)-1)
			r.Feed(string(b[len(b)-1:]) + string(after))
			expect(t, r, on, bare, pdu.BadData, len(after))
			expect(t, r, on, next, pdu.Whole, 0)
		}
	}
}

// P14.1: bytes in place of zeros play no part but in the sum.
func TestOtherThanZeros(t *testing.T) {
	few := chance(8)
	for size := 1; size <= 256; size++ {
		p := api.Pdu{Op: 1, Data: someBytes(few, size)}
		if size%4 == 0 {
			continue
		}
		for _, header := range []bool{false, true} {
			b := pdu.Encode(p, header, false)
			b[len(b)-1] = byte(1 + few(255))
			expect(t, reading(b), [2]bool{header, false}, p, pdu.Whole, 0)
			body := b[len(b)-(size+3)/4*4:]
			right := append(bytes.Clone(b), sumOf(body)...)
			expect(t, reading(right), [2]bool{header, true}, p, pdu.Whole, 0)
			body = bytes.Clone(body)
			body[len(body)-1] = 0
			ofZeros := append(bytes.Clone(b), sumOf(body)...)
			expect(t, reading(ofZeros), [2]bool{header, true}, api.Pdu{Op: 1}, pdu.BadData, 0)
			ofData := append(bytes.Clone(b), sumOf(p.Data)...)
			expect(t, reading(ofData), [2]bool{header, true}, api.Pdu{Op: 1}, pdu.BadData, 0)
		}
	}
}

// P14.1: behind Broken nothing waits any more, and nothing is taken, with whatever digests.
func TestBrokenForGood(t *testing.T) {
	good := string(pdu.Encode(api.Pdu{Op: 1}, false, false))
	wrongSum := string(make([]byte, 52))
	for i, bad := range []string{"\x80" + good, good[:4] + "\x09" + good, good[:6] + "\x02" + good, wrongSum} {
		on := [2]bool{i == 3, false}
		r := reading([]byte(bad + good))
		expect(t, r, on, api.Pdu{}, pdu.Broken, 0)
		for _, on := range switches() {
			expect(t, r, on, api.Pdu{}, pdu.Broken, 0)
			r.Feed(good)
			if r.Left() != 0 {
				t.Fatal(r.Left())
			}
			expect(t, r, on, api.Pdu{}, pdu.Broken, 0)
			r.Feed("")
		}
	}
	r := reading([]byte(good + "\x80" + good))
	expect(t, r, [2]bool{}, api.Pdu{Op: 1}, pdu.Whole, 49)
	expect(t, r, [2]bool{}, api.Pdu{}, pdu.Broken, 0)
}

// P14.1: Left is what was fed less what was taken.
func TestLeft(t *testing.T) {
	r := &pdu.Reader{}
	if r.Left() != 0 {
		t.Fatal(r.Left())
	}
	all := 0
	for _, n := range []int{0, 1, 30, 0, 17, 48, 96} {
		r.Feed(string(make([]byte, n)))
		all += n
		if r.Left() != all {
			t.Fatal(r.Left(), all)
		}
	}
	for ; all >= 48; all -= 48 {
		expect(t, r, [2]bool{}, api.Pdu{}, pdu.Whole, all-48)
	}
	expect(t, r, [2]bool{}, api.Pdu{}, pdu.Nothing, 0)
}

// P14.1: a nil reader.
func TestNilReader(t *testing.T) {
	var r *pdu.Reader
	for _, on := range switches() {
		expect(t, r, on, api.Pdu{}, pdu.Broken, 0)
		r.Feed(string(make([]byte, 48)))
		expect(t, r, on, api.Pdu{}, pdu.Broken, 0)
	}
}

// turned are b's bytes with one bit turned.
func turned(b []byte, bit int) []byte {
	b = bytes.Clone(b)
	b[bit/8] ^= 1 << (bit % 8)
	return b
}

// checkTurned holds what a reader finds, both digests on, of a PDU in which that bit is turned, with tail behind it.
func checkTurned(t *testing.T, p api.Pdu, good []byte, bit int, tail []byte) {
	t.Helper()
	b := append(turned(good, bit), tail...)
	r := reading(b)
	bare := p
	bare.Data = nil
	head := 48 + len(p.Ahs) + 4
	fours := int(b[4])
	switch end := 48 + 4*fours; {
	case bit/8 >= head:
		expect(t, r, [2]bool{true, true}, bare, pdu.BadData, len(tail))
	case bit/8 != 4 || fours > 8:
		expect(t, r, [2]bool{true, true}, api.Pdu{}, pdu.Broken, 0)
	case len(b) < end+4:
		expect(t, r, [2]bool{true, true}, api.Pdu{}, pdu.Nothing, len(b))
	case bytes.Equal(sumOf(b[:end]), b[end:end+4]):
		t.Log("the one case that isn't told was met by chance")
	default:
		expect(t, r, [2]bool{true, true}, api.Pdu{}, pdu.Broken, 0)
	}
}

// P14.3: each bit that is turned is told, whatever stands behind.
func TestTurnedBits(t *testing.T) {
	few := chance(9)
	for i := range 60 {
		p := anyPdu(few)
		switch i {
		case 0:
			p.Ahs, p.Data = nil, nil
		case 1:
			p.Ahs, p.Data = someBytes(few, 32), someBytes(few, 256)
		case 2:
			p = api.Pdu{}
		case 3:
			p = api.Pdu{Ahs: make([]byte, 4), Data: make([]byte, 4)}
		}
		good := pdu.Encode(p, true, true)
		for bit := range 8 * len(good) {
			for _, tail := range [][]byte{nil, make([]byte, 400), good, someBytes(few, few(400))} {
				checkTurned(t, p, good, bit, tail)
			}
		}
	}
}

// P14.3: with digests of one kind alone, each bit of what they are of is told.
func TestTurnedBitsOneKind(t *testing.T) {
	few := chance(10)
	for range 20 {
		p := anyPdu(few)
		bare := p
		bare.Data = nil
		head := 48 + len(p.Ahs)
		b := pdu.Encode(p, false, true)
		for bit := 8 * head; bit < 8*len(b); bit++ {
			expect(t, reading(turned(b, bit)), [2]bool{false, true}, bare, pdu.BadData, 0)
		}
		b = pdu.Encode(p, true, false)
		for bit := range 8 * (head + 4) {
			if _, found := reading(turned(b, bit)).Next(true, false); found != pdu.Broken && (found != pdu.Nothing || bit/8 != 4) {
				t.Fatal(bit, found)
			}
		}
	}
}

// P14.3: the one case that isn't told: where the digest is looked for then, the sum of what is ahead stands.
func TestNotTold(t *testing.T) {
	short := api.Pdu{Op: 1, Tag: 7, Words: [7]uint32{9}}
	p := short
	p.Ahs = sumOf(pdu.Encode(short, false, false))
	b := pdu.Encode(p, true, true)
	b[4] ^= 1
	expect(t, reading(b), [2]bool{true, true}, short, pdu.Whole, 4)

	long := api.Pdu{Op: 1, Tag: 8, Data: make([]byte, 4)}
	bare := pdu.Encode(long, true, false)[:52]
	bare[4] ^= 1
	long.Data = sumOf(bare)
	b = pdu.Encode(long, true, false)
	b[4] ^= 1
	r := reading(b)
	expect(t, r, [2]bool{true, false}, api.Pdu{}, pdu.Nothing, 56)
	r.Feed("next")
	expect(t, r, [2]bool{true, false}, api.Pdu{Op: 1, Tag: 8, Ahs: bare[48:], Data: []byte("next")}, pdu.Whole, 0)
}

// stream is bytes of all kinds: good PDUs, such with a bit turned or with bytes in place of zeros, headers at edges, whatever.
func stream(few func(int) int, on [2]bool) []byte {
	var all []byte
	for range 1 + few(5) {
		if few(12) == 0 {
			on = switches()[few(4)]
		}
		b := pdu.Encode(anyPdu(few), on[0], on[1])
		switch few(8) {
		case 0:
			b = turned(b, few(8*len(b)))
		case 1:
			b = turned(b, 8*(len(b)-1))
		case 2:
			b = b[:few(len(b))]
		case 3:
			b[4+few(4)] = byte(few(10))
		case 4:
			b = someBytes(few, few(300))
		}
		all = append(all, b...)
	}
	return all
}

// P14.1, P14.3 and P0: whatever comes, in whatever pieces, with digests switched at whatever time: by the words.
func TestWhatever(t *testing.T) {
	few := chance(11)
	found := [4]int{}
	for range 6000 {
		r, words := &pdu.Reader{}, &teller{}
		on := switches()[few(4)]
		for rest := stream(few, on); len(rest) > 0; {
			n := min(few(150), len(rest))
			r.Feed(string(rest[:n]))
			words.feed(string(rest[:n]))
			rest = rest[n:]
			for range few(4) {
				if few(40) == 0 {
					on = switches()[few(4)]
				}
				p, f := words.next(on[0], on[1])
				expect(t, r, on, p, f, len(words.wait))
				found[f]++
			}
		}
	}
	if slices.Min(found[:]) < 300 {
		t.Fatal(found)
	}
}

// An event is what a reader found, and how much was left then of all that came.
type event struct {
	pdu   string
	found int
	taken int
}

// events are what a reader finds of bytes that come in such pieces.
func events(pieces [][]byte, on [2]bool) []event {
	r := &pdu.Reader{}
	var out []event
	come := 0
	for _, piece := range pieces {
		r.Feed(string(piece))
		come += len(piece)
		for {
			p, f := r.Next(on[0], on[1])
			if f == pdu.Nothing {
				break
			}
			if f == pdu.Broken {
				return append(out, event{found: f})
			}
			out = append(out, event{string(pdu.Encode(p, false, false)), f, come - r.Left()})
		}
	}
	return out
}

// P14.1: however bytes are cut, the same is found.
func TestHoweverCut(t *testing.T) {
	few := chance(12)
	for range 150 {
		on := switches()[few(4)]
		all := stream(few, on)
		whole := events([][]byte{all}, on)
		var bits [][]byte
		for i := range all {
			bits = append(bits, all[i:i+1])
			if !slices.Equal(events([][]byte{all[:i], all[i:]}, on), whole) {
				t.Fatalf("cut at %d of %x", i, all)
			}
		}
		if !slices.Equal(events(bits, on), whole) {
			t.Fatalf("byte by byte of %x", all)
		}
		for range 20 {
			var pieces [][]byte
			for rest := all; len(rest) > 0; {
				n := min(few(120), len(rest))
				pieces = append(pieces, rest[:n])
				rest = rest[n:]
			}
			if !slices.Equal(events(pieces, on), whole) {
				t.Fatalf("pieces of %x", all)
			}
		}
	}
}

// P14.1: nothing that is handed in is changed, nor the room behind it; what is answered is new memory.
func TestArgumentsStay(t *testing.T) {
	few := chance(13)
	for _, on := range switches() {
		ahs, data := someBytes(few, 64), someBytes(few, 300)
		p := api.Pdu{Op: 1, Ahs: ahs[:8], Data: data[:45]}
		oldAhs, oldData := bytes.Clone(ahs), bytes.Clone(data)
		b := pdu.Encode(p, on[0], on[1])
		pdu.May(p)
		kept := bytes.Clone(b)
		clear(b[:cap(b)])
		if !bytes.Equal(ahs, oldAhs) || !bytes.Equal(data, oldData) {
			t.Fatal("what was handed in was changed")
		}
		if !bytes.Equal(pdu.Encode(p, on[0], on[1]), kept) {
			t.Fatal("told otherwise")
		}
	}
}

// P14.1: what a reader answers shares nothing with what waits, nor with other answers.
func TestAnswersAreNew(t *testing.T) {
	few := chance(14)
	for _, on := range switches() {
		var sent, got []api.Pdu
		r := &pdu.Reader{}
		for range 5 {
			p := anyPdu(few)
			p.Ahs, p.Data = someBytes(few, 8), someBytes(few, 45)
			sent = append(sent, p)
			r.Feed(string(pdu.Encode(p, on[0], on[1])))
		}
		for _, want := range sent {
			p, found := r.Next(on[0], on[1])
			if found != pdu.Whole || !same(p, want) {
				t.Fatal(found, p)
			}
			got = append(got, p)
			clear(p.Ahs[:cap(p.Ahs)])
			if !bytes.Equal(p.Data, want.Data) {
				t.Fatal("headers and data share memory")
			}
			clear(p.Data[:cap(p.Data)])
			r.Feed("more that waits")
		}
		for _, p := range got {
			if slices.Max(p.Ahs) != 0 || slices.Max(p.Data) != 0 {
				t.Fatal("an answer was changed by what came behind it")
			}
		}
	}
}

// P14.1: two readers are two; a call answers by its own.
func TestTwoReaders(t *testing.T) {
	a, b := &pdu.Reader{}, &pdu.Reader{}
	p, q := api.Pdu{Op: 1, Data: []byte("first")}, api.Pdu{Op: 2, Data: []byte("second")}
	a.Feed(string(pdu.Encode(p, false, false)))
	b.Feed(string(pdu.Encode(q, false, false)))
	expect(t, a, [2]bool{}, p, pdu.Whole, 0)
	expect(t, b, [2]bool{}, q, pdu.Whole, 0)
	a.Feed("\x80" + string(make([]byte, 47)))
	expect(t, a, [2]bool{}, api.Pdu{}, pdu.Broken, 0)
	expect(t, b, [2]bool{}, api.Pdu{}, pdu.Nothing, 0)
}

// P0: much that comes at once, and many pieces that wait, are gone through in time.
func TestMuch(t *testing.T) {
	one := pdu.Encode(api.Pdu{Op: 1, Tag: 3}, false, false)
	const many = 1 << 17
	r := reading(bytes.Repeat(one, many))
	for i := range many {
		if p, found := r.Next(false, false); found != pdu.Whole || p.Tag != 3 || r.Left() != len(one)*(many-1-i) {
			t.Fatal(i, found)
		}
	}
	for i := range 1 << 21 {
		r.Feed(string(one[i%48 : i%48+1]))
	}
	if r.Left() != 1<<21 {
		t.Fatal(r.Left())
	}
	for range 1 << 21 / 48 {
		if p, found := r.Next(false, false); found != pdu.Whole || p.Tag != 3 {
			t.Fatal(found)
		}
	}
	expect(t, r, [2]bool{}, api.Pdu{}, pdu.Nothing, 1<<21%48)
}
