package sha_test

import (
	"bytes"
	"crypto/sha256"
	"encoding/hex"
	"strings"
	"testing"

	"bulkhead/sha"
)

// mixed is n bytes of all values, by a rule of its own for each seed.
func mixed(n int, seed uint32) []byte {
	b := make([]byte, n)
	x := seed*2654435761 + 1
	for i := range b {
		x = x*1664525 + 1013904223
		b[i] = byte(x >> 24)
	}
	return b
}

// inParts is the digest of b, written in parts that end at those places.
func inParts(b []byte, ends ...int) [32]byte {
	h := sha.New()
	from := 0
	for _, to := range ends {
		h.Write(b[from:to])
		from = to
	}
	h.Write(b[from:])
	return h.Sum()
}

// P1.1: digests that are known from elsewhere.
func TestKnownDigests(t *testing.T) {
	known := []struct{ text, digest string }{
		{"", "e3b0c44298fc1c149afbf4c8996fb92427ae41e4649b934ca495991b7852b855"},
		{"a", "ca978112ca1bbdcafac231b39a23dc4da786eff8147c4e72b9807785afee48bb"},
		{"abc", "ba7816bf8f01cfea414140de5dae2223b00361a396177a9cb410ff61f20015ad"},
		{"\xbd", "68325720aabd7c82f30f554b313d0570c95accbb7dc4b5aae11204c08ffe732b"},
		{"abcdbcdecdefdefgefghfghighijhijkijkljklmklmnlmnomnopnopq", "248d6a61d20638b8e5c026930c3e6039a33ce45964ff2167f6ecedd419db06c1"},
		{"abcdefghbcdefghicdefghijdefghijkefghijklfghijklmghijklmnhijklmnoijklmnopjklmnopqklmnopqrlmnopqrsmnopqrstnopqrstu", "cf5b16a778af8380036ce59e7b0492370b249b11e8f07a51afac45037afee9d1"},
		{strings.Repeat("a", 1000000), "cdc76e5c9914fb9281a1c7e284d73e67f1809a48a497200e046d39ccc7112cd0"},
		{strings.Repeat("\x00", 64), "f5a5fd42d16a20302798ef6ed309979b43003d2320d9f0e8ea9831a92759fb4b"},
	}
	for _, k := range known {
		d := sha.Sum([]byte(k.text))
		if got := hex.EncodeToString(d[:]); got != k.digest {
			t.Errorf("Sum of %d bytes: %s, want %s", len(k.text), got, k.digest)
		}
		h := sha.New()
		h.Write([]byte(k.text))
		if h.Sum() != d {
			t.Errorf("%d bytes: the method tells another digest than the function", len(k.text))
		}
	}
}

// P1.1: the empty text, however it is told.
func TestEmpty(t *testing.T) {
	want := sha256.Sum256(nil)
	if sha.Sum(nil) != want || sha.Sum([]byte{}) != want || sha.Sum([]byte("abc")[:0]) != want {
		t.Error("Sum of the empty text")
	}
	h := sha.New()
	if h.Sum() != want {
		t.Error("a hash that nothing was written to")
	}
	h.Write(nil)
	h.Write([]byte{})
	if h.Sum() != want {
		t.Error("a hash that empty parts were written to")
	}
}

// P1.1: every length around blocks, and around 56 divided by 64, several blocks far.
func TestEveryLength(t *testing.T) {
	for n := range 700 {
		for _, b := range [][]byte{mixed(n, 1), mixed(n, 2), bytes.Repeat([]byte{0}, n), bytes.Repeat([]byte{0x80}, n), bytes.Repeat([]byte{0xff}, n)} {
			want := sha256.Sum256(b)
			if sha.Sum(b) != want {
				t.Fatalf("Sum of %d bytes", n)
			}
			if inParts(b) != want {
				t.Fatalf("method Sum of %d bytes", n)
			}
		}
	}
}

// P1.1: lengths whose count of bits takes two, three and four bytes.
func TestLongTexts(t *testing.T) {
	long := mixed(1<<21+70, 3)
	for _, n := range []int{1 << 13, 1<<13 - 1, 8183, 8184, 1 << 16, 1<<16 + 63, 1 << 20, 1 << 21, 1<<21 + 55, 1<<21 + 56, len(long)} {
		if sha.Sum(long[:n]) != sha256.Sum256(long[:n]) {
			t.Errorf("Sum of %d bytes", n)
		}
	}
}

// P1.1 and P1.2: from 2^29 bytes on, the count of bits takes more than 32 bits.
func TestCountBeyond32Bits(t *testing.T) {
	if testing.Short() {
		t.Skip("half a GiB of bytes")
	}
	t.Parallel()
	h, want := sha.New(), sha256.New()
	part := mixed(1<<20, 4)
	for range 1 << 9 {
		h.Write(part)
		want.Write(part)
	}
	if d := h.Sum(); !bytes.Equal(d[:], want.Sum(nil)) {
		t.Error("2^29 bytes")
	}
	h.Write(part[:61])
	want.Write(part[:61])
	if d := h.Sum(); !bytes.Equal(d[:], want.Sum(nil)) {
		t.Error("2^29 + 61 bytes")
	}
}

// P1.1: each value of a byte, and each bit of a block, counts.
func TestEveryByteAndBit(t *testing.T) {
	for x := range 256 {
		b := []byte{byte(x)}
		if sha.Sum(b) != sha256.Sum256(b) {
			t.Errorf("Sum of the byte %d", x)
		}
	}
	for bit := range 8 * 64 {
		b := make([]byte, 64)
		b[bit/8] = 1 << (bit % 8)
		if sha.Sum(b) != sha256.Sum256(b) {
			t.Errorf("Sum of a block with bit %d", bit)
		}
	}
}

// P1.2: two parts, cut anywhere.
func TestTwoParts(t *testing.T) {
	for n := range 200 {
		b := mixed(n, 5)
		want := sha256.Sum256(b)
		for cut := range n + 1 {
			if inParts(b, cut) != want {
				t.Fatalf("%d bytes, cut at %d", n, cut)
			}
		}
	}
}

// P1.2: three parts, cut around the blocks; some of them empty.
func TestThreeParts(t *testing.T) {
	b := mixed(260, 6)
	want := sha256.Sum256(b)
	for first := range len(b) + 1 {
		for _, second := range []int{first, 55, 56, 63, 64, 65, 119, 120, 127, 128, 129, 191, 192, 193, 256, len(b)} {
			if second >= first && inParts(b, first, second) != want {
				t.Fatalf("cut at %d and %d", first, second)
			}
		}
	}
}

// P1.2: parts of one size each, from one byte to several blocks, with empty ones between.
func TestPartsOfEachSize(t *testing.T) {
	b := mixed(1500, 7)
	want := sha256.Sum256(b)
	for size := 1; size <= 300; size++ {
		h := sha.New()
		for from := 0; from < len(b); from += size {
			h.Write(nil)
			h.Write(b[from:min(len(b), from+size)])
			h.Write([]byte{})
		}
		if h.Sum() != want {
			t.Fatalf("parts of %d bytes", size)
		}
	}
}

// P1.2: parts of unlike sizes, some of them empty.
func TestPartsOfUnlikeSizes(t *testing.T) {
	b := mixed(5000, 8)
	want := sha256.Sum256(b)
	for seed := range uint32(200) {
		h := sha.New()
		rest := b
		for _, x := range mixed(len(b), 100+seed) {
			n := min(len(rest), int(x)%int(seed+1))
			h.Write(rest[:n])
			rest = rest[n:]
		}
		h.Write(rest)
		if h.Sum() != want {
			t.Fatalf("parts by seed %d", seed)
		}
	}
}

// P1.2: the digest may be asked at any time, and as often as one likes; more may be written behind it.
func TestSumThenMore(t *testing.T) {
	b := mixed(400, 9)
	for _, size := range []int{1, 7, 55, 56, 57, 63, 64, 65, 128} {
		h := sha.New()
		for from := 0; from < len(b); from += size {
			if h.Sum() != sha256.Sum256(b[:from]) {
				t.Fatalf("parts of %d bytes: Sum behind %d bytes", size, from)
			}
			if h.Sum() != h.Sum() {
				t.Fatalf("parts of %d bytes: Sum told twice behind %d bytes", size, from)
			}
			h.Write(b[from:min(len(b), from+size)])
		}
		if h.Sum() != sha256.Sum256(b) {
			t.Fatalf("parts of %d bytes: Sum of all", size)
		}
	}
}

// P1.2: two hashes that are written to by turns, and the function between, have nothing in common.
func TestTwoHashesByTurns(t *testing.T) {
	b, c := mixed(900, 10), mixed(900, 11)
	for _, size := range []int{1, 13, 64, 100} {
		g, h := sha.New(), sha.New()
		for from := 0; from < len(b); from += size {
			to := min(len(b), from+size)
			g.Write(b[from:to])
			sha.Sum(c[:from])
			h.Write(c[from:to])
			if g.Sum() != sha256.Sum256(b[:to]) || h.Sum() != sha256.Sum256(c[:to]) {
				t.Fatalf("parts of %d bytes: behind %d bytes", size, to)
			}
		}
		if sha.New().Sum() != sha256.Sum256(nil) {
			t.Fatal("a new hash has something of others")
		}
	}
}

// Rule 4: what is handed in is neither changed, nor the room behind it.
func TestHandedInIsNotChanged(t *testing.T) {
	for n := range 200 {
		whole := mixed(400, 12)
		b := whole[:n]
		sha.Sum(b)
		h := sha.New()
		h.Write(b)
		h.Sum()
		h.Write(b)
		h.Sum()
		if !bytes.Equal(whole, mixed(400, 12)) {
			t.Fatalf("%d bytes were handed in, and they or what lies behind them changed", n)
		}
	}
}

// Rule 4: what is handed in isn't kept: it may be used for something else.
func TestHandedInIsNotKept(t *testing.T) {
	for _, size := range []int{1, 10, 63, 64, 65, 200} {
		b := mixed(1000, 13)
		h := sha.New()
		room := make([]byte, size)
		for from := 0; from < len(b); from += size {
			n := copy(room, b[from:])
			h.Write(room[:n])
			clear(room)
		}
		if h.Sum() != sha256.Sum256(b) {
			t.Fatalf("parts of %d bytes, each in the same room", size)
		}
	}
}

// P0: a nil hash takes bytes as if they had not come, and its digest is zeros.
func TestNilHash(t *testing.T) {
	var h *sha.Hash
	if h.Sum() != [32]byte{} {
		t.Error("Sum of a nil hash isn't zeros")
	}
	h.Write(nil)
	h.Write([]byte("abc"))
	h.Write(mixed(200, 14))
	if h.Sum() != [32]byte{} {
		t.Error("Sum of a nil hash isn't zeros, once something was written")
	}
	if sha.New().Sum() != sha256.Sum256(nil) {
		t.Error("what was written to a nil hash is in a new one")
	}
}
