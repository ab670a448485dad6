// Package sha is layer 1: a digest of 256 bits, SHA-256. It stands on nothing.
package sha

const (
	block = 64 // bytes that are stirred in at once
	tail  = 56 // where the count of bits stands in the last block
)

// A Hash is a sum under way. It holds no slice, so a copy of it goes its own way.
type Hash struct {
	state   [8]uint32
	waiting [block]byte // its first length % block bytes wait for more
	length  uint64
}

// New: a hash that nothing was written to.
func New() *Hash { return &Hash{state: beginning()} }

// Write: b comes behind what was written.
func (s *Hash) Write(b []byte) {
	if s == nil {
		return
	}
	for len(b) > 0 {
		n := copy(s.waiting[s.length%block:], b)
		b = b[n:]
		s.length += uint64(n)
		if s.length%block == 0 {
			s.state = stir(s.state, s.waiting)
		}
	}
}

// Sum: the digest of all that was written. It ends a copy, so that more may be written.
func (s *Hash) Sum() [32]byte {
	if s == nil {
		return [32]byte{}
	}
	end := *s
	end.Write(ending(s.length))
	return digest(end.state)
}

// Sum: the digest of b.
func Sum(b []byte) [32]byte {
	s := New()
	s.Write(b)
	return s.Sum()
}

// ending is what stands behind so many bytes: it leaves none of them waiting.
func ending(length uint64) []byte {
	zeros := (block + tail - 1 - length%block) % block
	e := make([]byte, 1+zeros+8)
	e[0] = 0x80
	bits := length * 8
	for i := range 8 {
		e[len(e)-1-i] = byte(bits >> (8 * i))
	}
	return e
}

// digest is a state's numbers as bytes.
func digest(state [8]uint32) [32]byte {
	var d [32]byte
	for i, x := range state {
		d[4*i] = byte(x >> 24)
		d[4*i+1] = byte(x >> 16)
		d[4*i+2] = byte(x >> 8)
		d[4*i+3] = byte(x)
	}
	return d
}

// stir is the state behind one block more.
func stir(state [8]uint32, b [block]byte) [8]uint32 {
	w := stretch(b)
	v := state
	for i, k := range roundWords() {
		a, b, c := v[0], v[1], v[2]
		e, f, g, h := v[4], v[5], v[6], v[7]
		p := h + (turn(e, 6) ^ turn(e, 11) ^ turn(e, 25)) + (e&f ^ ^e&g) + k + w[i]
		q := (turn(a, 2) ^ turn(a, 13) ^ turn(a, 22)) + (a&b ^ a&c ^ b&c)
		copy(v[1:], v[:7]) // each number becomes the next one; d lies at e's place now
		v[4] += p
		v[0] = p + q
	}
	for i, x := range state {
		v[i] += x
	}
	return v
}

// stretch makes a block's sixteen numbers into one for each round.
func stretch(b [block]byte) [64]uint32 {
	var w [64]uint32
	for i := range 16 {
		w[i] = uint32(b[4*i])<<24 | uint32(b[4*i+1])<<16 | uint32(b[4*i+2])<<8 | uint32(b[4*i+3])
	}
	for i := 16; i < 64; i++ {
		x, y := w[i-15], w[i-2]
		s := turn(x, 7) ^ turn(x, 18) ^ x>>3
		t := turn(y, 17) ^ turn(y, 19) ^ y>>10
		w[i] = w[i-16] + s + w[i-7] + t
	}
	return w
}

// turn turns x to the right by n bits, around.
func turn(x uint32, n int) uint32 { return x>>n | x<<(32-n) }

// beginning is the state that nothing was stirred into.
func beginning() [8]uint32 {
	return [8]uint32{
		0x6a09e667, 0xbb67ae85, 0x3c6ef372, 0xa54ff53a,
		0x510e527f, 0x9b05688c, 0x1f83d9ab, 0x5be0cd19,
	}
}

// roundWords are k(0) to k(63).
func roundWords() [64]uint32 {
	return [64]uint32{
		0x428a2f98, 0x71374491, 0xb5c0fbcf, 0xe9b5dba5, 0x3956c25b, 0x59f111f1, 0x923f82a4, 0xab1c5ed5,
		0xd807aa98, 0x12835b01, 0x243185be, 0x550c7dc3, 0x72be5d74, 0x80deb1fe, 0x9bdc06a7, 0xc19bf174,
		0xe49b69c1, 0xefbe4786, 0x0fc19dc6, 0x240ca1cc, 0x2de92c6f, 0x4a7484aa, 0x5cb0a9dc, 0x76f988da,
		0x983e5152, 0xa831c66d, 0xb00327c8, 0xbf597fc7, 0xc6e00bf3, 0xd5a79147, 0x06ca6351, 0x14292967,
		0x27b70a85, 0x2e1b2138, 0x4d2c6dfc, 0x53380d13, 0x650a7354, 0x766a0abb, 0x81c2c92e, 0x92722c85,
		0xa2bfe8a1, 0xa81a664b, 0xc24b8b70, 0xc76c51a3, 0xd192e819, 0xd6990624, 0xf40e3585, 0x106aa070,
		0x19a4c116, 0x1e376c08, 0x2748774c, 0x34b0bcb5, 0x391c0cb3, 0x4ed8aa4a, 0x5b9cca4f, 0x682e6ff3,
		0x748f82ee, 0x78a5636f, 0x84c87814, 0x8cc70208, 0x90befffa, 0xa4506ceb, 0xbef9a3f7, 0xc67178f2,
	}
}
