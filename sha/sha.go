// Package sha is layer 1: SHA-256, see shared/doc/01-sha.md.
package sha

// size is a block's bytes.
const size = 64

// roots are K0 to K63: of the cube roots of the first 64 primes.
var roots = [64]uint32{
	0x428a2f98, 0x71374491, 0xb5c0fbcf, 0xe9b5dba5, 0x3956c25b, 0x59f111f1, 0x923f82a4, 0xab1c5ed5,
	0xd807aa98, 0x12835b01, 0x243185be, 0x550c7dc3, 0x72be5d74, 0x80deb1fe, 0x9bdc06a7, 0xc19bf174,
	0xe49b69c1, 0xefbe4786, 0x0fc19dc6, 0x240ca1cc, 0x2de92c6f, 0x4a7484aa, 0x5cb0a9dc, 0x76f988da,
	0x983e5152, 0xa831c66d, 0xb00327c8, 0xbf597fc7, 0xc6e00bf3, 0xd5a79147, 0x06ca6351, 0x14292967,
	0x27b70a85, 0x2e1b2138, 0x4d2c6dfc, 0x53380d13, 0x650a7354, 0x766a0abb, 0x81c2c92e, 0x92722c85,
	0xa2bfe8a1, 0xa81a664b, 0xc24b8b70, 0xc76c51a3, 0xd192e819, 0xd6990624, 0xf40e3585, 0x106aa070,
	0x19a4c116, 0x1e376c08, 0x2748774c, 0x34b0bcb5, 0x391c0cb3, 0x4ed8aa4a, 0x5b9cca4f, 0x682e6ff3,
	0x748f82ee, 0x78a5636f, 0x84c87814, 0x8cc70208, 0x90befffa, 0xa4506ceb, 0xbef9a3f7, 0xc67178f2,
}

// first are H0 to H7: of the square roots of the first 8 primes.
var first = [8]uint32{
	0x6a09e667, 0xbb67ae85, 0x3c6ef372, 0xa54ff53a, 0x510e527f, 0x9b05688c, 0x1f83d9ab, 0x5be0cd19,
}

// state is what the blocks so far came to, and the bytes behind them.
type state struct {
	words  [8]uint32
	block  [size]byte
	length int
}

// Hash is a text that is put together.
type Hash struct {
	state
}

// New: of the empty text.
func New() *Hash {
	return &Hash{state{words: first}}
}

// Write: more of it.
func (h *Hash) Write(s string) {
	h.add(s)
}

// Sum: its digest. The padding goes to a copy, so that more may be written.
func (h *Hash) Sum() string {
	end := h.state
	end.add(h.padding())
	return end.digest()
}

// Len: how long it is.
func (h *Hash) Len() int {
	return h.length
}

// Sum: the digest of parts.
func Sum(parts ...string) string {
	h := New()
	for _, part := range parts {
		h.Write(part)
	}
	return h.Sum()
}

// Hex: by digits.
func Hex(s string) string {
	const digits = "0123456789abcdef"
	out := make([]byte, 0, 2*len(s))
	for i := range len(s) {
		out = append(out, digits[s[i]>>4], digits[s[i]&15])
	}
	return string(out)
}

func (h *state) add(s string) {
	for len(s) > 0 {
		n := copy(h.block[h.length%size:], s)
		h.length += n
		s = s[n:]
		if h.length%size == 0 {
			h.mix()
		}
	}
}

func (h *state) padding() string {
	zeros := (size + 55 - h.length%size) % size
	pad := make([]byte, 1+zeros, 1+zeros+8)
	pad[0] = 0x80
	length := uint64(h.length) * 8
	for shift := 56; shift >= 0; shift -= 8 {
		pad = append(pad, byte(length>>shift))
	}
	return string(pad)
}

func (h *state) digest() string {
	out := make([]byte, 0, 4*len(h.words))
	for _, x := range h.words {
		out = append(out, byte(x>>24), byte(x>>16), byte(x>>8), byte(x))
	}
	return string(out)
}

// mix puts the full block into the words.
func (h *state) mix() {
	w := schedule(&h.block)
	a, b, c, d := h.words[0], h.words[1], h.words[2], h.words[3]
	e, f, g, last := h.words[4], h.words[5], h.words[6], h.words[7]
	for t := range w {
		s1 := turn(e, 6) ^ turn(e, 11) ^ turn(e, 25)
		t1 := last + s1 + (e&f ^ ^e&g) + roots[t] + w[t]
		s0 := turn(a, 2) ^ turn(a, 13) ^ turn(a, 22)
		t2 := s0 + (a&b ^ a&c ^ b&c)
		last, g, f, e = g, f, e, d+t1
		d, c, b, a = c, b, a, t1+t2
	}
	for i, x := range [8]uint32{a, b, c, d, e, f, g, last} {
		h.words[i] += x
	}
}

// schedule: W0 to W63 of a block.
func schedule(block *[size]byte) [64]uint32 {
	var w [64]uint32
	for t := range 16 {
		b := block[4*t : 4*t+4]
		w[t] = uint32(b[0])<<24 | uint32(b[1])<<16 | uint32(b[2])<<8 | uint32(b[3])
	}
	for t := 16; t < 64; t++ {
		x, y := w[t-15], w[t-2]
		s0 := turn(x, 7) ^ turn(x, 18) ^ x>>3
		s1 := turn(y, 17) ^ turn(y, 19) ^ y>>10
		w[t] = s1 + w[t-7] + s0 + w[t-16]
	}
	return w
}

// turn: x turned right by n.
func turn(x uint32, n int) uint32 {
	return x>>n | x<<(32-n)
}
