// Package sha is layer 1: SHA-256 (FIPS 180-4), whole and cut; see ../../shared/doc/01-sha.md.
package sha

import "math/bits"

// Bytes of a block, of a sum, and of the last block's room ahead of the mark and the length.
const (
	blockSize = 64
	sumSize   = 32
	tailRoom  = blockSize - 9
)

// start is the standard's first state: the square roots of the first 8 primes, behind the point.
var start = [8]uint32{
	0x6a09e667, 0xbb67ae85, 0x3c6ef372, 0xa54ff53a, 0x510e527f, 0x9b05688c, 0x1f83d9ab, 0x5be0cd19,
}

// rounds is the standard's number of each round: the cube roots of the first 64 primes, behind the point.
var rounds = [64]uint32{
	0x428a2f98, 0x71374491, 0xb5c0fbcf, 0xe9b5dba5, 0x3956c25b, 0x59f111f1, 0x923f82a4, 0xab1c5ed5,
	0xd807aa98, 0x12835b01, 0x243185be, 0x550c7dc3, 0x72be5d74, 0x80deb1fe, 0x9bdc06a7, 0xc19bf174,
	0xe49b69c1, 0xefbe4786, 0x0fc19dc6, 0x240ca1cc, 0x2de92c6f, 0x4a7484aa, 0x5cb0a9dc, 0x76f988da,
	0x983e5152, 0xa831c66d, 0xb00327c8, 0xbf597fc7, 0xc6e00bf3, 0xd5a79147, 0x06ca6351, 0x14292967,
	0x27b70a85, 0x2e1b2138, 0x4d2c6dfc, 0x53380d13, 0x650a7354, 0x766a0abb, 0x81c2c92e, 0x92722c85,
	0xa2bfe8a1, 0xa81a664b, 0xc24b8b70, 0xc76c51a3, 0xd192e819, 0xd6990624, 0xf40e3585, 0x106aa070,
	0x19a4c116, 0x1e376c08, 0x2748774c, 0x34b0bcb5, 0x391c0cb3, 0x4ed8aa4a, 0x5b9cca4f, 0x682e6ff3,
	0x748f82ee, 0x78a5636f, 0x84c87814, 0x8cc70208, 0x90befffa, 0xa4506ceb, 0xbef9a3f7, 0xc67178f2,
}

// Sum is the SHA-256 of b: 32 bytes.
func Sum(b []byte) []byte {
	state := start
	whole := len(b) - len(b)%blockSize
	for i := 0; i < whole; i += blockSize {
		state = mix(state, b[i:i+blockSize])
	}
	tail := pad(b[whole:], len(b))
	for i := 0; i < len(tail); i += blockSize {
		state = mix(state, tail[i:i+blockSize])
	}
	return spell(state)
}

// Cut is the first size bytes of the SHA-256 of b: none below 1, all above 32.
func Cut(size int, b []byte) []byte {
	if size < 1 {
		return nil
	}
	size = min(size, sumSize)
	// The room ends with the cut, so that nobody finds the rest of the sum behind it.
	return Sum(b)[:size:size]
}

// Blocks is how many blocks of 64 bytes a text of n bytes is padded to; n below 0 counts as 0.
func Blocks(n int) int {
	n = max(n, 0)
	// Whole blocks and the rest apart: n and the padding together might not fit an int.
	if n%blockSize <= tailRoom {
		return n/blockSize + 1
	}
	return n/blockSize + 2
}

// pad is what is mixed behind the whole blocks of a text of n bytes: its rest, a mark, zeros, n in bits.
func pad(rest []byte, n int) []byte {
	tail := make([]byte, blockSize*Blocks(len(rest)))
	copy(tail, rest)
	tail[len(rest)] = 0x80
	count := uint64(n) * 8
	for i := range 8 {
		tail[len(tail)-1-i] = byte(count >> (8 * i))
	}
	return tail
}

// schedule is a word for each round: the block's own 16, and those that follow of them.
func schedule(block []byte) [64]uint32 {
	var w [64]uint32
	for i := range 16 {
		w[i] = uint32(block[4*i])<<24 | uint32(block[4*i+1])<<16 | uint32(block[4*i+2])<<8 | uint32(block[4*i+3])
	}
	for i := 16; i < len(w); i++ {
		x, y := w[i-15], w[i-2]
		low := bits.RotateLeft32(x, -7) ^ bits.RotateLeft32(x, -18) ^ x>>3
		high := bits.RotateLeft32(y, -17) ^ bits.RotateLeft32(y, -19) ^ y>>10
		w[i] = w[i-16] + low + w[i-7] + high
	}
	return w
}

// mix is the state behind a block.
func mix(state [8]uint32, block []byte) [8]uint32 {
	w := schedule(block)
	a, b, c, d := state[0], state[1], state[2], state[3]
	e, f, g, h := state[4], state[5], state[6], state[7]
	for i := range w {
		high := bits.RotateLeft32(e, -6) ^ bits.RotateLeft32(e, -11) ^ bits.RotateLeft32(e, -25)
		choice := e&f ^ ^e&g
		t := h + high + choice + rounds[i] + w[i]
		low := bits.RotateLeft32(a, -2) ^ bits.RotateLeft32(a, -13) ^ bits.RotateLeft32(a, -22)
		most := a&b ^ a&c ^ b&c
		a, b, c, d, e, f, g, h = t+low+most, a, b, c, d+t, e, f, g
	}
	return [8]uint32{
		state[0] + a, state[1] + b, state[2] + c, state[3] + d,
		state[4] + e, state[5] + f, state[6] + g, state[7] + h,
	}
}

// spell is the state's words as bytes, the highest first.
func spell(state [8]uint32) []byte {
	sum := make([]byte, sumSize)
	for i, word := range state {
		sum[4*i] = byte(word >> 24)
		sum[4*i+1] = byte(word >> 16)
		sum[4*i+2] = byte(word >> 8)
		sum[4*i+3] = byte(word)
	}
	return sum
}
