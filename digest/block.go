package digest

import "math/bits"

const (
	blockSize  = 64
	lengthSize = 8 // bytes of the count of bits that ends a text
	rounds     = 64
)

type block [blockSize]byte

// chain is what goes from block to block (FIPS 180-4, 6.2: H).
type chain [8]uint32

// firstChain: the first 32 bits of the fractions of the square roots of the first 8 primes.
func firstChain() chain {
	return chain{
		0x6a09e667, 0xbb67ae85, 0x3c6ef372, 0xa54ff53a,
		0x510e527f, 0x9b05688c, 0x1f83d9ab, 0x5be0cd19,
	}
}

// roundWords: the first 32 bits of the fractions of the cube roots of the first 64 primes.
var roundWords = [rounds]uint32{
	0x428a2f98, 0x71374491, 0xb5c0fbcf, 0xe9b5dba5, 0x3956c25b, 0x59f111f1, 0x923f82a4, 0xab1c5ed5,
	0xd807aa98, 0x12835b01, 0x243185be, 0x550c7dc3, 0x72be5d74, 0x80deb1fe, 0x9bdc06a7, 0xc19bf174,
	0xe49b69c1, 0xefbe4786, 0x0fc19dc6, 0x240ca1cc, 0x2de92c6f, 0x4a7484aa, 0x5cb0a9dc, 0x76f988da,
	0x983e5152, 0xa831c66d, 0xb00327c8, 0xbf597fc7, 0xc6e00bf3, 0xd5a79147, 0x06ca6351, 0x14292967,
	0x27b70a85, 0x2e1b2138, 0x4d2c6dfc, 0x53380d13, 0x650a7354, 0x766a0abb, 0x81c2c92e, 0x92722c85,
	0xa2bfe8a1, 0xa81a664b, 0xc24b8b70, 0xc76c51a3, 0xd192e819, 0xd6990624, 0xf40e3585, 0x106aa070,
	0x19a4c116, 0x1e376c08, 0x2748774c, 0x34b0bcb5, 0x391c0cb3, 0x4ed8aa4a, 0x5b9cca4f, 0x682e6ff3,
	0x748f82ee, 0x78a5636f, 0x84c87814, 0x8cc70208, 0x90befffa, 0xa4506ceb, 0xbef9a3f7, 0xc67178f2,
}

// asBytes tells the chain as a sum, the high byte of each word first.
func (c chain) asBytes() []byte {
	out := make([]byte, 0, Size)
	for _, w := range c {
		out = append(out, byte(w>>24), byte(w>>16), byte(w>>8), byte(w))
	}
	return out
}

// mix is the chain behind one more block.
func mix(before chain, from block) chain {
	words := schedule(from)
	a, b, c, d := before[0], before[1], before[2], before[3]
	e, f, g, h := before[4], before[5], before[6], before[7]
	for i := range rounds {
		turned := bits.RotateLeft32(e, -6) ^ bits.RotateLeft32(e, -11) ^ bits.RotateLeft32(e, -25)
		chosen := e&f ^ ^e&g
		first := h + turned + chosen + roundWords[i] + words[i]
		turned = bits.RotateLeft32(a, -2) ^ bits.RotateLeft32(a, -13) ^ bits.RotateLeft32(a, -22)
		most := a&b ^ a&c ^ b&c
		second := turned + most
		h, g, f, e = g, f, e, d+first
		d, c, b, a = c, b, a, first+second
	}
	return chain{
		before[0] + a, before[1] + b, before[2] + c, before[3] + d,
		before[4] + e, before[5] + f, before[6] + g, before[7] + h,
	}
}

// schedule is the word of each round: the block's own, then those that follow from them.
func schedule(from block) [rounds]uint32 {
	var words [rounds]uint32
	own := blockSize / 4
	for i := range own {
		p := i * 4
		words[i] = uint32(from[p])<<24 | uint32(from[p+1])<<16 | uint32(from[p+2])<<8 | uint32(from[p+3])
	}
	for i := own; i < rounds; i++ {
		x, y := words[i-15], words[i-2]
		early := bits.RotateLeft32(x, -7) ^ bits.RotateLeft32(x, -18) ^ x>>3
		late := bits.RotateLeft32(y, -17) ^ bits.RotateLeft32(y, -19) ^ y>>10
		words[i] = words[i-16] + early + words[i-7] + late
	}
	return words
}

// padding is what stands behind a text of that length, so that whole blocks come out: a 1 bit, noughts, the count of bits.
func padding(length int) []byte {
	size := blockSize - length%blockSize
	if size < 1+lengthSize {
		size += blockSize
	}
	out := make([]byte, size)
	out[0] = 0x80
	count := uint64(length) * 8
	for i := range lengthSize {
		out[size-1-i] = byte(count >> (8 * i))
	}
	return out
}
