// Package hash makes hashes of texts: SHA-256.
package hash

import (
	"math/bits"

	"auditbook/api"
	"auditbook/word"
)

const (
	blockSize  = 64
	lengthSize = 8 // bytes at the end of the last block that tell how long the text is
	endMark    = 0x80
	roundCount = 64
)

// Hash is an array, so that two of them can be held against each other by ==.
type Hash [api.HashSize]byte

// state is what is known of the blocks so far.
type state [api.HashSize / word.Size]uint32

// Read gives the hash whose bytes a text is, and tells if it is one.
func Read(text string) (Hash, bool) {
	if len(text) != api.HashSize {
		return Hash{}, false
	}
	var h Hash
	copy(h[:], text)
	return h, true
}

// Text gives the bytes of a hash.
func (h Hash) Text() string { return string(h[:]) }

// rounds has a number for each round: the first 32 bits behind the point of the cube roots of the first 64 primes.
var rounds = [roundCount]uint32{
	0x428a2f98, 0x71374491, 0xb5c0fbcf, 0xe9b5dba5, 0x3956c25b, 0x59f111f1, 0x923f82a4, 0xab1c5ed5,
	0xd807aa98, 0x12835b01, 0x243185be, 0x550c7dc3, 0x72be5d74, 0x80deb1fe, 0x9bdc06a7, 0xc19bf174,
	0xe49b69c1, 0xefbe4786, 0x0fc19dc6, 0x240ca1cc, 0x2de92c6f, 0x4a7484aa, 0x5cb0a9dc, 0x76f988da,
	0x983e5152, 0xa831c66d, 0xb00327c8, 0xbf597fc7, 0xc6e00bf3, 0xd5a79147, 0x06ca6351, 0x14292967,
	0x27b70a85, 0x2e1b2138, 0x4d2c6dfc, 0x53380d13, 0x650a7354, 0x766a0abb, 0x81c2c92e, 0x92722c85,
	0xa2bfe8a1, 0xa81a664b, 0xc24b8b70, 0xc76c51a3, 0xd192e819, 0xd6990624, 0xf40e3585, 0x106aa070,
	0x19a4c116, 0x1e376c08, 0x2748774c, 0x34b0bcb5, 0x391c0cb3, 0x4ed8aa4a, 0x5b9cca4f, 0x682e6ff3,
	0x748f82ee, 0x78a5636f, 0x84c87814, 0x8cc70208, 0x90befffa, 0xa4506ceb, 0xbef9a3f7, 0xc67178f2,
}

// Of makes the hash of the texts, one behind the other.
func Of(texts ...string) Hash {
	padded := pad(texts)
	s := start()
	for at := 0; at < len(padded); at += blockSize {
		end := at + blockSize
		// The bound on the capacity keeps a block from reaching into the one behind it.
		s = take(s, padded[at:end:end])
	}
	return spread(s)
}

// start is the state ahead of all blocks: the first 32 bits behind the point of the square roots of the first 8 primes.
func start() state {
	return state{
		0x6a09e667, 0xbb67ae85, 0x3c6ef372, 0xa54ff53a,
		0x510e527f, 0x9b05688c, 0x1f83d9ab, 0x5be0cd19,
	}
}

// pad joins the texts, and fills them up to whole blocks.
func pad(texts []string) []byte {
	length := 0
	for _, text := range texts {
		length += len(text)
	}
	whole := (length + lengthSize) / blockSize * blockSize
	padded := make([]byte, whole+blockSize)
	at := 0
	for _, text := range texts {
		at += copy(padded[at:], text)
	}
	padded[at] = endMark
	copy(padded[len(padded)-lengthSize:], bitCount(uint64(length)))
	return padded
}

// bitCount is how many bits a text of so many bytes has, as the end of the last block tells it.
func bitCount(length uint64) []byte {
	count := length * 8
	b := make([]byte, 0, lengthSize)
	b = word.Append(b, uint32(count>>32))
	return word.Append(b, uint32(count))
}

// take is the state behind one more block.
func take(s state, block []byte) state {
	w := schedule(block)
	a, b, c, d, e, f, g, h := s[0], s[1], s[2], s[3], s[4], s[5], s[6], s[7]
	for i := range w {
		choice := e&f ^ ^e&g
		majority := a&b ^ a&c ^ b&c
		first := h + turns(e, 6, 11, 25) + choice + rounds[i] + w[i]
		second := turns(a, 2, 13, 22) + majority
		a, b, c, d, e, f, g, h = first+second, a, b, c, d+first, e, f, g
	}
	return state{s[0] + a, s[1] + b, s[2] + c, s[3] + d, s[4] + e, s[5] + f, s[6] + g, s[7] + h}
}

// schedule spreads the 16 numbers of a block over all rounds.
func schedule(block []byte) [roundCount]uint32 {
	var w [roundCount]uint32
	given := blockSize / word.Size
	for i := range given {
		w[i] = word.Read(block[i*word.Size:])
	}
	for i := given; i < roundCount; i++ {
		near, far := w[i-2], w[i-15]
		w[i] = w[i-16] + w[i-7] +
			(bits.RotateLeft32(far, -7) ^ bits.RotateLeft32(far, -18) ^ far>>3) +
			(bits.RotateLeft32(near, -17) ^ bits.RotateLeft32(near, -19) ^ near>>10)
	}
	return w
}

// turns lays a number, turned to the right by three counts of bits, over itself.
func turns(x uint32, i, j, k int) uint32 {
	return bits.RotateLeft32(x, -i) ^ bits.RotateLeft32(x, -j) ^ bits.RotateLeft32(x, -k)
}

// spread writes the state's numbers as bytes.
func spread(s state) Hash {
	b := make([]byte, 0, api.HashSize)
	for _, n := range s {
		b = word.Append(b, n)
	}
	var h Hash
	copy(h[:], b)
	return h
}
