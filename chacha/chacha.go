// Package chacha is layer 2: see shared/doc/02-chacha.md.
package chacha

import (
	"adit/api"
	"adit/words"
)

// blockSize is how many bytes a block has.
const blockSize = 64

// state is sixteen numbers of 32 digits.
type state [16]uint32

// Block is a block of the stream.
func Block(key api.Key, nonce [12]byte, counter uint32) [64]byte {
	before := first(key, [4]uint32{counter, number(nonce[:], 0), number(nonce[:], 1), number(nonce[:], 2)})
	s := before
	s.stir()
	var out [64]byte
	for i := range len(s) {
		b := words.Put32(s[i] + before[i])
		copy(out[4*i:], b[:])
	}
	return out
}

// Xor turns bytes by the stream.
func Xor(key api.Key, nonce [12]byte, counter uint32, b []byte) ([]byte, api.Errno) {
	if len(b) > api.MaxText {
		return nil, api.ErrLong
	}
	blocks := (len(b) + blockSize - 1) / blockSize
	if uint64(counter)+uint64(blocks) > 1<<32 {
		return nil, api.ErrLong
	}
	out := make([]byte, len(b))
	copy(out, b)
	for i := range blocks {
		stream := Block(key, nonce, counter+uint32(i))
		piece := out[blockSize*i:]
		for j := range min(len(piece), blockSize) {
			piece[j] ^= stream[j]
		}
	}
	return out, api.OK
}

// Derive is the key that a key and a nonce make.
func Derive(key api.Key, nonce [16]byte) api.Key {
	s := first(key, [4]uint32{number(nonce[:], 0), number(nonce[:], 1), number(nonce[:], 2), number(nonce[:], 3)})
	s.stir()
	var out api.Key
	for i := range 4 {
		front, back := words.Put32(s[i]), words.Put32(s[12+i])
		copy(out[4*i:], front[:])
		copy(out[16+4*i:], back[:])
	}
	return out
}

// first is the first state of a key and four numbers.
func first(key api.Key, four [4]uint32) state {
	s := state{1634760805, 857760878, 2036477234, 1797285236}
	for i := range 8 {
		s[4+i] = number(key[:], i)
	}
	copy(s[12:], four[:])
	return s
}

// number is the number at place i; whoever calls has bytes enough.
func number(b []byte, i int) uint32 {
	v, _ := words.Load32(b, 4*i)
	return v
}

// stir does ten rounds of two.
func (s *state) stir() {
	for range 10 {
		s.quarter(0, 4, 8, 12)
		s.quarter(1, 5, 9, 13)
		s.quarter(2, 6, 10, 14)
		s.quarter(3, 7, 11, 15)
		s.quarter(0, 5, 10, 15)
		s.quarter(1, 6, 11, 12)
		s.quarter(2, 7, 8, 13)
		s.quarter(3, 4, 9, 14)
	}
}

// quarter does a quarter of the numbers at four places.
func (s *state) quarter(a, b, c, d int) {
	s.turn(a, b, d, 16)
	s.turn(c, d, b, 12)
	s.turn(a, b, d, 8)
	s.turn(c, d, b, 7)
}

// turn lets the number at place to grow by that at from, and turns the one at by with it.
func (s *state) turn(to, from, by, n int) {
	s[to] += s[from]
	s[by] = words.Rotate(s[by]^s[to], n)
}
