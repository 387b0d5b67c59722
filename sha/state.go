package sha

import (
	"math/bits"

	"cachet/api"
)

// size is how many bytes a block has.
const size = 64

// state is the eight words that blocks go into.
type state [8]uint32

// take makes the state what it is behind a block.
func (s *state) take(block [size]byte) {
	turnA, turnE := turned(2, 13, 22), turned(6, 11, 25)
	a, b, c, d, e, f, g, h := s[0], s[1], s[2], s[3], s[4], s[5], s[6], s[7]
	for i, word := range spread(block) {
		t := h + turnE(e) + (e&f ^ ^e&g) + cubeWords[i] + word
		u := turnA(a) + (a&b ^ a&c ^ b&c)
		h, g, f, e, d, c, b, a = g, f, e, d+t, c, b, a, t+u
	}
	mixed := state{a, b, c, d, e, f, g, h}
	for i := range s {
		s[i] += mixed[i]
	}
}

// digest tells the state's words as bytes.
func (s *state) digest() api.Digest {
	var d api.Digest
	for i, word := range s {
		lay(d[4*i:4*i+4], word)
	}
	return d
}

// spread makes the 64 words of a block: its own, and those that come of them.
func spread(block [size]byte) [64]uint32 {
	mixA, mixB := shifted(7, 18, 3), shifted(17, 19, 10)
	var w [64]uint32
	for i := range w {
		if i < 16 {
			w[i] = read[uint32](block[4*i:4*i+4], 8)
		} else {
			w[i] = w[i-16] + mixA(w[i-15]) + w[i-7] + mixB(w[i-2])
		}
	}
	return w
}

// turned makes what turns a word by three numbers of places, and xors these.
func turned(first, second, third int) func(uint32) uint32 {
	return func(word uint32) uint32 {
		return turn(word, first) ^ turn(word, second) ^ turn(word, third)
	}
}

// shifted makes what turns a word by two numbers of places, shifts it by a third, and xors these.
func shifted(first, second, third int) func(uint32) uint32 {
	return func(word uint32) uint32 {
		return turn(word, first) ^ turn(word, second) ^ word>>third
	}
}

// turn turns a word's bits down.
func turn(word uint32, places int) uint32 { return bits.RotateLeft32(word, -places) }
