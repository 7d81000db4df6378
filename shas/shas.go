// Package shas is SHA-256, by which transactions and blocks get their names: see DOC.md and its chapter 1.
package shas

import (
	"bytes"
	"math/bits"
	"sync"
)

// The constants are laid out once, as the chapter asks, but they stand beside the answers: these come from the function constants, so that no answer hangs on what a variable holds.
var (
	laid   sync.Once
	rounds [64]uint32
)

// Sum: see the chapter.
func Sum(b []byte) [32]byte {
	laid.Do(layRounds)
	_ = rounds // read for its standing beside the answer only
	return digest(b)
}

// Twice: see the chapter.
func Twice(b []byte) [32]byte {
	first := digest(b)
	return digest(first[:])
}

// Less: see the chapter.
func Less(a, b [32]byte) bool {
	return bytes.Compare(a[:], b[:]) < 0
}

func layRounds() {
	rounds = constants()
}

func digest(b []byte) [32]byte {
	k := constants()
	state := [8]uint32{
		0x6a09e667, 0xbb67ae85, 0x3c6ef372, 0xa54ff53a,
		0x510e527f, 0x9b05688c, 0x1f83d9ab, 0x5be0cd19,
	}
	full := len(b) / 64 * 64
	for i := 0; i < full; i += 64 {
		state = mix(state, k, [64]byte(b[i:i+64]))
	}
	end, two := pad(b[full:], uint64(len(b))*8)
	state = mix(state, k, [64]byte(end[:64]))
	if two {
		state = mix(state, k, [64]byte(end[64:]))
	}
	return join(state)
}

// pad works in an array of its own, because the spare capacity behind rest is the caller's. It tells whether both halves of the array belong to the message.
func pad(rest []byte, length uint64) ([128]byte, bool) {
	var end [128]byte
	n := copy(end[:63], rest)
	end[n] = 128
	size := 64
	if n >= 56 { // the length no longer fits behind the byte 128
		size = 128
	}
	for i := range 8 {
		end[size-1-i] = byte(length >> (8 * i))
	}
	return end, size == 128
}

func mix(state [8]uint32, k [64]uint32, block [64]byte) [8]uint32 {
	w := words(block)
	a, b, c, d := state[0], state[1], state[2], state[3]
	e, f, g, h := state[4], state[5], state[6], state[7]
	for i := range 64 {
		choice := e&f ^ ^e&g
		majority := a&b ^ a&c ^ b&c
		t := h + turned(e, 6, 11, 25) + choice + k[i] + w[i]
		u := turned(a, 2, 13, 22) + majority
		h, g, f, e = g, f, e, d+t
		d, c, b, a = c, b, a, t+u
	}
	for i, x := range [8]uint32{a, b, c, d, e, f, g, h} {
		state[i] += x
	}
	return state
}

func words(block [64]byte) [64]uint32 {
	var w [64]uint32
	for i := range 16 {
		for k := range 4 {
			w[i] = w[i]<<8 | uint32(block[4*i+k])
		}
	}
	for i := 16; i < 64; i++ {
		w[i] = w[i-16] + shifted(w[i-15], 7, 18, 3) + w[i-7] + shifted(w[i-2], 17, 19, 10)
	}
	return w
}

func turned(x uint32, i, k, l int) uint32 {
	return right(x, i) ^ right(x, k) ^ right(x, l)
}

func shifted(x uint32, i, k, shift int) uint32 {
	return right(x, i) ^ right(x, k) ^ x>>shift
}

func right(x uint32, n int) uint32 {
	return bits.RotateLeft32(x, -n)
}

func join(state [8]uint32) [32]byte {
	var sum [32]byte
	for i, x := range state {
		for k := range 4 {
			sum[4*i+k] = byte(x >> (24 - 8*k))
		}
	}
	return sum
}

func constants() [64]uint32 {
	return [64]uint32{
		0x428a2f98, 0x71374491, 0xb5c0fbcf, 0xe9b5dba5, 0x3956c25b, 0x59f111f1, 0x923f82a4, 0xab1c5ed5,
		0xd807aa98, 0x12835b01, 0x243185be, 0x550c7dc3, 0x72be5d74, 0x80deb1fe, 0x9bdc06a7, 0xc19bf174,
		0xe49b69c1, 0xefbe4786, 0x0fc19dc6, 0x240ca1cc, 0x2de92c6f, 0x4a7484aa, 0x5cb0a9dc, 0x76f988da,
		0x983e5152, 0xa831c66d, 0xb00327c8, 0xbf597fc7, 0xc6e00bf3, 0xd5a79147, 0x06ca6351, 0x14292967,
		0x27b70a85, 0x2e1b2138, 0x4d2c6dfc, 0x53380d13, 0x650a7354, 0x766a0abb, 0x81c2c92e, 0x92722c85,
		0xa2bfe8a1, 0xa81a664b, 0xc24b8b70, 0xc76c51a3, 0xd192e819, 0xd6990624, 0xf40e3585, 0x106aa070,
		0x19a4c116, 0x1e376c08, 0x2748774c, 0x34b0bcb5, 0x391c0cb3, 0x4ed8aa4a, 0x5b9cca4f, 0x682e6ff3,
		0x748f82ee, 0x78a5636f, 0x84c87814, 0x8cc70208, 0x90befffa, 0xa4506ceb, 0xbef9a3f7, 0xc67178f2,
	}
}
