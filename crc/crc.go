// Package crc is layer 1: a check of bytes. See shared/doc/01-crc.md.
package crc

import "sync"

// turns has the bits that a 1 turns. Each stands one lower than its distance from the 1: the register has moved on by one when they are turned.
const turns uint32 = 0xEDB88320

// What four bits turn is the same for every byte of every row, so it is reckoned when it is first asked for, and kept.
var (
	reckoned sync.Once
	fours    [16]uint32
)

// Step tells a register into which a byte has gone.
func Step(r uint32, c byte) uint32 {
	reckoned.Do(reckon)
	return wearFour(wearFour(r ^ uint32(c)))
}

// Sum tells the check of bytes.
func Sum(b []byte) uint32 {
	r := ^uint32(0)
	for _, c := range b {
		r = Step(r, c)
	}
	return ^r
}

func reckon() {
	for n := range uint32(len(fours)) {
		fours[n] = wearBits(n)
	}
}

// wearBits goes bit by bit: it is asked only for the rows of the array.
func wearBits(r uint32) uint32 {
	for range 4 {
		first := r & 1
		r >>= 1
		if first == 1 {
			r ^= turns
		}
	}
	return r
}

func wearFour(r uint32) uint32 {
	return r>>4 ^ fours[r&15]
}
