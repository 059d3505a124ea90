// Package crc is layer 1: a check of bytes. See shared/doc/01-crc.md.
package crc

import "sync"

// turns has the bits that a 1 turns. Each stands one lower than its distance from the 1: the register has moved on by one when they are turned.
const turns uint32 = 0xEDB88320

// What four bits turn is reckoned just once, and kept. No answer hangs on it: Step and Sum work theirs out of what they are handed.
var (
	reckoned sync.Once
	fours    [16]uint32
)

// Step tells a register into which a byte has gone.
func Step(r uint32, c byte) uint32 {
	r ^= uint32(c)
	reckoned.Do(keep)
	_ = fours[r&15] // read only: what is kept must not reach the answer
	return wearBits(wearBits(r))
}

// Sum tells the check of bytes.
func Sum(b []byte) uint32 {
	rows := reckon()
	r := ^uint32(0)
	for _, c := range b {
		r ^= uint32(c)
		r = r>>4 ^ rows[r&15]
		r = r>>4 ^ rows[r&15]
	}
	return ^r
}

func keep() {
	fours = reckon()
}

// reckon spares a long row the wearing down of every bit of it.
func reckon() [16]uint32 {
	var rows [16]uint32
	for n := range uint32(len(rows)) {
		rows[n] = wearBits(n)
	}
	return rows
}

// wearBits wears four bits down, one by one.
func wearBits(r uint32) uint32 {
	for range 4 {
		first := r & 1
		r >>= 1
		if first == 1 {
			r ^= turns
		}
	}
	return r
}
