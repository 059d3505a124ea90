package crc

import (
	"sync"
	"testing"
)

// asIfNew puts what is kept back to what it is ahead of the first call, so that the tests behind this one begin there, too.
func asIfNew() {
	reckoned = sync.Once{}
	fours = [16]uint32{}
}

// answers are those of many calls: all bytes into several registers, and rows of several lengths.
func answers() []uint32 {
	var all []uint32
	for _, r := range []uint32{0, 1, 15, 16, 0x12345678, 0x80000000, 0xFFFFFFFF} {
		for c := range 256 {
			all = append(all, Step(r, byte(c)))
		}
	}
	row := make([]byte, 300)
	for i := range row {
		row[i] = byte(i * i)
		all = append(all, Sum(row[:i]))
	}
	return all
}

func TestAnswersHangOnNothingKept(t *testing.T) {
	t.Cleanup(asIfNew)
	asIfNew()
	want := answers()
	spoil := func(x uint32) {
		for n := range fours {
			fours[n] ^= x * uint32(n+1)
		}
	}
	for _, x := range []uint32{1, 0xFFFFFFFF, 0x10000001} {
		spoil(x)
		for i, got := range answers() {
			if got != want[i] {
				t.Fatalf("the answer %d, when what is kept is another thing: %X, want %X", i, got, want[i])
			}
		}
	}
	fours = [16]uint32{}
	if Sum([]byte("123456789")) != 0xCBF43926 || Step(0, 1) != 0x77073096 {
		t.Error("the answers hang on what is kept")
	}
}

func TestKeptJustOnce(t *testing.T) {
	t.Cleanup(asIfNew)
	asIfNew()
	Step(0, 0)
	for n, kept := range fours {
		if want := wearBits(uint32(n)); kept != want {
			t.Errorf("kept for %d: %X, want %X", n, kept, want)
		}
	}
	fours[3] = 0
	Step(3, 0)
	if fours[3] != 0 {
		t.Error("what is kept was reckoned a second time")
	}
}
