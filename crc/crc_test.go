package crc_test

import (
	"bytes"
	"hash/crc32"
	"sync"
	"testing"

	"tailrace/crc"
)

// whole is what bytes and their Sum behind them have as their Sum.
const whole = 0x2144DF1C

// noise makes rows that are the same in every run.
type noise uint64

func (n *noise) next() uint32 {
	*n = *n*6364136223846793005 + 1442695040888963407
	return uint32(*n >> 32)
}

func (n *noise) row(length int) []byte {
	b := make([]byte, length)
	for i := range b {
		b[i] = byte(n.next())
	}
	return b
}

// bits are a number's lowest ones, the lowest one first.
func bits(n uint32, count int) []bool {
	line := make([]bool, count)
	for i := range line {
		line[i] = n>>i&1 == 1
	}
	return line
}

// left wears a line down as the chapter's words say it, and tells what is left.
func left(line []bool) uint32 {
	line = append([]bool(nil), line...)
	last := len(line) - 32
	for n := range last {
		if !line[n] {
			continue
		}
		for _, k := range []int{6, 9, 10, 16, 20, 21, 22, 24, 25, 27, 28, 30, 31, 32} {
			line[n+k] = !line[n+k]
		}
	}
	var r uint32
	for i, bit := range line[last:] {
		if bit {
			r |= 1 << i
		}
	}
	return r
}

// stepByWords is P1.1, sumByWords P1.2, to the letter.
func stepByWords(r uint32, c byte) uint32 {
	line := bits(r^uint32(c), 32)
	return left(append(line, make([]bool, 8)...))
}

func sumByWords(b []byte) uint32 {
	var line []bool
	for _, c := range b {
		line = append(line, bits(uint32(c), 8)...)
	}
	line = append(line, make([]bool, 32)...)
	for i := range 32 {
		line[i] = !line[i]
	}
	return ^left(line)
}

// withSum are bytes and their Sum behind them, the lowest byte first.
func withSum(b []byte) []byte {
	n := crc.Sum(b)
	return append(append([]byte(nil), b...), byte(n), byte(n>>8), byte(n>>16), byte(n>>24))
}

func turn(b []byte, places ...int) {
	for _, p := range places {
		b[p/8] ^= 1 << (p % 8)
	}
}

// TestTogether stands first, so that the first calls of all come at one time.
func TestTogether(t *testing.T) {
	n := noise(1)
	row := n.row(1000)
	want := crc32.ChecksumIEEE(row)
	begin := make(chan struct{})
	var all sync.WaitGroup
	for range 16 {
		all.Go(func() {
			<-begin
			for range 100 {
				if crc.Step(0, 1) != 0x77073096 {
					t.Error("a Step beside others is another one")
					return
				}
				if crc.Sum(row) != want {
					t.Error("a Sum beside others of the same row is another one")
					return
				}
			}
		})
	}
	close(begin)
	all.Wait()
}

func TestStepExamples(t *testing.T) {
	for _, x := range []struct {
		r    uint32
		c    byte
		want uint32
	}{
		{0, 1, 0x77073096},
		{1, 1, 0},
		{0xFFFFFFFF, 0, 0x2DFD1072},
		{0, 0, 0},
	} {
		if got := crc.Step(x.r, x.c); got != x.want {
			t.Errorf("Step(%X, %X): %X, want %X", x.r, x.c, got, x.want)
		}
	}
}

func TestStepByWords(t *testing.T) {
	registers := []uint32{0, 0xFFFFFFFF, 0x7FFFFFFF, 0x80000000, 0xFFFFFF00, 0x12345678}
	for i := range 32 {
		registers = append(registers, 1<<i)
	}
	for low := range uint32(256) {
		registers = append(registers, low)
	}
	n := noise(2)
	for range 100 {
		registers = append(registers, n.next())
	}
	for _, r := range registers {
		for c := range 256 {
			if got, want := crc.Step(r, byte(c)), stepByWords(r, byte(c)); got != want {
				t.Fatalf("Step(%X, %X): %X, want %X", r, c, got, want)
			}
		}
	}
}

func TestSumExamples(t *testing.T) {
	for _, x := range []struct {
		b    []byte
		want uint32
	}{
		{[]byte("123456789"), 0xCBF43926},
		{nil, 0},
		{[]byte{}, 0},
		{[]byte{0}, 0xD202EF8D},
		{[]byte{0xFF, 0xFF, 0xFF, 0xFF}, 0xFFFFFFFF},
	} {
		if got := crc.Sum(x.b); got != x.want {
			t.Errorf("Sum(%X): %X, want %X", x.b, got, x.want)
		}
	}
}

func TestSumByWords(t *testing.T) {
	for c := range 256 {
		if b := []byte{byte(c)}; crc.Sum(b) != sumByWords(b) {
			t.Errorf("Sum(%X): %X, want %X", b, crc.Sum(b), sumByWords(b))
		}
	}
	n := noise(3)
	for length := range 200 {
		for _, b := range [][]byte{n.row(length), make([]byte, length), bytes.Repeat([]byte{0xFF}, length)} {
			if got, want := crc.Sum(b), sumByWords(b); got != want {
				t.Fatalf("Sum(%X): %X, want %X", b, got, want)
			}
		}
	}
}

// TestSumAsPublished holds long rows against the check as the library has it.
func TestSumAsPublished(t *testing.T) {
	n := noise(4)
	lengths := []int{1<<12 - 1, 1 << 12, 1<<12 + 1, 1<<16 - 1, 1 << 16, 1<<16 + 1, 262144, 1<<20 + 7}
	for length := range 1100 {
		lengths = append(lengths, length)
	}
	for _, length := range lengths {
		b := n.row(length)
		if got, want := crc.Sum(b), crc32.ChecksumIEEE(b); got != want {
			t.Fatalf("Sum of %d bytes: %X, want %X", length, got, want)
		}
	}
}

func TestSumOnlyReads(t *testing.T) {
	n := noise(5)
	for _, length := range []int{0, 1, 3, 4, 5, 100, 1000} {
		memory := n.row(length + 64)
		before := append([]byte(nil), memory...)
		handed := memory[:length]
		first := crc.Sum(handed)
		if !bytes.Equal(memory, before) {
			t.Fatalf("a Sum of %d bytes changed them, or what lies behind them", length)
		}
		if crc.Sum(handed) != first {
			t.Fatalf("a second Sum of %d bytes is another one", length)
		}
		for i := range memory[length:] {
			memory[length+i] ^= 0xFF
		}
		if crc.Sum(handed) != first {
			t.Fatalf("a Sum of %d bytes hangs on what lies behind them", length)
		}
	}
}

func TestSumKeepsNothing(t *testing.T) {
	b := []byte("123456789")
	crc.Sum(b)
	copy(b, "abcdefghi")
	if got, want := crc.Sum(b), sumByWords([]byte("abcdefghi")); got != want {
		t.Errorf("the Sum of bytes that were others before: %X, want %X", got, want)
	}
	if got := crc.Sum([]byte("123456789")); got != 0xCBF43926 {
		t.Errorf("the Sum of the same bytes elsewhere: %X", got)
	}
}

func TestSumIsSteps(t *testing.T) {
	n := noise(6)
	for length := range 300 {
		b := n.row(length)
		r := uint32(0xFFFFFFFF)
		for _, c := range b {
			r = crc.Step(r, c)
		}
		if got := crc.Sum(b); got != ^r {
			t.Fatalf("Sum of %d bytes: %X, the Steps lead to %X", length, got, ^r)
		}
	}
}

func TestSumBehind(t *testing.T) {
	n := noise(7)
	for length := range 1001 {
		if got := crc.Sum(withSum(n.row(length))); got != whole {
			t.Fatalf("the Sum of %d bytes and their Sum: %X, want %X", length, got, whole)
		}
	}
}

// TestTurnedShort turns each bit, each two and each three, of short rows.
func TestTurnedShort(t *testing.T) {
	n := noise(8)
	for length := range 9 {
		b := n.row(length)
		sum := crc.Sum(b)
		same := func(places ...int) bool {
			turn(b, places...)
			got := crc.Sum(b)
			turn(b, places...)
			return got == sum
		}
		for i := range 8 * length {
			if same(i) {
				t.Fatalf("%d bytes: the bit %d, turned, isn't seen", length, i)
			}
			for j := range i {
				if same(i, j) {
					t.Fatalf("%d bytes: the bits %d and %d, turned, aren't seen", length, i, j)
				}
				for k := range j {
					if same(i, j, k) {
						t.Fatalf("%d bytes: the bits %d, %d and %d, turned, aren't seen", length, i, j, k)
					}
				}
			}
		}
	}
}

// TestTurnedLong turns each bit of a row of 1000 bytes by itself. What two or three turn is what each turns, added (TestThreeRows), so none of these may be another one, or two others added.
func TestTurnedLong(t *testing.T) {
	n := noise(9)
	b := n.row(1000)
	sum := crc.Sum(b)
	differences := make([]uint32, 8*len(b))
	place := map[uint32]int{}
	maybe := make([]bool, 1<<22)
	for i := range differences {
		turn(b, i)
		d := crc.Sum(b) ^ sum
		turn(b, i)
		if d == 0 {
			t.Fatalf("the bit %d, turned, isn't seen", i)
		}
		if j, ok := place[d]; ok {
			t.Fatalf("the bits %d and %d, turned, aren't seen", j, i)
		}
		differences[i], place[d], maybe[d%(1<<22)] = d, i, true
	}
	for i, d := range differences {
		for j, e := range differences[:i] {
			if !maybe[(d^e)%(1<<22)] {
				continue
			}
			if k, ok := place[d^e]; ok {
				t.Fatalf("the bits %d, %d and %d, turned, aren't seen", i, j, k)
			}
		}
	}
}

// TestTurnedInLong turns two and three bits of long rows at once, some of them in the Sum behind the row.
func TestTurnedInLong(t *testing.T) {
	n := noise(10)
	for _, length := range []int{4, 5, 64, 996, 1000} {
		b := withSum(n.row(length - 4))
		places := uint32(8 * length)
		for range 1000 {
			i, j, k := int(n.next()%places), int(n.next()%places), int(n.next()%places)
			if i == j || j == k || i == k {
				continue
			}
			turn(b, i, j)
			if crc.Sum(b) == whole {
				t.Fatalf("%d bytes: the bits %d and %d, turned, aren't seen", length, i, j)
			}
			turn(b, k)
			if crc.Sum(b) == whole {
				t.Fatalf("%d bytes: the bits %d, %d and %d, turned, aren't seen", length, i, j, k)
			}
			turn(b, i, j, k)
		}
	}
}

func TestThreeRows(t *testing.T) {
	n := noise(11)
	for length := range 1001 {
		one, two, three := n.row(length), n.row(length), n.row(length)
		added := make([]byte, length)
		for i := range added {
			added[i] = one[i] ^ two[i] ^ three[i]
		}
		if got := crc.Sum(one) ^ crc.Sum(two) ^ crc.Sum(three) ^ crc.Sum(added); got != 0 {
			t.Fatalf("the four Sums of %d bytes, added: %X", length, got)
		}
	}
}
