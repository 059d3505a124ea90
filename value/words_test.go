package value_test

import (
	"encoding/binary"
	"math"

	"tailrace/api"
)

// These are the promises' words, written down as they stand; the tests hold the answers against them.

// compareByWords: by Key, then Val.
func compareByWords(a, b api.Record) int {
	switch {
	case a.Key < b.Key:
		return -1
	case a.Key > b.Key:
		return 1
	case a.Val < b.Val:
		return -1
	case a.Val > b.Val:
		return 1
	}
	return 0
}

// often tells how often each record is in a row.
func often(l []api.Record) map[api.Record]int {
	n := map[api.Record]int{}
	for _, r := range l {
		n[r]++
	}
	return n
}

// sortedByWords are the records that are there so often, the least one first.
func sortedByWords(n map[api.Record]int) []api.Record {
	var once []api.Record
	for r := range n {
		i := 0
		for i < len(once) && compareByWords(once[i], r) < 0 {
			i++
		}
		once = append(once[:i:i], append([]api.Record{r}, once[i:]...)...)
	}
	var l []api.Record
	for _, r := range once {
		for range n[r] {
			l = append(l, r)
		}
	}
	return l
}

// sameByWords: is each record as often in a as in b?
func sameByWords(a, b []api.Record) bool {
	inA, inB := often(a), often(b)
	for _, l := range [][]api.Record{a, b} {
		for _, r := range l {
			if inA[r] != inB[r] {
				return false
			}
		}
	}
	return true
}

// lessByWords: those of a less those of b, each as often as it is in b, if each is at least as often in a.
func lessByWords(a, b []api.Record) ([]api.Record, bool) {
	left := often(a)
	for r, n := range often(b) {
		if left[r] < n {
			return nil, false
		}
		left[r] -= n
	}
	return sortedByWords(left), true
}

// putByWords: Key and Val, 8 bytes each, the highest first.
func putByWords(l []api.Record) []byte {
	var b []byte
	for _, r := range l {
		b = binary.BigEndian.AppendUint64(b, uint64(r.Key))
		b = binary.BigEndian.AppendUint64(b, uint64(r.Val))
	}
	return b
}

// edges are numbers around those at which their bytes, and their order, turn.
func edges() []int64 {
	return []int64{
		math.MinInt64, math.MinInt64 + 1, -1 << 62, -1<<32 - 1, -1 << 32, -1<<31 - 1, -257, -256, -255, -129, -128, -2, -1,
		0, 1, 2, 127, 128, 255, 256, 257, 1<<31 - 1, 1 << 31, 1<<32 - 1, 1 << 32, 1<<53 + 1, 1 << 62, math.MaxInt64 - 1, math.MaxInt64,
	}
}

// few are records so near to each other that each number alone tells some of them from others.
func few() []api.Record {
	return []api.Record{{Key: 1, Val: 5}, {Key: 2, Val: 0}, {Key: 2, Val: 1}, {Key: -1, Val: 5}}
}

// rows are all rows of up to n records of l.
func rows(l []api.Record, n int) [][]api.Record {
	all := [][]api.Record{nil}
	for from := 0; n > 0; n-- {
		to := len(all)
		for _, row := range all[from:to] {
			for _, r := range l {
				all = append(all, append(row[:len(row):len(row)], r))
			}
		}
		from = to
	}
	return all
}

// chances are numbers that stand in no order, the same ones in each run.
type chances struct{ seed uint64 }

func (c *chances) next(n int) int {
	c.seed = c.seed*6364136223846793005 + 1442695040888963407
	return int(c.seed >> 33 % uint64(n))
}

// row are n records in no order, out of so many for a Key and for a Val, some of them huge.
func (c *chances) row(n, keys, vals int) []api.Record {
	var l []api.Record
	for range n {
		l = append(l, api.Record{Key: c.number(keys), Val: c.number(vals)})
	}
	return l
}

func (c *chances) number(n int) int64 {
	x := c.next(n)
	if x < len(edges()) {
		return edges()[x]
	}
	return int64(x - n/2)
}

// mixed are the same records in another order.
func (c *chances) mixed(l []api.Record) []api.Record {
	m := append([]api.Record(nil), l...)
	for i := range m {
		j := i + c.next(len(m)-i)
		m[i], m[j] = m[j], m[i]
	}
	return m
}
