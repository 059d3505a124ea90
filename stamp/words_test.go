package stamp_test

import (
	"math"
	"slices"

	"tailrace/api"
)

// The promises to the letter, with the document's numbers, for the other tests to hold the answers against.

// at is a time as the chapter's examples write it: its epoch, and its counters.
func at(epoch int, loops ...int) api.Stamp {
	t := api.Stamp{Depth: len(loops), Epoch: epoch}
	copy(t.Loops[:], loops)
	return t
}

// rightByWords is P5.1.
func rightByWords(t api.Stamp) bool {
	if t.Depth < 0 || t.Depth > 3 || t.Epoch < 0 || t.Epoch >= 1000 {
		return false
	}
	for i, n := range t.Loops {
		if i < t.Depth && (n < 0 || n >= 16) || i >= t.Depth && n != 0 {
			return false
		}
	}
	return true
}

// leqByWords is P5.2.
func leqByWords(a, b api.Stamp) bool {
	if !rightByWords(a) || !rightByWords(b) || a.Depth != b.Depth || a.Epoch > b.Epoch {
		return false
	}
	for i := range a.Loops {
		if a.Loops[i] > b.Loops[i] {
			return false
		}
	}
	return true
}

// compareByWords is P5.3.
func compareByWords(a, b api.Stamp) int {
	numbers := func(t api.Stamp) [5]int { return [5]int{t.Depth, t.Epoch, t.Loops[0], t.Loops[1], t.Loops[2]} }
	m, n := numbers(a), numbers(b)
	return slices.Compare(m[:], n[:])
}

// joinByWords is P5.4's first half.
func joinByWords(a, b api.Stamp) (api.Stamp, bool) {
	if !rightByWords(a) || !rightByWords(b) || a.Depth != b.Depth {
		return api.Stamp{}, false
	}
	if b.Epoch > a.Epoch {
		a.Epoch = b.Epoch
	}
	for i, n := range b.Loops {
		if n > a.Loops[i] {
			a.Loops[i] = n
		}
	}
	return a, true
}

// meetByWords is P5.4's second half.
func meetByWords(a, b api.Stamp) (api.Stamp, bool) {
	if !rightByWords(a) || !rightByWords(b) || a.Depth != b.Depth {
		return api.Stamp{}, false
	}
	if b.Epoch < a.Epoch {
		a.Epoch = b.Epoch
	}
	for i, n := range b.Loops {
		if n < a.Loops[i] {
			a.Loops[i] = n
		}
	}
	return a, true
}

// intoByWords is P5.5.
func intoByWords(t api.Stamp) (api.Stamp, bool) {
	if !rightByWords(t) || t.Depth >= 3 {
		return api.Stamp{}, false
	}
	return at(t.Epoch, append(slices.Clone(t.Loops[:t.Depth]), 0)...), true
}

// outByWords is P5.6.
func outByWords(t api.Stamp) (api.Stamp, bool) {
	if !rightByWords(t) || t.Depth <= 0 {
		return api.Stamp{}, false
	}
	return at(t.Epoch, t.Loops[:t.Depth-1]...), true
}

// stepByWords is P5.7.
func stepByWords(t api.Stamp) (api.Stamp, bool) {
	if !rightByWords(t) || t.Depth <= 0 || t.Loops[t.Depth-1]+1 >= 16 {
		return api.Stamp{}, false
	}
	t.Loops[t.Depth-1]++
	return t, true
}

// putByWords is P5.8.
func putByWords(t api.Stamp) ([]byte, api.Errno) {
	if !rightByWords(t) {
		return nil, 50
	}
	b := []byte{byte(t.Depth), byte(t.Epoch / 256), byte(t.Epoch % 256)}
	for _, n := range t.Loops[:t.Depth] {
		b = append(b, byte(n))
	}
	return b, 0
}

// getByWords is P5.9.
func getByWords(b []byte) (api.Stamp, []byte, api.Errno) {
	if len(b) < 3 || len(b) < 3+int(b[0]) {
		return api.Stamp{}, nil, 50
	}
	depth := int(b[0])
	t := api.Stamp{Depth: depth, Epoch: 256*int(b[1]) + int(b[2])}
	for i, c := range b[3 : 3+depth] {
		if i >= 3 {
			return api.Stamp{}, nil, 50
		}
		t.Loops[i] = int(c)
	}
	if !rightByWords(t) {
		return api.Stamp{}, nil, 50
	}
	return t, b[3+depth:], 0
}

// grid are the times of all these depths, epochs and counters, right or not.
func grid(depths, epochs, counters []int) []api.Stamp {
	var all []api.Stamp
	for _, depth := range depths {
		for _, epoch := range epochs {
			for _, a := range counters {
				for _, b := range counters {
					for _, c := range counters {
						all = append(all, api.Stamp{Depth: depth, Epoch: epoch, Loops: [3]int{a, b, c}})
					}
				}
			}
		}
	}
	return all
}

// edges are times around all the bounds, and far beyond them.
func edges() []api.Stamp {
	return grid(
		[]int{math.MinInt, -256, -1, 0, 1, 2, 3, 4, 5, 256, 1 << 32, math.MaxInt},
		[]int{math.MinInt, -65536, -1, 0, 1, 255, 256, 258, 999, 1000, 1001, 65536, 1 << 32, math.MaxInt},
		[]int{math.MinInt, -256, -1, 0, 1, 7, 14, 15, 16, 17, 256, 1 << 32, math.MaxInt},
	)
}

// right are those of some times that may be.
func right(some []api.Stamp) []api.Stamp {
	return slices.DeleteFunc(slices.Clone(some), func(t api.Stamp) bool { return !rightByWords(t) })
}
