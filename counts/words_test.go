package counts_test

import (
	"slices"
	"testing"

	"tailrace/api"
	"tailrace/counts"
	"tailrace/stamp"
)

// The promises to the letter, addition by addition, for the other tests to hold the answers against.

// at is a time as the chapter's examples write it: its epoch, and its counters.
func at(epoch int, loops ...int) api.Stamp {
	t := api.Stamp{Depth: len(loops), Epoch: epoch}
	copy(t.Loops[:], loops)
	return t
}

// list are times, or none.
func list(times ...api.Stamp) []api.Stamp { return times }

// addition is what Add is handed.
type addition struct {
	t api.Stamp
	n int64
}

// words are counts as the chapter has them: all that was added, without an error, in order.
type words struct {
	depth int
	added []addition
}

// count is P7.3, of one time.
func (w *words) count(t api.Stamp) (sum int64) {
	for _, a := range w.added {
		if a.t == t {
			sum += a.n
		}
	}
	return sum
}

// add is P7.2, but for nil.
func (w *words) add(t api.Stamp, n int64) api.Errno {
	if !stamp.Right(t) || t.Depth != w.depth {
		return 50
	}
	if n < -1099511627776 || n > 1099511627776 || w.count(t)+n < -1099511627776 || w.count(t)+n > 1099511627776 {
		return 3
	}
	w.added = append(w.added, addition{t, n})
	return 0
}

// copied is P7.5.
func (w *words) copied() *words { return &words{w.depth, slices.Clone(w.added)} }

// times is P7.3, of all times.
func (w *words) times() []api.Stamp {
	var told []api.Stamp
	for _, a := range w.added {
		if w.count(a.t) != 0 && !slices.Contains(told, a.t) {
			told = append(told, a.t)
		}
	}
	slices.SortFunc(told, stamp.Compare)
	return told
}

// frontier is P7.4: the times that are there, and that no other one is ahead of.
func (w *words) frontier() []api.Stamp {
	var f []api.Stamp
	times := w.times()
	for _, a := range times {
		first := w.count(a) > 0
		for _, b := range times {
			first = first && (a == b || w.count(b) <= 0 || !stamp.Leq(b, a))
		}
		if first {
			f = append(f, a)
		}
	}
	return f
}

// told: does c tell all as the words have it, of these times and of those that were added?
func (w *words) told(t *testing.T, c *counts.Counts, all []api.Stamp) bool {
	t.Helper()
	if got, want := c.Times(), w.times(); !slices.Equal(got, want) {
		t.Errorf("behind %v: Times %v, want %v", w.added, got, want)
		return false
	}
	if got, want := c.Frontier(), w.frontier(); !slices.Equal(got, want) {
		t.Errorf("behind %v: Frontier %v, want %v", w.added, got, want)
		return false
	}
	for _, x := range slices.Concat(all, w.times()) {
		if got, want := c.Count(x), w.count(x); got != want {
			t.Errorf("behind %v: Count(%v) %d, want %d", w.added, x, got, want)
			return false
		}
	}
	return true
}

// world are times of one depth.
type world struct {
	depth int
	all   []api.Stamp
}

// worlds are a few times of each depth, at the bounds and amid them, some of them beside each other in the order.
func worlds() []world {
	return []world{
		{0, list(at(0), at(1), at(500), at(999))},
		{1, list(at(0, 0), at(0, 15), at(3, 7), at(999, 0))},
		{2, list(at(1, 2, 3), at(1, 3, 2), at(2, 2, 2), at(2, 3, 3))},
		{3, list(at(5, 0, 0, 1), at(5, 0, 1, 0), at(5, 15, 15, 15), at(999, 0, 0, 0))},
	}
}

// wrong are times that may not be.
func wrong() []api.Stamp {
	return list(at(1000), at(-1), at(1, 16), at(1, -1), at(1, 2, 16), at(1000, 1, 2, 3), api.Stamp{Depth: 4}, api.Stamp{Depth: -1},
		api.Stamp{Loops: [3]int{1}}, api.Stamp{Depth: 1, Loops: [3]int{1, 0, 1}}, at(-1<<63, 1<<63-1), api.Stamp{Depth: 1<<63 - 1}, api.Stamp{Depth: -1 << 63})
}
