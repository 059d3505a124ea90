package antichain_test

import (
	"slices"

	"tailrace/api"
	"tailrace/stamp"
)

// The promises to the letter, time by time, for the other tests to hold the answers against.

// at is a time as the chapter's examples write it: its epoch, and its counters.
func at(epoch int, loops ...int) api.Stamp {
	t := api.Stamp{Depth: len(loops), Epoch: epoch}
	copy(t.Loops[:], loops)
	return t
}

// list are times, or none.
func list(times ...api.Stamp) []api.Stamp { return times }

// rightByWords is P6.1.
func rightByWords(f []api.Stamp) bool {
	for i, a := range f {
		if !stamp.Right(a) || a.Depth != f[0].Depth {
			return false
		}
		for j, b := range f {
			if i != j && stamp.Leq(a, b) || i < j && stamp.Compare(a, b) != -1 {
				return false
			}
		}
	}
	return true
}

// ofByWords is P6.2.
func ofByWords(times []api.Stamp) ([]api.Stamp, api.Errno) {
	var f []api.Stamp
	for _, a := range times {
		if !stamp.Right(a) || a.Depth != times[0].Depth {
			return nil, 50
		}
		stays := true
		for _, b := range times {
			stays = stays && (a == b || !stamp.Leq(b, a))
		}
		for _, b := range f {
			stays = stays && a != b
		}
		if stays {
			f = append(f, a)
		}
	}
	slices.SortFunc(f, stamp.Compare)
	return f, 0
}

// isIn: is a time that is right in a frontier, by its own words?
func isIn(f []api.Stamp, t api.Stamp) bool {
	for _, x := range f {
		if x.Depth != t.Depth || stamp.Leq(x, t) {
			return false
		}
	}
	return true
}

// holdsByWords is P6.3.
func holdsByWords(f []api.Stamp, t api.Stamp) bool {
	return rightByWords(f) && stamp.Right(t) && isIn(f, t)
}

// fit: are both frontiers, of one depth, if both have times?
func fit(a, b []api.Stamp) bool {
	return rightByWords(a) && rightByWords(b) && (len(a) == 0 || len(b) == 0 || a[0].Depth == b[0].Depth)
}

// withinByWords is P6.4, of all these times.
func withinByWords(all, a, b []api.Stamp) bool {
	if !fit(a, b) {
		return false
	}
	for _, t := range all {
		if isIn(a, t) && !isIn(b, t) {
			return false
		}
	}
	return true
}

// bothByWords is P6.5's first half, of all these times.
func bothByWords(all, a, b []api.Stamp) ([]api.Stamp, api.Errno) {
	if !fit(a, b) {
		return nil, 50
	}
	return ofByWords(slices.DeleteFunc(slices.Clone(all), func(t api.Stamp) bool { return isIn(a, t) && isIn(b, t) }))
}

// eitherByWords is P6.5's second half, of all these times.
func eitherByWords(all, a, b []api.Stamp) ([]api.Stamp, api.Errno) {
	if !fit(a, b) {
		return nil, 50
	}
	return ofByWords(slices.DeleteFunc(slices.Clone(all), func(t api.Stamp) bool { return isIn(a, t) || isIn(b, t) }))
}

// sameByWords is P6.6.
func sameByWords(a, b []api.Stamp) bool {
	if len(a) != len(b) {
		return false
	}
	for i := range a {
		if a[i] != b[i] {
			return false
		}
	}
	return true
}

// grid are the times of all these epochs, and of a counter of each of these rows.
func grid(epochs []int, counters ...[]int) []api.Stamp {
	var all []api.Stamp
	for _, epoch := range epochs {
		all = append(all, at(epoch))
	}
	for i, row := range counters {
		var deeper []api.Stamp
		for _, t := range all {
			for _, n := range row {
				t.Depth, t.Loops[i] = i+1, n
				deeper = append(deeper, t)
			}
		}
		all = deeper
	}
	return all
}

// world is a grid of right times: what is in frontiers of it, in both of two, or in one, is told by those of it, as any other time is in just what the last of it ahead of that is in.
type world struct {
	all       []api.Stamp
	frontiers [][]api.Stamp // all that there are
}

// worlds are some of each depth, at the bounds and amid them.
func worlds() []world {
	var made []world
	for _, all := range [][]api.Stamp{
		grid([]int{0, 1, 500, 998, 999}),
		grid([]int{0, 1, 500, 999}, []int{0, 1, 7, 15}),
		grid([]int{3, 4, 5}, []int{0, 1}, []int{14, 15}),
		grid([]int{0, 999}, []int{0, 15}, []int{2, 3}, []int{0, 1}),
	} {
		made = append(made, world{all, frontiersOf(all)})
	}
	return made
}

// frontiersOf are all the frontiers of some times that rise.
func frontiersOf(all []api.Stamp) [][]api.Stamp {
	var made [][]api.Stamp
	for _, f := range listsOf(all) {
		if rightByWords(f) {
			made = append(made, f)
		}
	}
	return made
}

// listsOf are all choices of some times, in order.
func listsOf(all []api.Stamp) [][]api.Stamp {
	made := [][]api.Stamp{nil}
	for _, t := range all {
		for _, f := range made {
			made = append(made, append(slices.Clone(f), t))
		}
	}
	return made
}

// wrong are times that may not be.
func wrong() []api.Stamp {
	return list(at(1000), at(-1), at(1, 16), at(1, -1), at(1, 2, 16), at(1000, 1, 2, 3), api.Stamp{Depth: 4}, api.Stamp{Depth: -1},
		api.Stamp{Loops: [3]int{1}}, api.Stamp{Depth: 1, Loops: [3]int{1, 0, 1}}, at(-1<<63, 1<<63-1), api.Stamp{Depth: 1<<63 - 1}, api.Stamp{Depth: -1 << 63})
}
