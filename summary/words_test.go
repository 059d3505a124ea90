package summary_test

import (
	"slices"

	"tailrace/api"
	"tailrace/summary"
)

// The promises to the letter, counter by counter, for the other tests to hold the answers against.

// at is a time as the chapters' examples write it: its epoch, and its counters.
func at(epoch int, loops ...int) api.Stamp {
	t := api.Stamp{Depth: len(loops), Epoch: epoch}
	copy(t.Loops[:], loops)
	return t
}

// sum is a summary, its Tail as long as it is told.
func sum(from, to, keep, add int, tail ...int) summary.Sum {
	s := summary.Sum{From: from, To: to, Keep: keep, Add: add}
	copy(s.Tail[:], tail)
	return s
}

// list are summaries, or none.
func list(l ...summary.Sum) []summary.Sum { return l }

// timeByWords: is it a time that is right?
func timeByWords(t api.Stamp) bool {
	if t.Depth < 0 || t.Depth > 3 || t.Epoch < 0 || t.Epoch >= 1000 {
		return false
	}
	for i, n := range t.Loops {
		if n < 0 || n >= 16 || i >= t.Depth && n != 0 {
			return false
		}
	}
	return true
}

// rightByWords is P8.1.
func rightByWords(s summary.Sum) bool {
	if s.From < 0 || s.From > 3 || s.To < 0 || s.To > 3 || s.Keep < 0 || s.Keep > s.From || s.Keep > s.To {
		return false
	}
	if s.Add < 0 || s.Add >= 16 || s.Keep == 0 && s.Add != 0 {
		return false
	}
	for i, n := range s.Tail {
		if i < s.To-s.Keep && (n < 0 || n >= 16) || i >= s.To-s.Keep && n != 0 {
			return false
		}
	}
	return true
}

// counters are those that a summary that is right leads to, without a bound.
func counters(s summary.Sum, loops []int) []int {
	made := append([]int{}, loops[:s.Keep]...)
	if s.Keep > 0 {
		made[s.Keep-1] += s.Add
	}
	return append(made, s.Tail[:s.To-s.Keep]...)
}

// applyByWords is P8.3.
func applyByWords(s summary.Sum, t api.Stamp) (api.Stamp, bool) {
	if !rightByWords(s) || !timeByWords(t) || t.Depth != s.From {
		return api.Stamp{}, false
	}
	made := counters(s, t.Loops[:t.Depth])
	if slices.ContainsFunc(made, func(n int) bool { return n >= 16 }) {
		return api.Stamp{}, false
	}
	return at(t.Epoch, made...), true
}

// thenByWords is P8.4: counters much greater than all that is added are sent both ways, and each that comes out is told by how great it is.
func thenByWords(a, b summary.Sum) (summary.Sum, bool) {
	if !rightByWords(a) || !rightByWords(b) || a.To != b.From {
		return summary.Sum{}, false
	}
	far := []int{1000, 2000, 3000}
	made := counters(b, counters(a, far[:a.From]))
	s := sum(a.From, b.To, 0, 0)
	for i, n := range made {
		if n >= 1000 { // kept, and with it all ahead of it, to which nothing may be added
			s.Keep, s.Add = i+1, n-far[i]
		} else {
			s.Tail[i-s.Keep] = n
		}
	}
	if s.Add >= 16 || slices.Max(s.Tail[:]) >= 16 {
		return summary.Sum{}, false
	}
	return s, true
}

// leqByWords is P8.5.
func leqByWords(a, b summary.Sum) bool {
	if !rightByWords(a) || !rightByWords(b) || a.From != b.From || a.To != b.To || a.Keep > b.Keep {
		return false
	}
	for place := 1; place <= a.To; place++ {
		if place <= a.Keep {
			if addedAt(a, place) > addedAt(b, place) {
				return false
			}
			continue
		}
		number, other := a.Tail[place-a.Keep-1], addedAt(b, place)
		if place > b.Keep {
			other = b.Tail[place-b.Keep-1]
		}
		if number > other {
			return false
		}
	}
	return true
}

// addedAt is what s adds to the counter at a place that it keeps, the first one being 1.
func addedAt(s summary.Sum, place int) int {
	if place == s.Keep {
		return s.Add
	}
	return 0
}

// leastByWords is P8.6.
func leastByWords(l []summary.Sum) []summary.Sum {
	var least []summary.Sum
	for _, s := range l {
		stays := rightByWords(s) && !slices.Contains(least, s)
		for _, x := range l {
			stays = stays && (x == s || !leqByWords(x, s))
		}
		if stays {
			least = append(least, s)
		}
	}
	for i := range least {
		for j := range i {
			if numbersByWords(least[i], least[j]) < 0 {
				least[i], least[j] = least[j], least[i]
			}
		}
	}
	return least
}

// numbersByWords holds the numbers of two against each other, the first one first.
func numbersByWords(a, b summary.Sum) int {
	return slices.Compare([]int{a.From, a.To, a.Keep, a.Add, a.Tail[0], a.Tail[1], a.Tail[2]}, []int{b.From, b.To, b.Keep, b.Add, b.Tail[0], b.Tail[1], b.Tail[2]})
}

// all are the right summaries whose Adds and Tails are of some numbers, with the 0 that there must be.
func all(numbers ...int) []summary.Sum {
	var made []summary.Sum
	for from := range 4 {
		for to := range 4 {
			for keep := range min(from, to) + 1 {
				for _, add := range numbers {
					if keep > 0 || add == 0 {
						made = append(made, tails(sum(from, to, keep, add), 0, numbers)...)
					}
				}
			}
		}
	}
	return made
}

// tails are s with all Tails of some numbers, from a place on.
func tails(s summary.Sum, place int, numbers []int) []summary.Sum {
	if place == s.To-s.Keep {
		return list(s)
	}
	var made []summary.Sum
	for _, n := range numbers {
		s.Tail[place] = n
		made = append(made, tails(s, place+1, numbers)...)
	}
	return made
}

// times are those of an epoch, a depth, and counters of some numbers.
func times(epoch, depth int, numbers ...int) []api.Stamp {
	made := []api.Stamp{at(epoch, make([]int, depth)...)}
	for i := range depth {
		var more []api.Stamp
		for _, t := range made {
			for _, n := range numbers {
				t.Loops[i] = n
				more = append(more, t)
			}
		}
		made = more
	}
	return made
}

// wrong are summaries that may not be, each by one thing.
func wrong() []summary.Sum {
	return list(sum(-1, 0, 0, 0), sum(4, 0, 0, 0), sum(0, -1, 0, 0), sum(0, 4, 0, 0), sum(4, 4, 4, 0), sum(-1, -1, -1, 0),
		sum(1, 1, -1, 0), sum(1, 1, 2, 0), sum(2, 1, 2, 0), sum(1, 2, 2, 0), sum(3, 3, 4, 0), sum(0, 0, 1, 0), sum(0, 0, 1, 1), sum(0, 1, 1, 0), sum(1, 0, 1, 0),
		sum(1, 1, 1, -1), sum(1, 1, 1, 16), sum(3, 3, 3, 16), sum(1, 1, 0, 1), sum(0, 0, 0, 1), sum(3, 3, 0, 15), sum(1, 1, 0, -1),
		sum(0, 1, 0, 0, 16), sum(0, 1, 0, 0, -1), sum(0, 2, 0, 0, 1, 16), sum(0, 3, 0, 0, 1, 2, 16), sum(3, 3, 2, 4, -1), sum(3, 3, 1, 4, 1, -1), sum(3, 3, 0, 0, 1, 2, -1),
		sum(0, 0, 0, 0, 1), sum(1, 1, 1, 1, 1), sum(0, 1, 0, 0, 2, 1), sum(0, 2, 0, 0, 2, 1, 1), sum(3, 2, 2, 0, 1), sum(3, 3, 3, 0, 0, 0, 1), sum(2, 2, 1, 1, 0, -1),
		sum(1<<63-1, 1, 1, 0), sum(-1<<63, 1, 1, 0), sum(1, 1<<63-1, 1, 0), sum(1, -1<<63, 1, 0), sum(1, 1, 1<<63-1, 0), sum(1, 1, -1<<63, 0), sum(1, 1, 1, 1<<63-1), sum(1, 1, 1, -1<<63),
		sum(1<<63-1, 1<<63-1, 1<<63-1, 1<<63-1, 1<<63-1), sum(-1<<63, -1<<63, -1<<63, -1<<63, -1<<63), sum(3, 1<<63-1, -1<<63, 0), sum(1<<32, 1<<32, 1<<32, 0), sum(257, 257, 257, 0),
		sum(0, 1, 0, 0, 1<<63-1), sum(0, 1, 0, 0, -1<<63), sum(1, 1, 1, 1<<32+1), sum(0, 1, 0, 0, 1<<32+1))
}

// wrongTimes are times that may not be.
func wrongTimes() []api.Stamp {
	return []api.Stamp{at(1000), at(-1), at(1, 16), at(1, -1), at(1, 2, 16), at(1, 16, 2), at(1000, 1, 2, 3), {Depth: 4}, {Depth: -1},
		{Loops: [3]int{1}}, {Depth: 1, Loops: [3]int{1, 0, 1}}, at(-1<<63, 1<<63-1), {Depth: 1<<63 - 1}, {Depth: -1 << 63}}
}
