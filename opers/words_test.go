package opers_test

import (
	"math"
	"math/big"
	"slices"

	"tailrace/api"
)

// These are the promises' words, written down as they stand; the tests hold the answers against them.

// numbersByWords: are a node's numbers right (chapter 10)?
func numbersByWords(n api.Node) bool {
	switch n.Kind {
	case 2:
		return n.A <= 3 && !(n.A == 3 && n.B <= 0)
	case 3:
		return n.A <= 2 && !(n.A == 1 && n.B <= 0)
	case 5:
		return n.A <= 3 && n.B == 0
	case 9:
		return n.A == 0 && n.B >= 1 && n.B <= 16
	case 1, 4, 6, 7, 8, 10:
		return n.A == 0 && n.B == 0
	}
	return false
}

// inputsByWords is how many inputs a kind has (chapter 10).
func inputsByWords(kind uint8) int {
	if kind == 1 {
		return 0
	}
	if kind == 4 || kind == 6 {
		return 2
	}
	return 1
}

// gone is a number of any size, as 64 bits have it when it goes round.
func gone(x *big.Int) int64 {
	all := new(big.Int).Lsh(big.NewInt(1), 64)
	rest := new(big.Int).Mod(x, all)
	if rest.Bit(63) == 1 {
		rest.Sub(rest, all)
	}
	return rest.Int64()
}

func plus(a, b int64) int64  { return gone(new(big.Int).Add(big.NewInt(a), big.NewInt(b))) }
func times(a, b int64) int64 { return gone(new(big.Int).Mul(big.NewInt(a), big.NewInt(b))) }

// mod is a modulo b, which is above 0, from 0 on.
func mod(a, b int64) int64 { return new(big.Int).Mod(big.NewInt(a), big.NewInt(b)).Int64() }

// runByWords is P13.2.
func runByWords(n api.Node, in ...[]api.Record) ([]api.Record, api.Errno) {
	if !numbersByWords(n) {
		return nil, 130
	}
	if len(in) != inputsByWords(n.Kind) {
		return nil, 100
	}
	var made []api.Record
	switch n.Kind {
	case 2:
		for _, r := range in[0] {
			made = append(made, [4]api.Record{{Key: r.Key, Val: plus(r.Val, n.B)}, {Key: r.Key, Val: times(r.Val, n.B)}, {Key: r.Val, Val: r.Key}, {Key: mod(r.Val, max(n.B, 1)), Val: r.Val}}[n.A])
		}
	case 3:
		for _, r := range in[0] {
			if [3]bool{r.Val < n.B, mod(r.Val, max(n.B, 1)) == 0, r.Key < n.B}[n.A] {
				made = append(made, r)
			}
		}
	case 5:
		made = reduceByWords(n.A, in[0])
	case 6:
		for _, a := range in[0] {
			for _, b := range in[1] {
				if a.Key == b.Key {
					made = append(made, api.Record{Key: a.Key, Val: plus(a.Val, b.Val)})
				}
			}
		}
	default:
		for _, l := range in {
			made = append(made, l...)
		}
	}
	return inOrder(made), 0
}

// reduceByWords: of each Key one record.
func reduceByWords(a uint8, l []api.Record) []api.Record {
	var made []api.Record
	for i, r := range l {
		if slices.ContainsFunc(l[:i], func(s api.Record) bool { return s.Key == r.Key }) {
			continue
		}
		sum, many, least, greatest := new(big.Int), int64(0), r.Val, r.Val
		for _, s := range l {
			if s.Key == r.Key {
				sum.Add(sum, big.NewInt(s.Val))
				many, least, greatest = many+1, min(least, s.Val), max(greatest, s.Val)
			}
		}
		made = append(made, api.Record{Key: r.Key, Val: [4]int64{gone(sum), many, least, greatest}[a]})
	}
	return made
}

// inOrder sorts l by Key, then Val.
func inOrder(l []api.Record) []api.Record {
	slices.SortFunc(l, func(a, b api.Record) int { return slices.Compare([]int64{a.Key, a.Val}, []int64{b.Key, b.Val}) })
	return l
}

// rightByWords: is a time right (chapter 5)?
func rightByWords(t api.Stamp) bool {
	if t.Depth < 0 || t.Depth > 3 || t.Epoch < 0 || t.Epoch >= 1000 {
		return false
	}
	for i, c := range t.Loops {
		if c < 0 || c >= 16 || i >= t.Depth && c != 0 {
			return false
		}
	}
	return true
}

// timeByWords is P13.3.
func timeByWords(n api.Node, t api.Stamp) (api.Stamp, bool) {
	if !rightByWords(t) {
		return api.Stamp{}, false
	}
	loops := slices.Clone(t.Loops[:t.Depth])
	last := t.Depth - 1
	switch n.Kind {
	case 7:
		loops = append(loops, 0)
	case 8:
		if last < 0 {
			return api.Stamp{}, false
		}
		loops = loops[:last]
	case 9:
		if last < 0 || loops[last]+1 >= 16 || big.NewInt(int64(loops[last]+1)).Cmp(big.NewInt(n.B)) >= 0 {
			return api.Stamp{}, false
		}
		loops[last]++
	}
	if len(loops) > 3 {
		return api.Stamp{}, false
	}
	return at(t.Epoch, loops...), true
}

// ofByWords is P13.4.
func ofByWords(n api.Node, r api.Record, worker, workers int) int {
	if workers < 1 || workers > 64 || worker < 0 || worker > workers-1 {
		return -1
	}
	if n.Kind == 5 || n.Kind == 6 {
		return int(mod(r.Key, int64(workers)))
	}
	return worker
}

// at is a time as the chapters' examples write it: its epoch, and its counters.
func at(epoch int, loops ...int) api.Stamp {
	t := api.Stamp{Depth: len(loops), Epoch: epoch}
	copy(t.Loops[:], loops)
	return t
}

// list are records, each told by its Key and Val.
func list(numbers ...int64) []api.Record {
	var l []api.Record
	for i := 0; i < len(numbers); i += 2 {
		l = append(l, api.Record{Key: numbers[i], Val: numbers[i+1]})
	}
	return l
}

// edges are numbers around those at which they go round, or look like others when bits of them are lost.
func edges() []int64 {
	return []int64{
		math.MinInt64, math.MinInt64 + 1, -1 << 62, -1<<32 - 1, -1 << 32, -1 << 31, -257, -256, -64, -17, -16, -4, -3, -2, -1,
		0, 1, 2, 3, 4, 15, 16, 17, 63, 64, 65, 255, 256, 1 << 31, 1 << 32, 1<<32 + 1, 1<<53 + 1, 1 << 62, math.MaxInt64 - 1, math.MaxInt64,
	}
}

// nodes are one of each kind, by each A and some Bs by which its numbers are right.
func nodes() []api.Node {
	var all []api.Node
	for kind := range 256 {
		for a := range 5 {
			for _, b := range append(edges(), 10, 7) {
				if n := (api.Node{Kind: uint8(kind), A: uint8(a), B: b}); numbersByWords(n) {
					all = append(all, n)
				}
			}
		}
	}
	return all
}

// ins are so many rows as n has inputs.
func ins(n api.Node, first, second []api.Record) [][]api.Record {
	return [][]api.Record{first, second}[:inputsByWords(n.Kind)]
}

// rows are all rows of up to n records of l.
func rows(l []api.Record, n int) [][]api.Record {
	all := [][]api.Record{nil}
	for from := 0; n > 0; n-- {
		to := len(all)
		for _, row := range all[from:to] {
			for _, r := range l {
				all = append(all, append(row[:len(row):len(row)], r))
			}
		}
		from = to
	}
	return all
}

// chances are numbers that stand in no order, the same ones in each run.
type chances struct{ seed uint64 }

func (c *chances) next(n int) int {
	c.seed = c.seed*6364136223846793005 + 1442695040888963407
	return int(c.seed >> 33 % uint64(n))
}

// row are n records in no order, out of so many Keys and Vals, some of them huge.
func (c *chances) row(n, keys, vals int) []api.Record {
	var l []api.Record
	for range n {
		l = append(l, api.Record{Key: c.number(keys), Val: c.number(vals)})
	}
	return l
}

func (c *chances) number(n int) int64 {
	x := c.next(n)
	if x%3 == 0 {
		return edges()[x/3%len(edges())]
	}
	return int64(x - n/2)
}

// mixed are the same records in another order.
func (c *chances) mixed(l []api.Record) []api.Record {
	m := slices.Clone(l)
	for i := range m {
		j := i + c.next(len(m)-i)
		m[i], m[j] = m[j], m[i]
	}
	return m
}
