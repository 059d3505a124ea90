package opers_test

import (
	"math"
	"slices"
	"testing"

	"tailrace/api"
	"tailrace/opers"
)

const most, least = math.MaxInt64, math.MinInt64

func TestWaits(t *testing.T) {
	for kind := range 256 {
		if got, want := opers.Waits(uint8(kind)), kind == 5 || kind == 6; got != want {
			t.Errorf("kind %d: %t", kind, got)
		}
	}
}

// TestRun tells by hand what nodes make.
func TestRun(t *testing.T) {
	for i, x := range []struct {
		kind, a uint8
		b       int64
		in      [][]api.Record
		want    []api.Record
	}{
		{api.Map, 3, 4, [][]api.Record{list(9, -3)}, list(1, -3)},                                 // the chapter's
		{api.Reduce, 0, 0, [][]api.Record{list(1, 2, 2, 7, 1, 3)}, list(1, 5, 2, 7)},              // the chapter's
		{api.Join, 0, 0, [][]api.Record{list(1, 2, 1, 3, 2, 9), list(1, 10)}, list(1, 12, 1, 13)}, // the chapter's
		{api.Map, 0, 10, [][]api.Record{list(2, 5, 1, 7, 2, 5)}, list(1, 17, 2, 15, 2, 15)},       // as often as they are there
		{api.Map, 0, -1, [][]api.Record{list(1, least)}, list(1, most)},                           // beyond 64 bits: round
		{api.Map, 0, most, [][]api.Record{list(1, most)}, list(1, -2)},
		{api.Map, 0, 0, [][]api.Record{list(3, 1, 1, 3)}, list(1, 3, 3, 1)},
		{api.Map, 1, -3, [][]api.Record{list(1, 5, 1, 6)}, list(1, -18, 1, -15)},
		{api.Map, 1, -1, [][]api.Record{list(1, least)}, list(1, least)},
		{api.Map, 1, 1 << 32, [][]api.Record{list(7, 1<<32, 7, 3)}, list(7, 0, 7, 3<<32)},
		{api.Map, 1, 0, [][]api.Record{list(7, 4, 7, -4)}, list(7, 0, 7, 0)},
		{api.Map, 2, 5, [][]api.Record{list(1, 9, 2, -9)}, list(-9, 2, 9, 1)},
		{api.Map, 2, -5, [][]api.Record{list(least, most)}, list(most, least)},
		{api.Map, 3, 1, [][]api.Record{list(9, -3, 8, 0, 7, 3)}, list(0, -3, 0, 0, 0, 3)},
		{api.Map, 3, 3, [][]api.Record{list(0, -3, 0, -1, 0, 5)}, list(0, -3, 2, -1, 2, 5)},
		{api.Map, 3, most, [][]api.Record{list(0, least, 0, most)}, list(0, most, most-1, least)}, // -1 and 0, from 0 on
		{api.Map, 3, 1 << 62, [][]api.Record{list(0, -1)}, list(1<<62-1, -1)},
		{api.Filter, 0, 5, [][]api.Record{list(1, 5, 9, 4, 0, -6)}, list(0, -6, 9, 4)},
		{api.Filter, 0, least, [][]api.Record{list(1, least, 1, 0)}, nil},
		{api.Filter, 0, most, [][]api.Record{list(1, most, 1, most-1)}, list(1, most-1)},
		{api.Filter, 1, 3, [][]api.Record{list(1, -6, 2, 4, 3, 0, 4, 3)}, list(1, -6, 3, 0, 4, 3)},
		{api.Filter, 1, 1, [][]api.Record{list(1, least, 1, -1)}, list(1, least, 1, -1)},
		{api.Filter, 1, 1 << 32, [][]api.Record{list(1, 1, 1, 1<<33)}, list(1, 1<<33)},
		{api.Filter, 2, 2, [][]api.Record{list(2, 0, 1, 5, -9, 9)}, list(-9, 9, 1, 5)},
		{api.Filter, 2, -3, [][]api.Record{list(-3, -9, -4, 9)}, list(-4, 9)},
		{api.Union, 0, 0, [][]api.Record{list(2, 1, 3, 3), list(1, 1, 2, 1)}, list(1, 1, 2, 1, 2, 1, 3, 3)},
		{api.Union, 0, 0, [][]api.Record{nil, list(2, 0, 1, 0)}, list(1, 0, 2, 0)},
		{api.Union, 0, 0, [][]api.Record{list(2, 0, 1, 0), nil}, list(1, 0, 2, 0)},
		{api.Reduce, 0, 0, [][]api.Record{list(5, most, 5, 1, 4, 1, 4, -1)}, list(4, 0, 5, least)},
		{api.Reduce, 1, 0, [][]api.Record{list(1, 2, 2, 7, 1, 3, 1, 3)}, list(1, 3, 2, 1)},
		{api.Reduce, 2, 0, [][]api.Record{list(1, 2, 2, 7, 1, -3, 2, 8)}, list(1, -3, 2, 7)},
		{api.Reduce, 2, 0, [][]api.Record{list(1, most, 2, 7, 1, most)}, list(1, most, 2, 7)},
		{api.Reduce, 3, 0, [][]api.Record{list(1, -2, 2, 7, 1, -3, 2, 8)}, list(1, -2, 2, 8)},
		{api.Reduce, 3, 0, [][]api.Record{list(1, least, -1, 7, 1, least)}, list(-1, 7, 1, least)},
		{api.Join, 0, 0, [][]api.Record{list(1, most, 3, 1), list(1, 1, 2, 1)}, list(1, least)},
		{api.Join, 0, 0, [][]api.Record{list(1, 2, 1, 2), list(1, 5, 1, 5, 1, 0)}, list(1, 2, 1, 2, 1, 7, 1, 7, 1, 7, 1, 7)},
		{api.Join, 0, 0, [][]api.Record{list(1, 2), list(2, 1)}, nil},
		{api.Join, 0, 0, [][]api.Record{list(0, 0), nil}, nil},
		{api.Join, 0, 0, [][]api.Record{nil, list(0, 0)}, nil},
		{api.Ingress, 0, 0, [][]api.Record{list(2, 1, 1, 1, 2, 1)}, list(1, 1, 2, 1, 2, 1)},
		{api.Egress, 0, 0, [][]api.Record{list(2, 1, 1, 1)}, list(1, 1, 2, 1)},
		{api.Feedback, 0, 1, [][]api.Record{list(2, 1, 1, 1)}, list(1, 1, 2, 1)}, // as often as it is fed: only Time asks for B
		{api.Feedback, 0, 16, [][]api.Record{list(2, 1, 1, 1)}, list(1, 1, 2, 1)},
		{api.Output, 0, 0, [][]api.Record{list(2, 1, 1, 1)}, list(1, 1, 2, 1)},
		{api.Input, 0, 0, nil, nil}, {api.Input, 0, 0, [][]api.Record{}, nil},
	} {
		if l, e := opers.Run(api.Node{Kind: x.kind, A: x.a, B: x.b}, x.in...); !slices.Equal(l, x.want) || e != 0 {
			t.Errorf("%d: kind %d, A %d, B %d makes %v, %d of %v, want %v", i, x.kind, x.a, x.b, l, e, x.in, x.want)
		}
	}
}

// held holds what n makes against the words.
func held(t *testing.T, n api.Node, in ...[]api.Record) {
	t.Helper()
	want, is := runByWords(n, in...)
	if l, e := opers.Run(n, in...); !slices.Equal(l, want) || e != is || e != 0 && l != nil {
		t.Fatalf("kind %d, A %d, B %d makes %v, %d of %v, want %v, %d", n.Kind, n.A, n.B, l, e, in, want, is)
	}
}

// TestRunEdges: records of numbers at all edges, by numbers at all edges.
func TestRunEdges(t *testing.T) {
	var all []api.Record
	for _, k := range []int64{least, -5, -1, 0, 1, 5, 1 << 32, most} {
		for _, v := range edges() {
			all = append(all, api.Record{Key: k, Val: v})
		}
	}
	for _, n := range nodes() {
		held(t, n, ins(n, all, all[:50])...)
		if inputsByWords(n.Kind) == 1 {
			for _, r := range all {
				held(t, n, []api.Record{r})
			}
		}
	}
}

// TestRunRows: all short rows of a few records, and long ones in no order.
func TestRunRows(t *testing.T) {
	c := &chances{seed: 1}
	few := list(1, 5, 2, 0, 2, 1, -1, 5)
	for _, n := range nodes() {
		if n.B < -4 || n.B > 7 {
			continue // these only change what is told of one record
		}
		short := rows(few, 4)
		if inputsByWords(n.Kind) == 2 {
			short = rows(few, 3)
			for _, second := range rows(few[:3], 3) {
				for _, first := range short {
					held(t, n, first, second)
				}
			}
			continue
		}
		for _, l := range short {
			held(t, n, ins(n, l, nil)...)
		}
	}
	for i := range 30 {
		for _, n := range nodes() {
			held(t, n, ins(n, c.row(c.next(60), 1+i, 1+3*i), c.row(c.next(30), 1+i, 1+3*i))...)
		}
	}
	long, keys := c.row(20000, 60, 200), c.row(3000, 1000, 5)
	for _, n := range nodes() {
		if n.B == 0 || n.B == 7 {
			held(t, n, ins(n, long, keys)...)
			held(t, n, ins(n, keys, long[:500])...)
		}
	}
}

// TestRunMany: there is no limit to how many records come of it.
func TestRunMany(t *testing.T) {
	many := make([]api.Record, 1200)
	for i := range many {
		many[i] = api.Record{Key: 7, Val: int64(i)}
	}
	l, e := opers.Run(api.Node{Kind: api.Join}, many, many)
	if len(l) != 1200*1200 || e != 0 || l[0] != (api.Record{Key: 7}) || l[len(l)-1] != (api.Record{Key: 7, Val: 2398}) {
		t.Errorf("Join of 1200 and 1200 of a Key: %d records, %d", len(l), e)
	}
	often := map[api.Record]int{}
	for _, r := range l {
		often[r]++
	}
	for sum := range 2399 {
		if n := often[api.Record{Key: 7, Val: int64(sum)}]; n != min(sum, 2398-sum)+1 {
			t.Fatalf("Join of 1200 and 1200 of a Key: %d times 7 %d", n, sum)
		}
	}
	huge := slices.Repeat(many, 100)
	for i := range huge {
		huge[i].Key = int64(i)
	}
	for _, n := range []api.Node{{Kind: api.Reduce}, {Kind: api.Output}, {Kind: api.Map}} {
		if l, e := opers.Run(n, huge); !slices.Equal(l, huge) || e != 0 {
			t.Errorf("kind %d of 120000 Keys: %d records, %d", n.Kind, len(l), e)
		}
	}
}

// TestRunWrong: wrong numbers come first, then how many rows there are; with an error nothing is made.
func TestRunWrong(t *testing.T) {
	counts := []int{0, 1, 2, 3, 4, 31, 32, 33, 255, 256, 257, 258, 1 << 16, 1<<16 + 1, 1<<16 + 2}
	for kind := range 256 {
		for _, a := range []int{0, 1, 2, 3, 4, 5, 127, 128, 255} {
			for _, b := range edges() {
				n := api.Node{Kind: uint8(kind), A: uint8(a), B: b}
				for many := range 5 {
					held(t, n, slices.Repeat([][]api.Record{list(1, 5, 2, 0)}, many)...)
				}
			}
		}
		for _, many := range counts {
			held(t, api.Node{Kind: uint8(kind), B: int64(kind) / 9}, make([][]api.Record, many)...)
		}
	}
	for i, x := range []struct {
		n    api.Node
		rows int
		e    api.Errno
	}{
		{api.Node{Kind: api.Map, A: 4}, 1, 130}, {api.Node{Kind: api.Map, A: 3}, 1, 130}, {api.Node{Kind: api.Map, A: 4}, 7, 130}, {api.Node{Kind: 0}, 0, 130}, {api.Node{Kind: 11}, 1, 130}, {api.Node{Kind: api.Reduce, B: 1}, 1, 130}, {api.Node{Kind: api.Feedback}, 1, 130}, {api.Node{Kind: api.Feedback, B: 17}, 1, 130}, {api.Node{Kind: api.Filter, A: 1, B: -1}, 0, 130}, {api.Node{Kind: api.Input, A: 1}, 0, 130}, {api.Node{Kind: api.Output, B: 1}, 1, 130},
		{api.Node{Kind: api.Input}, 1, 100}, {api.Node{Kind: api.Map}, 0, 100}, {api.Node{Kind: api.Map}, 2, 100}, {api.Node{Kind: api.Union}, 1, 100}, {api.Node{Kind: api.Union}, 3, 100}, {api.Node{Kind: api.Join}, 1, 100}, {api.Node{Kind: api.Join}, 0, 100}, {api.Node{Kind: api.Reduce}, 2, 100}, {api.Node{Kind: api.Output}, 0, 100}, {api.Node{Kind: api.Feedback, B: 2}, 0, 100},
		{api.Node{Kind: api.Input}, 0, 0}, {api.Node{Kind: api.Join}, 2, 0}, {api.Node{Kind: api.Feedback, B: 2}, 1, 0},
	} {
		if l, e := opers.Run(x.n, make([][]api.Record, x.rows)...); len(l) != 0 || e != x.e {
			t.Errorf("%d: %v, %d, want %d", i, l, e, x.e)
		}
	}
}

// TestNodeAlone: at which depth a node stands, and from where it is fed, counts for nothing here.
func TestNodeAlone(t *testing.T) {
	for _, plain := range nodes() {
		for _, depth := range []int{-1, 1, 3, 4, most, least} {
			for _, from := range [][]int{nil, {}, {0}, {-1}, {99, 5}, {least}, make([]int, 300)} {
				n := plain
				n.Depth, n.In = depth, from
				held(t, n, ins(n, list(3, 4, 1, 5, 1, 6), list(1, 1, 3, 0))...)
				if now, ok := opers.Time(n, at(4, 2)); now != first(timeByWords(plain, at(4, 2))) || ok != second(timeByWords(plain, at(4, 2))) {
					t.Fatalf("kind %d of depth %d: Time %v, %t", n.Kind, depth, now, ok)
				}
				if to := opers.Of(n, api.Record{Key: 5}, 1, 4); to != ofByWords(plain, api.Record{Key: 5}, 1, 4) || to != 1 {
					t.Fatalf("kind %d of depth %d: Of %d", n.Kind, depth, to)
				}
			}
		}
	}
}

func first(t api.Stamp, _ bool) api.Stamp { return t }
func second(_ api.Stamp, ok bool) bool    { return ok }

// stamps are times around all bounds, right and wrong ones.
func stamps() []api.Stamp {
	var all []api.Stamp
	counters := []int{0, 1, 2, 14, 15, 16, -1}
	for _, depth := range []int{0, 1, 2, 3, 4, -1, 5, 256, 1 << 32, most, least} {
		for _, epoch := range []int{0, 4, 999, 1000, -1, most, least} {
			for _, a := range append(counters, 3, 256, most, least) {
				for _, b := range counters {
					for _, c := range counters {
						all = append(all, api.Stamp{Depth: depth, Epoch: epoch, Loops: [3]int{a, b, c}})
					}
				}
			}
		}
	}
	return all
}

// TestTime tells some by hand, and holds all kinds' times against the words.
func TestTime(t *testing.T) {
	feedback := func(b int64) api.Node { return api.Node{Kind: api.Feedback, B: b} }
	for i, x := range []struct {
		n        api.Node
		from, to api.Stamp
		ok       bool
	}{
		{feedback(2), at(4, 0), at(4, 1), true}, {feedback(2), at(4, 1), api.Stamp{}, false}, // the chapter's
		{feedback(1), at(4, 0), api.Stamp{}, false}, {feedback(16), at(4, 14), at(4, 15), true}, {feedback(16), at(4, 15), api.Stamp{}, false}, {feedback(15), at(4, 14), api.Stamp{}, false}, {feedback(15), at(4, 13), at(4, 14), true},
		{feedback(3), at(4, 9, 1), at(4, 9, 2), true}, {feedback(3), at(4, 1, 2), api.Stamp{}, false}, {feedback(3), at(4, 9, 9, 0), at(4, 9, 9, 1), true}, {feedback(3), at(4), api.Stamp{}, false}, {feedback(3), at(1000, 0), api.Stamp{}, false},
		{feedback(17), at(4, 15), api.Stamp{}, false}, {feedback(most), at(4, 15), api.Stamp{}, false}, {feedback(most), at(4, 14), at(4, 15), true}, {feedback(0), at(4, 0), api.Stamp{}, false}, {feedback(-1), at(4, 0), api.Stamp{}, false}, {feedback(least), at(4, 0), api.Stamp{}, false}, {feedback(1 << 32), at(4, 0), at(4, 1), true}, {feedback(1<<32 + 1), at(4, 0), at(4, 1), true},
		{api.Node{Kind: api.Ingress}, at(4), at(4, 0), true}, {api.Node{Kind: api.Ingress}, at(999, 15, 15), at(999, 15, 15, 0), true}, {api.Node{Kind: api.Ingress}, at(4, 1, 1, 1), api.Stamp{}, false},
		{api.Node{Kind: api.Egress}, at(4, 3), at(4), true}, {api.Node{Kind: api.Egress}, at(4, 1, 2, 3), at(4, 1, 2), true}, {api.Node{Kind: api.Egress}, at(4), api.Stamp{}, false},
		{api.Node{Kind: api.Map, B: 2}, at(4, 3), at(4, 3), true}, {api.Node{Kind: api.Input}, at(0), at(0), true}, {api.Node{Kind: api.Output}, at(1000), api.Stamp{}, false}, {api.Node{Kind: api.Reduce}, at(-1), api.Stamp{}, false}, {api.Node{Kind: api.Join}, at(4, 16), api.Stamp{}, false}, {api.Node{Kind: api.Union}, api.Stamp{Depth: 1, Loops: [3]int{1, 1}}, api.Stamp{}, false},
		{api.Node{Kind: 0}, at(4, 3), at(4, 3), true}, {api.Node{Kind: 255, A: 9, B: 9}, at(4, 3), at(4, 3), true}, // of the others t, whatever else they are
	} {
		if to, ok := opers.Time(x.n, x.from); to != x.to || ok != x.ok {
			t.Errorf("%d: kind %d, B %d at %v: %v, %t, want %v, %t", i, x.n.Kind, x.n.B, x.from, to, ok, x.to, x.ok)
		}
	}
	all := stamps()
	for kind := range 256 {
		bs := []int64{0, 2}
		if kind == int(api.Feedback) {
			bs = edges()
		}
		for _, b := range bs {
			n := api.Node{Kind: uint8(kind), A: uint8(kind), B: b}
			for _, from := range all {
				want, is := timeByWords(n, from)
				if to, ok := opers.Time(n, from); to != want || ok != is {
					t.Fatalf("kind %d, B %d at %v: %v, %t, want %v, %t", kind, b, from, to, ok, want, is)
				}
			}
		}
	}
}

// TestOf tells some by hand, and holds all kinds' workers against the words.
func TestOf(t *testing.T) {
	for i, x := range []struct {
		kind            uint8
		key             int64
		worker, workers int
		to              int
	}{
		{api.Reduce, -3, 1, 4, 1}, {api.Map, -3, 1, 4, 1}, // the chapter's
		{api.Reduce, 7, 0, 4, 3}, {api.Join, 7, 0, 4, 3}, {api.Join, -1, 0, 64, 63}, {api.Reduce, least, 0, 3, 1}, {api.Reduce, most, 0, 64, 63}, {api.Reduce, 5, 0, 1, 0}, {api.Reduce, -8, 3, 4, 0},
		{api.Map, 7, 0, 4, 0}, {api.Output, 7, 63, 64, 63}, {api.Input, 7, 2, 4, 2}, {0, 7, 2, 4, 2}, {255, 7, 2, 4, 2},
		{api.Map, 0, 4, 4, -1}, {api.Reduce, 0, 4, 4, -1}, {api.Map, 0, -1, 4, -1}, {api.Join, 0, -1, 4, -1}, {api.Map, 0, 0, 0, -1}, {api.Reduce, 0, 0, 0, -1}, {api.Map, 0, 0, 65, -1}, {api.Reduce, 0, 0, 65, -1}, {api.Reduce, 0, 64, 65, -1}, {api.Map, 0, -5, -4, -1}, {api.Join, 0, least, most, -1}, {api.Join, 0, 0, 1<<32 + 4, -1}, {api.Join, 0, 1 << 32, 4, -1},
	} {
		if to := opers.Of(api.Node{Kind: x.kind}, api.Record{Key: x.key, Val: 1}, x.worker, x.workers); to != x.to {
			t.Errorf("%d: kind %d, Key %d, %d of %d: %d, want %d", i, x.kind, x.key, x.worker, x.workers, to, x.to)
		}
	}
	workers := []int{least, -4, -1, 0, 1, 2, 3, 4, 7, 63, 64, 65, 66, 256, 257, 1 << 32, 1<<32 + 1, most}
	for kind := range 256 {
		for _, key := range edges() {
			n, r := api.Node{Kind: uint8(kind), A: 9, B: key}, api.Record{Key: key, Val: 5}
			for _, k := range workers {
				for _, w := range append(workers, 5, 6) {
					if to, want := opers.Of(n, r, w, k), ofByWords(n, r, w, k); to != want {
						t.Fatalf("kind %d, Key %d, %d of %d: %d, want %d", kind, key, w, k, to, want)
					}
				}
			}
		}
	}
}
