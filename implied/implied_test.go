package implied_test

import (
	"math"
	"slices"
	"testing"

	"tailrace/api"
	"tailrace/implied"
	"tailrace/paths"
)

// of are the paths of a graph that may be run.
func of(t *testing.T, g api.Graph) *paths.Paths {
	t.Helper()
	p, e := paths.New(g)
	if e != api.OK {
		t.Fatalf("New(%v): %d", g, e)
	}
	return p
}

// told is what Frontier tells, without an error.
func told(t *testing.T, p *paths.Paths, l []implied.Place, node int) []api.Stamp {
	t.Helper()
	f, e := implied.Frontier(p, l, node)
	if e != api.OK {
		t.Fatalf("%v: Frontier of %v at %d: %d", p.Graph(), l, node, e)
	}
	return f
}

// asked are times at which it is worth asking whether they are done, right and wrong ones, of any depth.
func asked(f []api.Stamp) []api.Stamp {
	all := append(wrongTimes(), f...)
	for depth := range 4 {
		all = append(all, at(0, make([]int, depth)...), at(2, slices.Repeat([]int{1}, depth)...), at(999, slices.Repeat([]int{15}, depth)...))
	}
	for _, x := range f {
		before, behind := x, x
		before.Epoch--
		behind.Epoch++
		all = append(all, before, behind)
		for i := range x.Depth {
			before, behind = x, x
			before.Loops[i]--
			behind.Loops[i]++
			all = append(all, before, behind)
		}
	}
	return all
}

// against holds what is told of places, at each node, against the words.
func against(t *testing.T, p *paths.Paths, l []implied.Place) {
	t.Helper()
	g := p.Graph()
	for i := range g {
		f, want := told(t, p, l, i), firstByWords(comesByWords(p, l, i))
		if !slices.Equal(f, want) {
			t.Fatalf("%v: Frontier of %v at %d is %v, want %v", g, l, i, f, want)
		}
		for _, x := range asked(want) {
			if got, want := implied.Done(p, l, i, x), doneByWords(want, depthByWords(g, i), x); got != want {
				t.Fatalf("%v: Done of %v at %d, %v is %t, by the frontier %v", g, l, i, x, got, f)
			}
		}
	}
}

// frontiers are places, and what is told of them at each node.
type frontiers struct {
	l    []implied.Place
	want map[int][]api.Stamp // to the nodes that are not in it nothing may come
}

// byHand holds what is told of places against what is told by hand, and against the words.
func byHand(t *testing.T, g api.Graph, rows []frontiers) {
	t.Helper()
	p := of(t, g)
	for i, x := range rows {
		for n := range g {
			if f := told(t, p, x.l, n); !slices.Equal(f, x.want[n]) {
				t.Errorf("%d: Frontier of %v at %d is %v, want %v", i, x.l, n, f, x.want[n])
			}
		}
		against(t, p, x.l)
	}
}

// TestExamples are the chapter's, and more of its graph.
func TestExamples(t *testing.T) {
	byHand(t, line(), []frontiers{
		{some(held(0, at(3))), map[int][]api.Stamp{1: frontier(at(3)), 2: frontier(at(3))}},
		{some(queued(1, at(2))), map[int][]api.Stamp{1: frontier(at(2)), 2: frontier(at(2))}},
		{some(held(1, at(2)), held(0, at(4))), map[int][]api.Stamp{1: frontier(at(4)), 2: frontier(at(2))}},
		{nil, nil}, {some(), nil}, {make([]implied.Place, 0, 3), nil},
		{some(held(1, at(2))), map[int][]api.Stamp{2: frontier(at(2))}},
		{some(queued(2, at(0))), map[int][]api.Stamp{2: frontier(at(0))}},
		{some(queued(2, at(7)), held(0, at(999))), map[int][]api.Stamp{1: frontier(at(999)), 2: frontier(at(7))}},
		{some(queued(1, at(5)), held(1, at(3)), queued(2, at(4))), map[int][]api.Stamp{1: frontier(at(5)), 2: frontier(at(3))}},
	})
}

// TestLoop tells by hand of a loop, whose Feedback's B is asked of what waits there, but not of what may come there.
func TestLoop(t *testing.T) {
	round := func(n int, more ...int) map[int][]api.Stamp { // from node 3 or 4 on, at 2.n or behind
		want := map[int][]api.Stamp{2: frontier(at(2, n)), 3: frontier(at(2, n)), 4: frontier(at(2, n)), 5: frontier(at(2, n)), 6: frontier(at(2))}
		for i := 0; i < len(more); i += 2 {
			want[more[i]] = frontier(at(2, more[i+1]))
		}
		return want
	}
	first := map[int][]api.Stamp{1: frontier(at(4)), 2: frontier(at(4, 0)), 3: frontier(at(4, 0)), 4: frontier(at(4, 0)), 5: frontier(at(4, 0)), 6: frontier(at(4))}
	byHand(t, loop(3), []frontiers{
		{some(held(0, at(4))), first}, {some(queued(1, at(4))), first},
		{some(queued(2, at(2, 1))), round(1)},
		{some(queued(3, at(2, 1))), round(1, 2, 2)},
		{some(held(3, at(2, 1))), round(1, 2, 2, 3, 2)},
		{some(held(3, at(2, 2))), round(2, 2, 3, 3, 3)}, // that the Feedback drops it is not known there
		{some(held(3, at(2, 15))), map[int][]api.Stamp{4: frontier(at(2, 15)), 5: frontier(at(2, 15)), 6: frontier(at(2))}},
		{some(queued(4, at(2, 1))), round(2, 4, 1)},
		{some(queued(4, at(2, 2))), map[int][]api.Stamp{4: frontier(at(2, 2))}}, // there it is
		{some(queued(4, at(2, 15))), map[int][]api.Stamp{4: frontier(at(2, 15))}},
		{some(queued(5, at(2, 2))), map[int][]api.Stamp{5: frontier(at(2, 2)), 6: frontier(at(2))}},
		{some(queued(6, at(2))), map[int][]api.Stamp{6: frontier(at(2))}},
		{some(held(3, at(2, 5)), queued(4, at(3, 1)), queued(5, at(1, 7)), queued(5, at(1, 7)), queued(5, at(2, 0))), map[int][]api.Stamp{
			2: frontier(at(2, 6), at(3, 2)), 3: frontier(at(2, 6), at(3, 2)), 4: frontier(at(2, 5), at(3, 1)), 5: frontier(at(1, 7), at(2, 0)), 6: frontier(at(1))}},
	})
	byHand(t, loop(1), []frontiers{{some(queued(4, at(2, 0))), map[int][]api.Stamp{4: frontier(at(2, 0))}}})
	byHand(t, loop(16), []frontiers{
		{some(queued(4, at(2, 14))), round(15, 4, 14)},
		{some(queued(4, at(2, 15))), map[int][]api.Stamp{4: frontier(at(2, 15))}},
	})
}

// TestNest tells by hand of loops within each other, where one may go round by several.
func TestNest(t *testing.T) {
	p := of(t, nest())
	further := frontier(at(8, 1, 2, 4), at(8, 1, 3, 0), at(8, 2, 0, 0))
	with := frontier(at(8, 1, 2, 3), at(8, 1, 3, 0), at(8, 2, 0, 0))
	for i, x := range []struct {
		l    []implied.Place
		node int
		want []api.Stamp
	}{
		{some(queued(6, at(8, 1, 2, 3))), 6, with}, {some(held(6, at(8, 1, 2, 3))), 6, further},
		{some(queued(7, at(8, 1, 2, 3))), 7, with}, {some(queued(7, at(8, 1, 2, 3))), 6, further},
		{some(queued(8, at(8, 1, 2, 3))), 8, with}, {some(queued(8, at(8, 1, 2, 3))), 6, frontier(at(8, 1, 3, 0), at(8, 2, 0, 0))},
		{some(held(6, at(8, 1, 2, 3))), 4, frontier(at(8, 1, 3), at(8, 2, 0))}, {some(held(6, at(8, 1, 2, 3))), 2, frontier(at(8, 2))}, {some(held(6, at(8, 1, 2, 3))), 13, frontier(at(8))},
		{some(queued(4, at(8, 3, 9))), 4, frontier(at(8, 3, 9), at(8, 4, 0))}, {some(held(4, at(8, 3, 9))), 4, frontier(at(8, 3, 10), at(8, 4, 0))},
		{some(queued(9, at(8, 3, 15))), 4, nil}, {some(held(4, at(8, 15, 15))), 4, nil}, {some(held(4, at(8, 15, 15))), 6, frontier(at(8, 15, 15, 0))},
		{some(held(6, at(8, 1, 2, 3)), queued(6, at(9, 0, 9, 9)), held(0, at(20)), queued(6, at(8, 1, 9, 2))), 6, frontier(at(8, 1, 2, 4), at(8, 1, 3, 0), at(8, 2, 0, 0), at(9, 0, 9, 9), at(9, 0, 10, 0), at(9, 1, 0, 0), at(20, 0, 0, 0))},
		{some(queued(12, at(8, 5)), queued(10, at(8, 5, 5))), 13, frontier(at(8))}, {some(queued(13, at(7)), held(0, at(3))), 0, nil},
	} {
		if f := told(t, p, x.l, x.node); !slices.Equal(f, x.want) {
			t.Errorf("%d: Frontier of %v at %d is %v, want %v", i, x.l, x.node, f, x.want)
		}
		against(t, p, x.l)
	}
}

// TestAsPathsTell: of a way on which a counter comes to 16 nothing comes, but of its end alone something may: what paths.Comes tells of the one place holds, whatever it tells of another one.
func TestAsPathsTell(t *testing.T) {
	byHand(t, row(16), []frontiers{{some(queued(18, at(4, 15))), map[int][]api.Stamp{18: frontier(at(4, 15)), 19: frontier(at(4))}}})
	p := of(t, row(16))
	for i, x := range []struct {
		l    []implied.Place
		want []api.Stamp
	}{
		{some(held(0, at(4))), nil}, {some(queued(1, at(4))), nil},
		{some(queued(2, at(4, 0))), frontier(at(4))}, {some(queued(2, at(4, 14))), frontier(at(4))}, {some(queued(2, at(4, 15))), nil},
		{some(queued(2, at(4, 0)), held(0, at(2))), frontier(at(4))},
	} {
		if f := told(t, p, x.l, 19); !slices.Equal(f, x.want) {
			t.Errorf("%d: Frontier of %v is %v, want %v", i, x.l, f, x.want)
		}
		against(t, p, x.l)
	}
}

// TestDone tells by hand which times are done, at the edges of frontiers, and which are none to be done.
func TestDone(t *testing.T) {
	p := of(t, nest())
	l := some(held(6, at(8, 1, 2, 3)), held(0, at(20)))
	for i, x := range []struct {
		node int
		at   api.Stamp
		want bool
	}{
		{6, at(8, 1, 2, 3), true}, {6, at(8, 1, 2, 4), false}, {6, at(8, 1, 3, 0), false}, {6, at(8, 1, 2, 0), true}, {6, at(8, 0, 15, 15), true}, {6, at(8, 2, 0, 0), false}, {6, at(8, 1, 15, 15), false},
		{6, at(7, 15, 15, 15), true}, {6, at(9, 1, 2, 3), true}, {6, at(19, 0, 0, 0), true}, {6, at(20, 0, 0, 0), false}, {6, at(20, 0), false}, {6, at(7), false}, {6, at(7, 15, 15), false},
		{4, at(8, 1, 2), true}, {4, at(8, 1, 3), false}, {4, at(8, 2, 0), false}, {4, at(7, 1, 2, 0), false},
		{13, at(7), true}, {13, at(8), false}, {13, at(999), false}, {13, at(1000), false}, {13, at(-1), false}, {13, at(7, 0), false},
		{1, at(19), true}, {1, at(20), false}, {1, at(19, 0), false}, // an Ingress is fed at its own depth less 1
		{12, at(8, 0), true}, {12, at(8, 1), false}, {12, at(7, 15), true}, {12, at(7), false}, // an Egress at 1 more
		{0, at(0), true}, {0, at(20), true}, {0, at(999), true}, {0, at(0, 0), false}, {0, at(1000), false}, // to an Input nothing comes
	} {
		if got := implied.Done(p, l, x.node, x.at); got != x.want {
			t.Errorf("%d: Done at %d, %v: %t", i, x.node, x.at, got)
		}
	}
	for i, n := range p.Graph() { // where nothing is, all is done that may be
		for depth := range 4 {
			for _, x := range append(times(0, depth, 0, 15), times(999, depth, 0, 15)...) {
				if got := implied.Done(p, nil, i, x); got != (depth == depthByWords(p.Graph(), i)) {
					t.Errorf("no places, kind %d, %v: %t", n.Kind, x, got)
				}
			}
		}
		for _, x := range wrongTimes() {
			if implied.Done(p, nil, i, x) {
				t.Errorf("no places, kind %d: %v is done", n.Kind, x)
			}
		}
	}
}

// numbers are places at which no node of a graph of so many stands.
func numbers(nodes int) []int {
	return []int{-1, -2, nodes, nodes + 1, -nodes, 32, 33, 64, 256, -256, 1 << 32, 1<<32 + 1, -1 << 32, math.MaxInt, math.MinInt}
}

// wrongPlaces are places that are not right for g, of each kind of wrong.
func wrongPlaces(g api.Graph) []implied.Place {
	var all []implied.Place
	for _, i := range numbers(len(g)) {
		all = append(all, queued(i, at(3)), held(i, at(3)), queued(i, at(3, 1)))
	}
	for i := range g {
		var l []implied.Place
		for _, x := range wrongTimes() {
			l = append(l, queued(i, x), held(i, x))
		}
		for depth := range 4 {
			x := at(3, make([]int, depth)...)
			l = append(l, queued(i, x), held(i, x))
		}
		all = append(all, slices.DeleteFunc(l, func(x implied.Place) bool { return rightByWords(g, x) })...)
	}
	return all
}

// TestErrors: ErrNil ahead of ErrArg, which wrong nodes and wrong places are, wherever these stand among right ones; and no time is done.
func TestErrors(t *testing.T) {
	refused := func(p *paths.Paths, l []implied.Place, node int, want api.Errno) {
		t.Helper()
		if f, e := implied.Frontier(p, l, node); e != want || len(f) != 0 {
			t.Errorf("%v at %d: %v, %d, want %d", l, node, f, e, want)
		}
		for _, x := range []api.Stamp{at(0), at(3), at(1, 1), at(0, 0, 0), at(1, 0, 0, 0)} {
			if implied.Done(p, l, node, x) {
				t.Errorf("%v at %d: %v is done", l, node, x)
			}
		}
	}
	for _, g := range []api.Graph{line(), loop(3), nest()} {
		p := of(t, g)
		right := some(held(0, at(3)), queued(len(g)-1, at(4)), held(0, at(3)))
		for _, i := range append(numbers(len(g)), 0, 1, 2) {
			refused(nil, nil, i, api.ErrNil)
			refused(nil, right, i, api.ErrNil)
			refused(nil, some(queued(-1, at(-1))), i, api.ErrNil)
			refused(new(paths.Paths), nil, i, api.ErrArg)
			refused(new(paths.Paths), right, i, api.ErrArg)
		}
		for _, i := range numbers(len(g)) {
			refused(p, nil, i, api.ErrArg)
			refused(p, right, i, api.ErrArg)
			refused(p, some(queued(0, at(3))), i, api.ErrArg)
		}
		for _, x := range wrongPlaces(g) {
			for i := range g {
				refused(p, some(x), i, api.ErrArg)
				refused(p, some(x, x), i, api.ErrArg)
			}
			for i := range len(right) + 1 {
				refused(p, slices.Insert(slices.Clone(right), i, x), len(g)-1, api.ErrArg)
			}
		}
	}
}

// TestRight tells by hand which places are right.
func TestRight(t *testing.T) {
	g := api.Graph{node(api.Input, 0), node(api.Ingress, 1, 0), node(api.Map, 1, 1), node(api.Filter, 1, 2), node(api.Union, 1, 3, 8), node(api.Reduce, 1, 4), node(api.Join, 1, 5, 5), node(api.Egress, 0, 6), node(api.Feedback, 1, 6), node(api.Output, 0, 7)}
	of(t, g)
	for i, x := range []struct {
		queued, held bool
		depth        int
	}{{false, true, 0}, {true, false, 0}, {true, false, 1}, {true, false, 1}, {true, false, 1}, {true, true, 1}, {true, true, 1}, {true, false, 1}, {true, false, 1}, {true, false, 0}} {
		for depth := range 4 {
			for _, y := range append(times(0, depth, 0, 15), times(999, depth, 0, 15)...) {
				if q, h := implied.Right(g, queued(i, y)), implied.Right(g, held(i, y)); q != (x.queued && depth == x.depth) || h != (x.held && depth == x.depth) {
					t.Errorf("%d at %v: queued %t, held %t", i, y, q, h)
				}
			}
		}
	}
	for _, x := range wrongPlaces(g) {
		if implied.Right(g, x) {
			t.Errorf("%v is right", x)
		}
	}
}

// TestRightAnywhere goes through places of all depths, and wrong ones, of graphs in no order.
func TestRightAnywhere(t *testing.T) {
	right := map[[2]int]int{} // how often, of a kind, queued (0) and held (1)
	for _, g := range slices.Concat([]api.Graph{line(), loop(3), nest(), row(16), {node(api.Input, 0)}}, graphs(1, 60, 12, 2), graphs(2, 40, 32, 3)) {
		for i := -1; i <= len(g); i++ {
			all := wrongTimes()
			for depth := range 4 {
				all = append(all, times(5, depth, 0, 7, 15)...)
			}
			for _, y := range all {
				for waits, x := range some(queued(i, y), held(i, y)) {
					want := rightByWords(g, x)
					if implied.Right(g, x) != want {
						t.Fatalf("%v: %v: not %t", g, x, want)
					}
					if want {
						right[[2]int{int(g[i].Kind), waits}]++
					}
				}
			}
		}
	}
	if len(right) != 12 { // an Input's held ones, queued ones of the nine other kinds, held ones of two of these
		t.Errorf("not all kinds have right places: %v", right)
	}
}

// TestRightOfNoGraph: no place is right for a graph that may not be run.
func TestRightOfNoGraph(t *testing.T) {
	if x := held(0, at(3)); !implied.Right(api.Graph{node(api.Input, 0)}, x) {
		t.Errorf("%v is wrong", x)
	}
	for e, g := range wrongGraphs() {
		if _, is := paths.New(g); is != e {
			t.Errorf("%v: %d, want %d", g, is, e)
		}
		for i := range g {
			for depth := range 4 {
				x := at(3, make([]int, depth)...)
				if implied.Right(g, queued(i, x)) || implied.Right(g, held(i, x)) {
					t.Errorf("%d: %d at %v is right", e, i, x)
				}
			}
		}
	}
	for _, g := range []api.Graph{nil, {}, {{}}, {{Kind: api.Ingress, Depth: math.MinInt}}, {{Kind: api.Egress, Depth: math.MaxInt}}, {{Kind: api.Map, In: []int{-1}}}, {{Kind: api.Map, In: []int{0}}}} {
		for _, i := range append(numbers(len(g)), 0) {
			if implied.Right(g, queued(i, at(0))) || implied.Right(g, held(i, at(0))) {
				t.Errorf("%v: %d is right", g, i)
			}
		}
	}
}

// TestPairs goes through all rows of up to two places of a few times.
func TestPairs(t *testing.T) {
	for _, g := range []api.Graph{line(), loop(2)} {
		p := of(t, g)
		all := [][]implied.Place{nil}
		var single []implied.Place
		for i := range g {
			for _, y := range append(times(3, depthByWords(g, i), 0, 1, 15), times(4, depthByWords(g, i), 0, 14)...) {
				for _, x := range some(queued(i, y), held(i, y)) {
					if rightByWords(g, x) {
						single = append(single, x)
					}
				}
			}
		}
		for _, x := range single {
			all = append(all, some(x))
			for _, y := range single {
				all = append(all, some(x, y))
			}
		}
		for _, l := range all {
			against(t, p, l)
		}
	}
}

// TestAnyGraph goes through graphs in no order, of up to 32 nodes, and places there.
func TestAnyGraph(t *testing.T) {
	c := &chances{seed: 3}
	several, nothing := 0, 0
	for _, g := range slices.Concat([]api.Graph{nest(), row(15), row(16), row(28)}, graphs(4, 100, 9, 1), graphs(5, 100, 14, 2), graphs(6, 50, 20, 3), graphs(7, 20, 32, 3)) {
		p := of(t, g)
		for _, many := range []int{0, 1, 1, 2, 3, 12} {
			l := c.places(g, many)
			against(t, p, l)
			for i := range g {
				switch n := len(told(t, p, l, i)); {
				case n > 1:
					several++
				case n == 0 && len(l) > 0:
					nothing++
				}
			}
		}
	}
	if several < 300 || nothing < 1000 {
		t.Errorf("only %d frontiers of several times, only %d of none", several, nothing)
	}
}

// TestMany: places in great numbers, the same over and over, and all different ones.
func TestMany(t *testing.T) {
	p := of(t, nest())
	few := some(held(6, at(8, 1, 2, 3)), queued(6, at(9, 0, 9, 9)), held(0, at(20)), queued(6, at(8, 1, 9, 2)), queued(7, at(8, 0, 15, 15)))
	often := slices.Repeat(few, 100000)
	var all []implied.Place
	for epoch := 5; epoch < 10; epoch++ {
		for n := range 4096 {
			if x := at(epoch, n/256, n/16%16, n%16); x.Loops[0]+x.Loops[1]+x.Loops[2] >= 20-epoch {
				all = append(all, queued(6, x), held(6, x))
			}
		}
	}
	for i := range p.Graph() {
		if f, want := told(t, p, often, i), told(t, p, few, i); !slices.Equal(f, want) {
			t.Errorf("over and over, at %d: %v, want %v", i, f, want)
		}
		if f, want := told(t, p, all, i), firstOfMany(comesByWords(p, all, i)); !slices.Equal(f, want) {
			t.Errorf("all different ones, at %d: %v, want %v", i, f, want)
		}
	}
}

// firstOfMany is firstByWords of times that are many, but not many different ones.
func firstOfMany(times []api.Stamp) []api.Stamp {
	seen := map[api.Stamp]bool{}
	var each []api.Stamp
	for _, x := range times {
		if !seen[x] {
			seen[x] = true
			each = append(each, x)
		}
	}
	slices.SortFunc(each, func(a, b api.Stamp) int { // so that what is ahead is found soon
		return a.Epoch + a.Loops[0] + a.Loops[1] + a.Loops[2] - b.Epoch - b.Loops[0] - b.Loops[1] - b.Loops[2]
	})
	return firstByWords(each)
}
