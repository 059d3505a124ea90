package denote_test

import (
	"cmp"
	"maps"
	"math"
	"slices"
	"testing"

	"tailrace/api"
	"tailrace/check"
	"tailrace/denote"
	"tailrace/opers"
	"tailrace/stamp"
)

const most, least = math.MaxInt64, math.MinInt64

// valued is a value, without a fault.
func valued(t *testing.T, g api.Graph, fed []denote.Fed, node int, x api.Stamp) []api.Record {
	t.Helper()
	l, e := denote.Value(g, fed, node, x)
	if e != api.OK {
		t.Fatalf("Value of %v by %v, %d at %v: %d", g, fed, node, x, e)
	}
	return l
}

// outOf is what Out tells, without a fault.
func outOf(t *testing.T, g api.Graph, fed []denote.Fed, epoch int) []denote.Fed {
	t.Helper()
	l, e := denote.Out(g, fed, epoch)
	if e != api.OK {
		t.Fatalf("Out of %v by %v at %d: %d", g, fed, epoch, e)
	}
	return l
}

// TestLoopByHand tells all values of the chapter's loop that are something, and holds all others to be nothing.
func TestLoopByHand(t *testing.T) {
	l := some(fed(0, 2, 1, 5))
	want := table{
		{0, at(2)}: list(1, 5), {1, at(2, 0)}: list(1, 5), {2, at(2, 0)}: list(1, 5), {3, at(2, 0)}: list(1, 15),
		{4, at(2, 1)}: list(1, 15), {2, at(2, 1)}: list(1, 15), {3, at(2, 1)}: list(1, 25),
		{4, at(2, 2)}: list(1, 25), {2, at(2, 2)}: list(1, 25), {3, at(2, 2)}: list(1, 35),
		{5, at(2)}: list(1, 15, 1, 25, 1, 35), {6, at(2)}: list(1, 15, 1, 25, 1, 35),
	}
	g := loop(3)
	for i, n := range g {
		for _, epoch := range []int{0, 1, 2, 3, 999} {
			for c := range 16 {
				x := at(epoch, []int{c}[:n.Depth]...)
				if got := valued(t, g, l, i, x); !slices.Equal(got, want[where{i, x}]) {
					t.Errorf("%d at %v: %v, want %v", i, x, got, want[where{i, x}])
				}
			}
		}
	}
	if o := outOf(t, g, l, 2); !alike(o, some(fed(6, 2, 1, 15, 1, 25, 1, 35))) {
		t.Errorf("Out of 2: %v", o)
	}
	if o := outOf(t, g, l, 1); !alike(o, some(fed(6, 1))) {
		t.Errorf("Out of 1: %v", o)
	}
}

// TestBounds: a loop goes round as often as its Feedback's B says, from 1 up to 16.
func TestBounds(t *testing.T) {
	for bound := range int64(17) {
		if bound == 0 {
			continue
		}
		g, l := loop(bound), some(fed(0, 7, 3, 0))
		var want []api.Record
		for c := range int64(16) {
			var round, again []api.Record
			if c < bound {
				round = list(3, 10*(c+1))
				want = append(want, round...)
			}
			if c > 0 && c < bound {
				again = list(3, 10*c)
			}
			if got := valued(t, g, l, 3, at(7, int(c))); !slices.Equal(got, round) {
				t.Errorf("B %d: the Map makes %v in round %d", bound, got, c)
			}
			if got := valued(t, g, l, 4, at(7, int(c))); !slices.Equal(got, again) {
				t.Errorf("B %d: the Feedback makes %v in round %d", bound, got, c)
			}
		}
		if o := outOf(t, g, l, 7); !alike(o, some(denote.Fed{Node: 6, Epoch: 7, List: want})) {
			t.Errorf("B %d: %v", bound, o)
		}
	}
}

// TestNestByHand: loops within loops; what is behind waits for all of a round.
func TestNestByHand(t *testing.T) {
	g, l := nest(2, 3), some(fed(0, 9, 1, 0, 2, 100))
	for i, x := range []struct {
		node int
		at   api.Stamp
		want []api.Record
	}{
		{1, at(9, 0), list(1, 0, 2, 100)}, {1, at(9, 1), nil}, {2, at(9, 1), list(1, 2, 2, 102)}, {2, at(9, 2), list(1, 4, 2, 104)}, {2, at(9, 3), nil},
		{3, at(9, 1, 0), list(1, 2, 2, 102)}, {3, at(9, 0, 1), nil}, {3, at(9, 1, 1), nil}, {4, at(9, 1, 1), list(1, 3, 2, 103)}, {4, at(9, 1, 2), nil},
		{5, at(9, 0, 0), list(1, 1, 2, 101)}, {5, at(9, 0, 1), list(1, 2, 2, 102)}, {5, at(9, 2, 1), list(1, 6, 2, 106)}, {5, at(9, 3, 0), nil}, {5, at(9, 2, 2), nil}, {5, at(9, 15, 15), nil},
		{6, at(9, 0, 0), nil}, {6, at(9, 0, 1), list(1, 1, 2, 101)}, {6, at(9, 2, 0), nil}, {6, at(9, 2, 1), list(1, 5, 2, 105)}, {6, at(9, 0, 2), nil},
		{7, at(9, 0), list(1, 1, 1, 2, 2, 101, 2, 102)}, {7, at(9, 2), list(1, 5, 1, 6, 2, 105, 2, 106)}, {7, at(9, 3), nil},
		{8, at(9, 0), list(1, 2, 2, 102)}, {8, at(9, 2), list(1, 6, 2, 106)}, {9, at(9, 0), nil}, {9, at(9, 1), list(1, 2, 2, 102)}, {9, at(9, 2), list(1, 4, 2, 104)}, {9, at(9, 3), nil},
		{10, at(9), list(1, 2, 1, 4, 1, 6, 2, 102, 2, 104, 2, 106)}, {11, at(9), list(1, 2, 1, 4, 1, 6, 2, 102, 2, 104, 2, 106)}, {11, at(8), nil},
	} {
		if got := valued(t, g, l, x.node, x.at); !slices.Equal(got, x.want) {
			t.Errorf("%d: %d at %v: %v, want %v", i, x.node, x.at, got, x.want)
		}
	}
}

// TestByHand tells some graphs' Outputs by hand.
func TestByHand(t *testing.T) {
	in, out := node(api.Input, 0), func(from int) api.Node { return node(api.Output, 0, from) }
	straight := api.Graph{in, node(api.Ingress, 1, 0), with(node(api.Feedback, 1, 1), 0, 2), with(node(api.Feedback, 1, 2), 0, 16), node(api.Egress, 0, 3), out(4)}
	short := slices.Clone(straight)
	short[3].B = 2
	for i, x := range []struct {
		g    api.Graph
		fed  []denote.Fed
		want []denote.Fed
	}{
		{api.Graph{in, out(0)}, some(fed(0, 4, 2, 1, 1, 9), fed(0, 4), fed(0, 5, 1, 1), fed(0, 4, 2, 0, 1, 9)), some(fed(1, 4, 1, 9, 1, 9, 2, 0, 2, 1))},
		{api.Graph{out(1), in, out(1)}, some(fed(1, 4, 1, 1)), some(fed(0, 4, 1, 1), fed(2, 4, 1, 1))}, // rising, wherever they stand
		{api.Graph{in, in, out(1)}, some(fed(0, 4, 1, 1)), some(fed(2, 4))},
		{api.Graph{in, in}, some(fed(0, 4, 1, 1), fed(1, 4, 1, 1)), nil},                                                                       // no Output
		{api.Graph{in, with(node(api.Reduce, 0, 0), 1, 0), out(1)}, some(fed(0, 4, 7, 1), fed(0, 4, 7, 1, 8, 1)), some(fed(2, 4, 7, 2, 8, 1))}, // rows count together
		{api.Graph{in, with(node(api.Map, 0, 0), 0, 1), node(api.Reduce, 0, 1), out(2)}, some(fed(0, 4, 7, 1, 7, 2)), some(fed(3, 4, 7, 5))},   // DOC.md's first example
		{api.Graph{in, in, node(api.Join, 0, 0, 1), out(2)}, some(fed(0, 4, 1, 2, 1, 3), fed(1, 4, 1, 10, 2, 20), fed(1, 3, 1, 30)), some(fed(3, 4, 1, 12, 1, 13))},
		{api.Graph{in, node(api.Join, 0, 0, 0), out(1)}, some(fed(0, 4, 1, 2), fed(0, 4, 1, 3)), some(fed(2, 4, 1, 4, 1, 5, 1, 5, 1, 6))},
		{api.Graph{in, node(api.Union, 0, 0, 0), with(node(api.Filter, 0, 1), 0, 3), out(2)}, some(fed(0, 4, 1, 2, 1, 3)), some(fed(3, 4, 1, 2, 1, 2))},
		{api.Graph{in, with(node(api.Map, 0, 0), 0, 1), out(1)}, some(fed(0, 4, 1, most)), some(fed(2, 4, 1, least))},
		{api.Graph{in, node(api.Ingress, 1, 0), node(api.Egress, 0, 1), out(2)}, some(fed(0, 4, 1, 2)), some(fed(3, 4, 1, 2))}, // once in, once out
		{straight, some(fed(0, 4, 1, 2)), some(fed(5, 4, 1, 2))},                                                               // in the third round, without a cycle
		{short, some(fed(0, 4, 1, 2)), some(fed(5, 4))},
		{loop(1), some(fed(0, 4, 1, 2)), some(fed(6, 4, 1, 12))},
		{loop(3), some(fed(0, 3, 1, 2), fed(0, 5, 1, 2)), some(fed(6, 4))},
	} {
		if o := outOf(t, x.g, x.fed, 4); !alike(o, x.want) {
			t.Errorf("%d: %v, want %v", i, o, x.want)
		}
	}
	for c, want := range [][]api.Record{nil, nil, list(1, 2), nil} {
		if got := valued(t, straight, some(fed(0, 4, 1, 2)), 3, at(4, c)); !slices.Equal(got, want) {
			t.Errorf("a Feedback behind a Feedback, in round %d: %v", c, got)
		}
	}
}

// deepest are three loops, one within the other, each round as often as may be; what an inner one gives out is brought down to the greatest again.
func deepest() api.Graph {
	return api.Graph{node(api.Input, 0), node(api.Ingress, 1, 0), node(api.Union, 1, 1, 15), node(api.Ingress, 2, 2), node(api.Union, 2, 3, 12), node(api.Ingress, 3, 4), node(api.Union, 3, 5, 8), with(node(api.Map, 3, 6), 0, 1),
		with(node(api.Feedback, 3, 7), 0, 16), node(api.Egress, 2, 7), with(node(api.Reduce, 2, 9), 3, 0), node(api.Union, 2, 10, 10), with(node(api.Feedback, 2, 10), 0, 16),
		node(api.Egress, 1, 10), with(node(api.Reduce, 1, 13), 3, 0), with(node(api.Feedback, 1, 14), 0, 16), node(api.Egress, 0, 14), with(node(api.Reduce, 0, 16), 3, 0), node(api.Output, 0, 17), node(api.Output, 0, 16)}
}

// TestDeepest goes round three loops, 4096 times in all.
func TestDeepest(t *testing.T) {
	g, l := deepest(), some(fed(0, 999, 1, 0))
	o := outOf(t, g, l, 999)
	if len(o) != 2 || !alike(o[:1], some(fed(18, 999, 1, 4096))) || len(o[1].List) != 16 || o[1].List[0] != (api.Record{Key: 1, Val: 256}) {
		t.Errorf("Out: %v", o)
	}
	for _, x := range []api.Stamp{at(999, 0, 0, 0), at(999, 15, 15, 15), at(999, 3, 2, 1), at(999, 0, 15, 7)} {
		round := int64(256*x.Loops[0] + 16*x.Loops[1] + x.Loops[2])
		if got := valued(t, g, l, 7, x); !slices.Equal(got, list(1, round+1)) {
			t.Errorf("at %v: %v", x, got)
		}
	}
	if got := valued(t, g, l, 11, at(999, 15, 15)); !slices.Equal(got, list(1, 4096, 1, 4096)) {
		t.Errorf("Union: %v", got)
	}
}

// TestOften: a node that goes into others over and over is not made over and over.
func TestOften(t *testing.T) {
	row := func(n api.Node) api.Graph {
		g := api.Graph{node(api.Input, 0)}
		for len(g) < 31 {
			n.In = []int{len(g) - 1, len(g) - 1}
			g = append(g, n)
		}
		return append(g, node(api.Output, 0, 30))
	}
	if o := outOf(t, row(node(api.Join, 0)), some(fed(0, 1, 5, 3)), 1); !alike(o, some(fed(31, 1, 5, 3<<30))) {
		t.Errorf("Join over and over: %v", o)
	}
	if o := outOf(t, row(node(api.Union, 0)), some(fed(0, 1, 5, 3)), 2); !alike(o, some(fed(31, 2))) {
		t.Errorf("Union of nothing over and over: %v", o)
	}
	wide := api.Graph{node(api.Input, 0), node(api.Ingress, 1, 0), node(api.Ingress, 2, 1), node(api.Ingress, 3, 2), node(api.Union, 3, 3, 26)}
	for len(wide) < 26 {
		wide = append(wide, node(api.Union, 3, len(wide)-1, 3))
	}
	wide = append(wide, with(node(api.Feedback, 3, 25), 0, 16), node(api.Egress, 2, 25), node(api.Egress, 1, 27), node(api.Egress, 0, 28), with(node(api.Reduce, 0, 29), 1, 0), node(api.Output, 0, 30))
	if o := outOf(t, wide, some(fed(0, 1, 5, 3)), 1); !alike(o, some(fed(31, 1, 5, 22*16))) { // 22 come in, in the first round, and go round
		t.Errorf("as many nodes as may be, all in the innermost loop: %v", o)
	}
}

// TestWrongGraph: check.Check's error stands ahead of all others.
func TestWrongGraph(t *testing.T) {
	all := wrongGraphs()
	all[api.ErrLimit+1000] = make(api.Graph, 33)
	for want, g := range all {
		want %= 1000
		if _, e := check.Check(g); e != want {
			t.Fatalf("Check of %v: %d", g, e)
		}
		for _, l := range [][]denote.Fed{nil, some(fed(0, 1, 1, 1)), some(fed(-1, 1000))} {
			for _, i := range []int{0, -1, 40} {
				if got, e := denote.Value(g, l, i, at(1)); got != nil || e != want {
					t.Errorf("Value of %v, %d by %v: %v, %d, want %d", g, i, l, got, e, want)
				}
			}
			for _, epoch := range []int{1, -1, 1000} {
				if o, e := denote.Out(g, l, epoch); o != nil || e != want {
					t.Errorf("Out of %v by %v: %v, %d, want %d", g, l, o, e, want)
				}
			}
		}
	}
}

// TestWrongFeed: what was fed may not be, where it stands among others too; and may be, at the edges.
func TestWrongFeed(t *testing.T) {
	g := loop(3)
	g = append(g, node(api.Input, 0))
	held := func(f denote.Fed, want api.Errno) {
		t.Helper()
		for _, l := range [][]denote.Fed{some(f), some(f, fed(0, 1, 1, 1)), some(fed(0, 1, 1, 1), f), some(fed(0, 1), f, fed(7, 2))} {
			if got, e := denote.Value(g, l, 3, at(1, 0)); e != want || e != api.OK && got != nil {
				t.Errorf("Value by %v: %v, %d, want %d", l, got, e, want)
			}
			if o, e := denote.Out(g, l, 1); e != want || e != api.OK && o != nil {
				t.Errorf("Out by %v: %v, %d, want %d", l, o, e, want)
			}
		}
	}
	for _, i := range []int{1, 2, 3, 4, 5, 6, 8, 31, 32, -1, 256, 1 << 32, most, least} {
		held(fed(i, 1, 1, 1), api.ErrArg)
		held(fed(i, 1), api.ErrArg) // no record, but still
	}
	for _, epoch := range []int{-1, 1000, 1001, 1 << 16, 1 << 32, most, least} {
		held(fed(0, epoch, 1, 1), api.ErrArg)
		held(fed(7, epoch), api.ErrArg)
	}
	for _, i := range []int{0, 7} {
		for _, epoch := range []int{0, 1, 999} {
			held(fed(i, epoch, 1, 1), api.OK)
			held(fed(i, epoch), api.OK)
		}
	}
}

// TestWrongPlace: no such node, or a time that may not be, or of another depth.
func TestWrongPlace(t *testing.T) {
	g, l := nest(2, 3), some(fed(0, 1, 1, 1))
	for _, i := range []int{-1, 12, 13, 32, 1 << 32, most, least} {
		for _, x := range []api.Stamp{at(1), at(1, 0), at(1, 0, 0)} {
			if got, e := denote.Value(g, l, i, x); got != nil || e != api.ErrArg {
				t.Errorf("%d at %v: %v, %d", i, x, got, e)
			}
		}
	}
	wrong := []api.Stamp{at(1000), at(-1), at(most), at(least), at(1000, 0), at(-1, 0), at(1, 16), at(1, -1), at(1, 0, 16), at(1, 16, 0), at(1, -1, 0), at(1000, 0, 0),
		{Epoch: 1, Loops: [3]int{1}}, {Epoch: 1, Loops: [3]int{0, 0, 1}}, {Depth: 1, Loops: [3]int{0, 1}}, {Depth: 2, Loops: [3]int{0, 0, 1}}, {Depth: 2, Loops: [3]int{0, 0, -1}}, {Depth: 4}, {Depth: -1}, {Depth: most}, {Depth: least}}
	for depth := range 4 {
		wrong = append(wrong, at(1, make([]int, depth)...), at(999, slices.Repeat([]int{15}, depth)...))
	}
	for i, n := range g {
		for _, x := range wrong {
			right := x.Depth == n.Depth && (x == at(1, make([]int, x.Depth)...) || x == at(999, slices.Repeat([]int{15}, x.Depth)...))
			got, e := denote.Value(g, l, i, x)
			if right != (e == api.OK) || !right && (e != api.ErrArg || got != nil) {
				t.Errorf("%d at %v: %v, %d", i, x, got, e)
			}
		}
	}
	for _, epoch := range []int{-1, 1000, 1001, 1 << 16, 1 << 32, most, least} {
		if o, e := denote.Out(g, l, epoch); o != nil || e != api.ErrArg {
			t.Errorf("Out of %d: %v, %d", epoch, o, e)
		}
	}
	for _, epoch := range []int{0, 2, 999} {
		if o := outOf(t, g, l, epoch); !alike(o, some(fed(11, epoch))) {
			t.Errorf("Out of %d: %v", epoch, o)
		}
	}
}

// asked are some of what is something, and of each node some times at which perhaps nothing is.
func (c *chances) asked(g api.Graph, l table, epoch int) []where {
	there := slices.SortedFunc(maps.Keys(l), func(a, b where) int { return cmp.Or(cmp.Compare(a.node, b.node), stamp.Compare(a.at, b.at)) })
	asked := mixed(c, there)
	asked = asked[:min(len(asked), 60)]
	for i, n := range g {
		for range 4 {
			x := at(epoch, make([]int, n.Depth)...)
			for i := range n.Depth {
				x.Loops[i] = c.next(2) * c.next(1+c.next(16))
			}
			asked = append(asked, where{i, x})
		}
	}
	return asked
}

// TestAgainstWords holds values of many graphs against the chapter's words.
func TestAgainstWords(t *testing.T) {
	c := &chances{seed: 20}
	graphs, inLoops, behindWaits := 0, 0, 0
	for graphs < 500 {
		g := c.graph(6+c.next(27), c.next(3) > 0)
		l := c.feeds(g, 3+c.next(8), 0, 5, 999)
		epoch := []int{0, 5, 999}[c.next(3)]
		want, ok := settled(g, l, epoch)
		if !ok {
			continue
		}
		graphs++
		if o := outOf(t, g, l, epoch); !alike(o, outByWords(g, want, epoch)) {
			t.Fatalf("Out of %v by %v at %d: %v, want %v", g, l, epoch, o, outByWords(g, want, epoch))
		}
		for _, w := range c.asked(g, want, epoch) {
			got := valued(t, g, l, w.node, w.at)
			if !slices.Equal(got, want[w]) {
				t.Fatalf("Value of %v by %v: %d at %v: %v, want %v", g, l, w.node, w.at, got, want[w])
			}
			if len(got) > 0 && w.at.Loops != [3]int{} {
				inLoops++
			}
			if len(got) > 0 && opers.Waits(g[w.node].Kind) {
				behindWaits++
			}
		}
	}
	if inLoops < 2000 || behindWaits < 500 {
		t.Errorf("only %d values in later rounds of loops, %d of nodes that wait, are something", inLoops, behindWaits)
	}
}
