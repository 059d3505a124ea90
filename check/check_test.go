package check_test

import (
	"math"
	"slices"
	"testing"

	"tailrace/api"
	"tailrace/check"
)

// node is one whose numbers are right.
func node(kind uint8, depth int, in ...int) api.Node {
	n := api.Node{Kind: kind, Depth: depth, In: in}
	if kind == api.Feedback {
		n.B = 1
	}
	return n
}

// held holds the answers for g against the promises' words.
func held(t *testing.T, g api.Graph) {
	t.Helper()
	at, e := check.Check(g)
	if want, is := checkByWords(g); at != want || e != is {
		t.Fatalf("Check of %d nodes (%v) is %d, %d, want %d, %d", len(g), g, at, e, want, is)
	}
	order, e := check.Order(g)
	want, is := orderByWords(g)
	if !slices.Equal(order, want) || e != is || e != api.OK && order != nil {
		t.Fatalf("Order of %d nodes (%v) is %v, %d, want %v, %d", len(g), g, order, e, want, is)
	}
	for i := -1; i <= len(g); i++ {
		if e, is := check.Node(g, i), nodeByWords(g, i); e != is {
			t.Fatalf("Node of %d nodes (%v), %d, is %d, want %d", len(g), g, i, e, is)
		}
	}
}

// TestExamples are the chapter's.
func TestExamples(t *testing.T) {
	for i, x := range []struct {
		g  api.Graph
		at int
		e  api.Errno
	}{
		{api.Graph{{Kind: 1}, {Kind: 10, In: []int{0}}}, 2, 0},
		{api.Graph{{Kind: 10, In: []int{0}}}, 0, 100},
		{api.Graph{{Kind: 1}, {Kind: 7, In: []int{0}}}, 1, 101},
		{api.Graph{{Kind: 1}, {Kind: 4, In: []int{0, 2}}, {Kind: 2, In: []int{1}}}, 1, 102},
		{api.Graph{{Kind: 1}, {Kind: 4, In: []int{0, 4}}, {Kind: 7, Depth: 1, In: []int{1}}, {Kind: 9, B: 2, Depth: 1, In: []int{2}}, {Kind: 8, In: []int{3}}}, 1, 102},
		{api.Graph{{Kind: 2, A: 4}}, 0, 130},
	} {
		if at, e := check.Check(x.g); at != x.at || e != x.e {
			t.Errorf("%d: %d, %d, want %d, %d", i, at, e, x.at, x.e)
		}
		held(t, x.g)
	}
}

// around is a graph whose node 3 is of a kind, and right but for its numbers: it is fed by nodes 0 to 2 of depths 0, 1 and 2.
func around(kind uint8) api.Graph {
	g := api.Graph{node(api.Input, 0), node(api.Ingress, 1, 0), node(api.Ingress, 2, 1)}
	switch kind {
	case api.Input:
		return append(g, node(kind, 0))
	case api.Union, api.Join:
		return append(g, node(kind, 1, 1, 1))
	case api.Ingress:
		return append(g, node(kind, 2, 1))
	case api.Egress:
		return append(g, node(kind, 1, 2))
	case api.Output:
		return append(g, node(kind, 0, 0))
	}
	return append(g, node(kind, 1, 1))
}

// bs are numbers at the bounds, and past them, or that look like others when bits of them are lost.
var bs = []int64{0, 1, 2, 3, 15, 16, 17, 18, 255, 256, 257, 272, -1, -2, -15, -16, -17, -255, -256, 1 << 31, 1 << 32, 1<<32 + 1, 1<<32 + 16, -1 << 32, 1<<62 + 1, math.MaxInt64, math.MinInt64, math.MinInt64 + 1, math.MinInt64 + 16}

// TestNumbers goes through all kinds, each with each A.
func TestNumbers(t *testing.T) {
	for kind := range 256 {
		g := around(uint8(kind))
		for a := range 256 {
			for _, b := range bs {
				g[3].A, g[3].B = uint8(a), b
				want := api.OK
				if !numbersByWords(g[3]) {
					want = 130
				}
				if e := check.Node(g, 3); e != want {
					t.Fatalf("kind %d, A %d, B %d: %d, want %d", kind, a, b, e, want)
				}
				at, e := check.Check(g)
				if want == 130 && (at != 3 || e != 130) || want == api.OK && (at != 4 || e != api.OK) {
					t.Fatalf("kind %d, A %d, B %d: %d, %d", kind, a, b, at, e)
				}
			}
		}
	}
}

// TestNumbersBounds tells the bounds by hand.
func TestNumbersBounds(t *testing.T) {
	for i, x := range []struct {
		kind, a uint8
		b       int64
		e       api.Errno
	}{
		{api.Map, 0, math.MinInt64, 0}, {api.Map, 1, 0, 0}, {api.Map, 2, -1, 0}, {api.Map, 3, 1, 0}, {api.Map, 3, math.MaxInt64, 0}, {api.Map, 3, 0, 130}, {api.Map, 3, -1, 130}, {api.Map, 4, 1, 130},
		{api.Filter, 0, -9, 0}, {api.Filter, 1, 1, 0}, {api.Filter, 2, 0, 0}, {api.Filter, 1, 0, 130}, {api.Filter, 1, math.MinInt64, 130}, {api.Filter, 3, 1, 130},
		{api.Reduce, 0, 0, 0}, {api.Reduce, 3, 0, 0}, {api.Reduce, 4, 0, 130}, {api.Reduce, 3, 1, 130}, {api.Reduce, 0, -1, 130},
		{api.Feedback, 0, 1, 0}, {api.Feedback, 0, 16, 0}, {api.Feedback, 0, 0, 130}, {api.Feedback, 0, 17, 130}, {api.Feedback, 0, -1, 130}, {api.Feedback, 1, 1, 130},
		{api.Input, 0, 0, 0}, {api.Input, 1, 0, 130}, {api.Input, 0, 1, 130}, {api.Union, 0, 0, 0}, {api.Union, 0, -1, 130}, {api.Union, 255, 0, 130}, {api.Join, 0, 0, 0}, {api.Join, 1, 1, 130},
		{api.Ingress, 0, 0, 0}, {api.Ingress, 0, 1, 130}, {api.Egress, 0, 0, 0}, {api.Egress, 2, 0, 130}, {api.Output, 0, 0, 0}, {api.Output, 0, 1 << 32, 130},
		{0, 0, 0, 130}, {11, 0, 0, 130}, {255, 0, 0, 130},
	} {
		g := around(x.kind)
		g[3].A, g[3].B = x.a, x.b
		if e := check.Node(g, 3); e != x.e {
			t.Errorf("%d: kind %d, A %d, B %d: %d, want %d", i, x.kind, x.a, x.b, e, x.e)
		}
	}
}

// lists are all of up to so many of some numbers.
func lists(most int, of []int) [][]int {
	made := [][]int{nil}
	for from := 0; most > 0; most-- {
		last := made[from:]
		from = len(made)
		for _, l := range last {
			for _, n := range of {
				made = append(made, append(slices.Clone(l), n))
			}
		}
	}
	return made
}

// TestPorts: how many inputs a kind has, and that each is the place of a node that is no Output.
func TestPorts(t *testing.T) {
	places := []int{0, 1, 2, 3, 4, 5, -1, 6, 31, 32, 256, 257, -256, 1 << 32, math.MaxInt, math.MinInt}
	for kind := range 12 {
		g := append(around(uint8(kind)), node(api.Output, 0, 0), node(api.Output, 0, 0)) // 4 and 5 are Outputs
		for _, in := range lists(3, places) {
			g[3].In = in
			if e, want := check.Node(g, 3), nodeByWords(g, 3); e != want {
				t.Fatalf("kind %d, fed by %v: %d, want %d", kind, in, e, want)
			}
		}
		for _, n := range []int{4, 31, 32, 255, 256, 257, 258, 1 << 16} { // nor do lengths that are cut off count
			g[3].In = make([]int, n)
			if e := check.Node(g, 3); e != nodeByWords(g, 3) || e != 100 && e != 130 {
				t.Errorf("kind %d, fed by %d: %d", kind, n, e)
			}
		}
	}
	for i, x := range []struct {
		kind uint8
		in   []int
		e    api.Errno
	}{
		{api.Input, nil, 0}, {api.Input, []int{0}, 100}, {api.Union, []int{1, 1}, 0}, {api.Union, []int{1, 3}, 0}, {api.Union, []int{1}, 100}, {api.Union, []int{1, 1, 1}, 100}, {api.Union, []int{1, 4}, 100}, {api.Union, []int{4, 1}, 100}, {api.Union, nil, 100},
		{api.Join, []int{3, 3}, 0}, {api.Join, []int{1, -1}, 100}, {api.Join, []int{5, 1}, 100}, {api.Map, []int{1}, 0}, {api.Map, []int{3}, 0}, {api.Map, nil, 100}, {api.Map, []int{1, 1}, 100}, {api.Map, []int{4}, 100}, {api.Map, []int{5}, 100},
		{api.Filter, nil, 100}, {api.Reduce, []int{-1}, 100}, {api.Ingress, []int{1, 1}, 100}, {api.Egress, nil, 100}, {api.Feedback, []int{4}, 100}, {api.Feedback, []int{3}, 0}, {api.Output, nil, 100}, {api.Output, []int{4}, 100}, {api.Output, []int{3}, 100},
	} {
		g := append(around(x.kind), node(api.Output, 0, 0))
		g[3].In = x.in
		if e := check.Node(g, 3); e != x.e {
			t.Errorf("%d: kind %d, fed by %v: %d, want %d", i, x.kind, x.in, e, x.e)
		}
	}
}

// depths are such as may be, and such as look like them when bits of them are lost, or are reckoned past the bounds.
var depths = []int{-2, -1, 0, 1, 2, 3, 4, 5, 255, 256, 257, -255, -256, 1 << 32, 1<<32 + 1, -1 << 32, math.MaxInt, math.MaxInt - 1, math.MinInt, math.MinInt + 1}

// TestDepth: of each kind, each depth, fed by nodes of each.
func TestDepth(t *testing.T) {
	for kind := range 12 {
		for _, depth := range depths {
			for _, a := range depths {
				for _, b := range depths {
					g := api.Graph{{Depth: a}, {Kind: 77, Depth: b}, node(uint8(kind), depth, 0, 1)}
					if kind != int(api.Union) && kind != int(api.Join) {
						g[2].In = []int{0}
					}
					if kind == int(api.Input) {
						g[2].In = nil
					}
					if e, want := check.Node(g, 2), nodeByWords(g, 2); e != want {
						t.Fatalf("kind %d of depth %d, fed by depths %d, %d: %d, want %d", kind, depth, a, b, e, want)
					}
				}
			}
		}
	}
	for i, x := range []struct {
		kind           uint8
		feeding, depth int
		e              api.Errno
	}{
		{api.Ingress, 0, 1, 0}, {api.Ingress, 2, 3, 0}, {api.Ingress, 3, 4, 101}, {api.Ingress, 0, 0, 101}, {api.Ingress, 1, 0, 101}, {api.Ingress, 0, 2, 101}, {api.Ingress, math.MaxInt, math.MinInt, 101},
		{api.Egress, 1, 0, 0}, {api.Egress, 3, 2, 0}, {api.Egress, 0, -1, 101}, {api.Egress, 0, 0, 101}, {api.Egress, 1, 2, 101}, {api.Egress, 2, 0, 101}, {api.Egress, math.MinInt, math.MaxInt, 101},
		{api.Feedback, 1, 1, 0}, {api.Feedback, 3, 3, 0}, {api.Feedback, 0, 0, 101}, {api.Feedback, 1, 2, 101}, {api.Feedback, 4, 4, 101},
		{api.Map, 0, 0, 0}, {api.Map, 3, 3, 0}, {api.Map, 4, 4, 101}, {api.Map, -1, -1, 101}, {api.Map, 1, 0, 101}, {api.Output, 0, 0, 0}, {api.Output, 1, 1, 101}, {api.Output, 1, 0, 101},
	} {
		g := api.Graph{{Depth: x.feeding}, node(x.kind, x.depth, 0)}
		if e := check.Node(g, 1); e != x.e {
			t.Errorf("%d: kind %d of depth %d, fed by depth %d: %d, want %d", i, x.kind, x.depth, x.feeding, e, x.e)
		}
	}
	if e := check.Node(api.Graph{node(api.Input, 1)}, 0); e != 101 {
		t.Errorf("an Input of depth 1: %d", e)
	}
	if e := check.Node(api.Graph{node(api.Input, 0), node(api.Input, 0), {Depth: 1}, node(api.Join, 0, 0, 2)}, 3); e != 101 {
		t.Errorf("the second input is deeper: %d", e)
	}
}

// TestNodeAlone: what is amiss with other nodes, with how many there are, or with a cycle, is not node i's.
func TestNodeAlone(t *testing.T) {
	many := make(api.Graph, 300)
	many[7] = node(api.Map, 0, 299)
	if e := check.Node(many, 7); e != api.OK {
		t.Errorf("of 300 nodes: %d", e)
	}
	if e := check.Node(api.Graph{{Kind: 99, A: 1, B: 1, Depth: 2, In: []int{5, 5, 5}}, node(api.Ingress, 3, 0)}, 1); e != api.OK {
		t.Errorf("fed by a wrong node: %d", e)
	}
	if e := check.Node(api.Graph{node(api.Map, 0, 0)}, 0); e != api.OK {
		t.Errorf("fed by itself: %d", e)
	}
	if at, e := check.Check(api.Graph{node(api.Map, 0, 0)}); at != 0 || e != 102 {
		t.Errorf("a graph of a node that is fed by itself: %d, %d", at, e)
	}
}

// TestNoNode: places at which no node stands.
func TestNoNode(t *testing.T) {
	wrong := api.Graph{{Kind: 99}}
	for _, i := range []int{-1, 1, 2, 32, -32, 256, -256, 1 << 32, -1 << 32, math.MaxInt, math.MinInt} {
		for _, g := range []api.Graph{nil, {}, wrong, around(api.Map)[:1], make(api.Graph, 2)[:1]} {
			if e := check.Node(g, i); e != 2 {
				t.Errorf("%d of %d nodes: %d", i, len(g), e)
			}
		}
	}
	if e := check.Node(nil, 0); e != 2 {
		t.Errorf("0 of none: %d", e)
	}
	if e := check.Node(wrong, 0); e != 130 {
		t.Errorf("0 of one: %d", e)
	}
}

// TestFirstFault: of several things that are amiss with a node the first one is told.
func TestFirstFault(t *testing.T) {
	out := node(api.Output, 0, 0)
	for i, x := range []struct {
		n api.Node
		e api.Errno
	}{
		{api.Node{Kind: api.Map, A: 4, Depth: 9, In: []int{1}}, 130}, {api.Node{Kind: 0, Depth: -1, In: []int{0, 0, 0}}, 130}, {api.Node{Kind: api.Feedback, In: []int{9}}, 130},
		{api.Node{Kind: api.Map, A: 1, Depth: 9, In: []int{1}}, 100}, {api.Node{Kind: api.Feedback, B: 1, In: []int{9}}, 100}, {api.Node{Kind: api.Union, Depth: -1, In: []int{0}}, 100}, {api.Node{Kind: api.Input, Depth: 1, In: []int{0}}, 100},
		{api.Node{Kind: api.Map, A: 1, Depth: 9, In: []int{0}}, 101}, {api.Node{Kind: api.Feedback, B: 1, In: []int{0}}, 101}, {api.Node{Kind: api.Map, A: 1, In: []int{0}}, 0},
	} {
		g := api.Graph{node(api.Input, 0), out, x.n}
		if e := check.Node(g, 2); e != x.e {
			t.Errorf("%d: %d, want %d", i, e, x.e)
		}
	}
}

// TestFirstOfAll: a graph that may not be written comes first, then the first wrong node, then cycles.
func TestFirstOfAll(t *testing.T) {
	in, loop, wrong := node(api.Input, 0), node(api.Map, 0, 0), node(api.Map, 0)
	unwritten := api.Node{Kind: api.Map, Depth: 4}
	for i, x := range []struct {
		g  api.Graph
		at int
		e  api.Errno
	}{
		{nil, 0, 3}, {api.Graph{}, 0, 3}, {make(api.Graph, 33), 0, 3}, {slices.Repeat(api.Graph{in}, 33), 0, 3}, {slices.Repeat(api.Graph{unwritten}, 33), 0, 3}, {slices.Repeat(api.Graph{in}, 32), 32, 0}, {slices.Repeat(api.Graph{in}, 1<<16), 0, 3}, {slices.Repeat(api.Graph{in}, 1<<16+1), 0, 3},
		{api.Graph{unwritten}, 0, 90}, {api.Graph{wrong, in, unwritten}, 0, 90}, {api.Graph{loop, wrong, unwritten}, 0, 90}, {api.Graph{in, {Kind: api.Map, Depth: -1, In: []int{0}}}, 0, 90}, {api.Graph{in, node(api.Map, 0, 32)}, 0, 90}, {api.Graph{in, node(api.Map, 0, -1)}, 0, 90}, {api.Graph{in, node(api.Union, 0, 0, 0, 0)}, 0, 90},
		{api.Graph{in, node(api.Map, 0, 31)}, 1, 100}, {api.Graph{in, in, wrong}, 2, 100}, {api.Graph{in, {Kind: 99}, wrong}, 1, 130}, {api.Graph{in, wrong, {Kind: 99}}, 1, 100}, {api.Graph{loop, wrong}, 1, 100}, {api.Graph{loop, in, in, {Kind: api.Egress, In: []int{1}}}, 3, 101}, {api.Graph{in, node(api.Map, 0, 1)}, 1, 102}, {slices.Repeat(api.Graph{loop}, 32), 0, 102},
	} {
		if at, e := check.Check(x.g); at != x.at || e != x.e {
			t.Errorf("%d: %d, %d, want %d, %d", i, at, e, x.at, x.e)
		}
		if order, e := check.Order(x.g); order != nil && e != api.OK || e != x.e {
			t.Errorf("%d: Order %v, %d", i, order, e)
		}
	}
}
