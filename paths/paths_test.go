package paths_test

import (
	"math"
	"slices"
	"testing"

	"tailrace/api"
	"tailrace/check"
	"tailrace/flow"
	"tailrace/paths"
	"tailrace/summary"
)

// of are the paths of a graph that may be run.
func of(t *testing.T, g api.Graph) *paths.Paths {
	t.Helper()
	p, e := paths.New(g)
	if e != api.OK || p == nil {
		t.Fatalf("New(%v): %v, %d", g, p, e)
	}
	return p
}

// held holds the answers for g, which may be run, against the promises' words.
func held(t *testing.T, g api.Graph) {
	t.Helper()
	p := of(t, g)
	if !flow.Same(p.Graph(), g) {
		t.Fatalf("Graph of %v: %v", g, p.Graph())
	}
	for from, n := range g {
		all := allWays(g, from)
		put := append(times(5, n.Depth, 0, 15), times(999, n.Depth, 9)...)
		for to := range g {
			if l, want := p.Ways(from, to), summary.Least(all[to]); !slices.Equal(l, want) {
				t.Fatalf("%v: Ways(%d, %d) is %v, want %v", g, from, to, l, want)
			}
			for _, x := range put {
				if f, want := p.Comes(from, x, to), comesByWords(all[to], x); !slices.Equal(f, want) {
					t.Fatalf("%v: Comes(%d, %v, %d) is %v, want %v", g, from, x, to, f, want)
				}
			}
		}
	}
}

// loop is the graph of the chapter's examples.
func loop() api.Graph {
	return api.Graph{node(api.Input, 0), node(api.Ingress, 1, 0), node(api.Union, 1, 1, 3), node(api.Feedback, 1, 2), node(api.Egress, 0, 2), node(api.Output, 0, 4)}
}

// nest are three loops, one within the other: 1, 3, 5 lead in, to 2, 4, 6, which 7, 9, 11 feed back, and 8, 10, 12 lead out.
func nest() api.Graph {
	return api.Graph{node(api.Input, 0),
		node(api.Ingress, 1, 0), node(api.Union, 1, 1, 11), node(api.Ingress, 2, 2), node(api.Union, 2, 3, 9), node(api.Ingress, 3, 4), node(api.Union, 3, 5, 7),
		node(api.Feedback, 3, 6), node(api.Egress, 2, 6), node(api.Feedback, 2, 8), node(api.Egress, 1, 8), node(api.Feedback, 1, 10), node(api.Egress, 0, 10),
		node(api.Output, 0, 12)}
}

// row are so many Feedbacks of depth 1, one behind the other, from node 2 on; 1 leads in; the last two nodes lead out, and are the Output.
func row(feedbacks int) api.Graph {
	g := api.Graph{node(api.Input, 0), node(api.Ingress, 1, 0)}
	for range feedbacks {
		g = append(g, node(api.Feedback, 1, len(g)-1))
	}
	return append(g, node(api.Egress, 0, len(g)-1), node(api.Output, 0, len(g)))
}

// ladder has a row of Feedbacks of depth 1 from which, behind each of them, a way leads into a row of as many of depth 2, at a place just as far on: whichever one takes, one comes by as many. Node 1 leads in; the last one is the end of the second row.
func ladder(steps int) api.Graph {
	g := api.Graph{node(api.Input, 0), node(api.Ingress, 1, 0)}
	for i := range steps {
		g = append(g, node(api.Feedback, 1, i+1))
	}
	g = append(g, node(api.Ingress, 2, 1))
	for i := range steps {
		last := len(g) - 1
		g = append(g, node(api.Feedback, 2, last), node(api.Ingress, 2, i+2), node(api.Union, 2, last+1, last+2))
	}
	return append(g, node(api.Reduce, 2, len(g)-1))
}

// TestExamples are the chapter's, and more of its graph.
func TestExamples(t *testing.T) {
	p := of(t, loop())
	for i, x := range []struct {
		from, to int
		want     []summary.Sum
	}{
		{0, 1, list(sum(0, 0, 0, 0))}, {0, 2, list(sum(0, 1, 0, 0, 0))}, {2, 2, list(sum(1, 1, 1, 1))},
		{0, 3, list(sum(0, 1, 0, 0, 0))}, {0, 4, list(sum(0, 1, 0, 0, 0))}, {0, 5, list(sum(0, 0, 0, 0))}, {1, 2, list(sum(1, 1, 1, 0))},
		{2, 3, list(sum(1, 1, 1, 0))}, {3, 2, list(sum(1, 1, 1, 0))}, {3, 3, list(sum(1, 1, 1, 0))}, {3, 5, list(sum(1, 0, 0, 0))}, {1, 5, list(sum(1, 0, 0, 0))}, {4, 5, list(sum(0, 0, 0, 0))},
		{0, 0, nil}, {1, 0, nil}, {1, 1, nil}, {2, 1, nil}, {4, 2, nil}, {4, 4, nil}, {5, 0, nil}, {5, 5, nil},
	} {
		if l := p.Ways(x.from, x.to); !slices.Equal(l, x.want) {
			t.Errorf("%d: Ways(%d, %d) is %v, want %v", i, x.from, x.to, l, x.want)
		}
	}
	for i, x := range []struct {
		from int
		at   api.Stamp
		to   int
		want []api.Stamp
	}{
		{2, at(4, 2), 5, frontier(at(4))}, {0, at(4), 2, frontier(at(4, 0))}, {5, at(4), 0, nil},
		{2, at(4, 2), 2, frontier(at(4, 3))}, {2, at(4, 14), 2, frontier(at(4, 15))}, {2, at(4, 15), 2, nil}, {2, at(4, 15), 5, frontier(at(4))}, {3, at(4, 15), 2, frontier(at(4, 15))},
		{0, at(999), 5, frontier(at(999))}, {0, at(0), 0, nil}, {4, at(7), 5, frontier(at(7))}, {1, at(7, 15), 4, frontier(at(7, 15))},
	} {
		if f := p.Comes(x.from, x.at, x.to); !slices.Equal(f, x.want) {
			t.Errorf("%d: Comes(%d, %v, %d) is %v, want %v", i, x.from, x.at, x.to, f, x.want)
		}
	}
	held(t, loop())
}

// TestNest tells by hand of loops within each other, where one may go round by several.
func TestNest(t *testing.T) {
	p := of(t, nest())
	for i, x := range []struct {
		from, to int
		want     []summary.Sum
	}{
		{0, 6, list(sum(0, 3, 0, 0, 0, 0, 0))}, {0, 13, list(sum(0, 0, 0, 0))},
		{6, 6, list(sum(3, 3, 1, 1, 0, 0), sum(3, 3, 2, 1, 0), sum(3, 3, 3, 1))},
		{4, 4, list(sum(2, 2, 1, 1, 0), sum(2, 2, 2, 1))}, {2, 2, list(sum(1, 1, 1, 1))},
		{4, 6, list(sum(2, 3, 1, 1, 0, 0), sum(2, 3, 2, 0, 0))}, {6, 4, list(sum(3, 2, 1, 1, 0), sum(3, 2, 2, 1))}, {2, 6, list(sum(1, 3, 1, 0, 0, 0))}, {6, 2, list(sum(3, 1, 1, 1))},
		{7, 7, list(sum(3, 3, 1, 1, 0, 0), sum(3, 3, 2, 1, 0), sum(3, 3, 3, 0))}, {9, 6, list(sum(2, 3, 1, 1, 0, 0), sum(2, 3, 2, 0, 0))}, {11, 7, list(sum(1, 3, 1, 0, 0, 0))}, {9, 13, list(sum(2, 0, 0, 0))},
		{6, 0, nil}, {6, 1, nil}, {12, 2, nil}, {13, 13, nil},
	} {
		if l := p.Ways(x.from, x.to); !slices.Equal(l, x.want) {
			t.Errorf("%d: Ways(%d, %d) is %v, want %v", i, x.from, x.to, l, x.want)
		}
	}
	for i, x := range []struct {
		from int
		at   api.Stamp
		to   int
		want []api.Stamp
	}{
		{6, at(8, 1, 2, 3), 6, frontier(at(8, 1, 2, 4), at(8, 1, 3, 0), at(8, 2, 0, 0))}, {6, at(8, 1, 2, 15), 6, frontier(at(8, 1, 3, 0), at(8, 2, 0, 0))},
		{6, at(8, 1, 15, 3), 6, frontier(at(8, 1, 15, 4), at(8, 2, 0, 0))}, {6, at(8, 15, 15, 14), 6, frontier(at(8, 15, 15, 15))}, {6, at(8, 15, 15, 15), 6, nil}, {6, at(8, 15, 15, 15), 13, frontier(at(8))},
		{6, at(8, 1, 0, 0), 6, frontier(at(8, 1, 0, 1), at(8, 1, 1, 0), at(8, 2, 0, 0))}, {4, at(8, 3, 9), 6, frontier(at(8, 3, 9, 0), at(8, 4, 0, 0))}, {4, at(8, 3, 0), 6, frontier(at(8, 3, 0, 0))},
	} {
		if f := p.Comes(x.from, x.at, x.to); !slices.Equal(f, x.want) {
			t.Errorf("%d: Comes(%d, %v, %d) is %v, want %v", i, x.from, x.at, x.to, f, x.want)
		}
	}
	held(t, nest())
}

// TestNowhere: a way on which a counter comes to 16 leads nowhere, whatever is behind it.
func TestNowhere(t *testing.T) {
	for feedbacks := range 29 {
		g := row(feedbacks)
		p, out := of(t, g), feedbacks+2
		for to := 2; to <= out; to++ { // the Egress stands behind the last Feedback
			deep, mid := list(sum(1, 1, 1, to-2)), list(sum(0, 1, 0, 0, to-2))
			if to-2 > 15 {
				deep, mid = nil, nil
			}
			if l, m := p.Ways(1, to), p.Ways(0, to); !slices.Equal(l, deep) || !slices.Equal(m, mid) {
				t.Errorf("of %d Feedbacks, to node %d: %v, %v", feedbacks, to, l, m)
			}
		}
		last := frontier(at(6))
		if feedbacks > 15 {
			last = nil
		}
		if f := p.Comes(0, at(6), out+1); !slices.Equal(f, last) {
			t.Errorf("behind %d Feedbacks: %v", feedbacks, f)
		}
		if l := p.Ways(2, out); feedbacks == 16 && !slices.Equal(l, list(sum(1, 1, 1, 15))) { // what the first one makes is not asked
			t.Errorf("from the first of 16: %v", l)
		}
		held(t, g)
	}
	p := of(t, row(15))
	if f := p.Comes(1, at(6, 1), 18); !slices.Equal(f, frontier(at(6))) { // of the way's summary nothing stays that is too great
		t.Errorf("15 Feedbacks more from 6.1, and out: %v", f)
	}
	if f := p.Comes(1, at(6, 1), 17); len(f) != 0 {
		t.Errorf("15 Feedbacks more from 6.1: %v", f)
	}
}

// TestAnotherWay: where one way leads nowhere, another one may lead on; one that leaves a loop and comes into it again begins anew.
func TestAnotherWay(t *testing.T) {
	g := row(16)
	g[18] = node(api.Union, 1, 17, 1) // behind the 16th Feedback, and behind none
	g = append(g[:19], node(api.Egress, 0, 18))
	p := of(t, g)
	if l := p.Ways(1, 18); !slices.Equal(l, list(sum(1, 1, 1, 0))) {
		t.Errorf("by the other way: %v", l)
	}
	if l := p.Ways(2, 18); !slices.Equal(l, list(sum(1, 1, 1, 15))) {
		t.Errorf("by the row: %v", l)
	}
	held(t, g)

	g = row(10)
	g[13] = node(api.Ingress, 1, 12) // it stood behind the Egress 12
	for range 10 {
		g = append(g, node(api.Feedback, 1, len(g)-1))
	}
	g = append(g, node(api.Map, 1, 23))
	p = of(t, g)
	if l := p.Ways(0, 24); !slices.Equal(l, list(sum(0, 1, 0, 0, 10))) {
		t.Errorf("twice in, by 10 Feedbacks each: %v", l)
	}
	if l := p.Ways(1, 24); !slices.Equal(l, list(sum(1, 1, 0, 0, 10))) {
		t.Errorf("from within: %v", l)
	}
	held(t, g)
}

// TestLadder: of ways none of which is ahead of another one all are told.
func TestLadder(t *testing.T) {
	for steps := 1; steps <= 6; steps++ {
		g := ladder(steps)
		p, last := of(t, g), len(g)-1
		var deep, mid []summary.Sum
		var far []api.Stamp
		for i := range steps + 1 {
			deep, mid = append(deep, sum(1, 2, 1, i, steps-i)), append(mid, sum(0, 2, 0, 0, i, steps-i))
			if i < 4 {
				far = append(far, at(3, 12+i, steps-i))
			}
		}
		if l, m := p.Ways(1, last), p.Ways(0, last); !slices.Equal(l, deep) || !slices.Equal(m, mid) {
			t.Errorf("of %d steps: %v, %v", steps, l, m)
		}
		if f := p.Comes(1, at(3, 12), last); !slices.Equal(f, far) {
			t.Errorf("of %d steps: %v", steps, f)
		}
		held(t, g)
	}
}

// TestRoundAgain: a time that went by more nodes may come with smaller counters, behind some round again.
func TestRoundAgain(t *testing.T) {
	g := api.Graph{node(api.Input, 0), node(api.Ingress, 1, 0), node(api.Union, 1, 1, 8), node(api.Ingress, 2, 2),
		node(api.Feedback, 2, 3), node(api.Feedback, 2, 4), node(api.Union, 2, 3, 5), node(api.Egress, 1, 5), node(api.Feedback, 1, 7), node(api.Output, 0, 10), node(api.Egress, 0, 7)}
	p := of(t, g)
	if l := p.Ways(4, 6); !slices.Equal(l, list(sum(2, 2, 1, 1, 0), sum(2, 2, 2, 1))) {
		t.Errorf("on, or round and by the short way: %v", l)
	}
	if l := p.Ways(5, 6); !slices.Equal(l, list(sum(2, 2, 1, 1, 0), sum(2, 2, 2, 0))) {
		t.Errorf("at once, or round: %v", l)
	}
	held(t, g)
}

// TestFeedbacksBound: B is not asked.
func TestFeedbacksBound(t *testing.T) {
	for _, b := range []int64{1, 2, 15, 16} {
		g := row(5)
		for i := 2; i < 7; i++ {
			g[i].B = b
		}
		if l := of(t, g).Ways(1, 7); !slices.Equal(l, list(sum(1, 1, 1, 5))) {
			t.Errorf("B %d: %v", b, l)
		}
		held(t, g)
	}
}

// TestBothInputs: a node that feeds both inputs of another one leads to it by one summary; one that feeds several leads to each.
func TestBothInputs(t *testing.T) {
	for _, kind := range []uint8{api.Join, api.Union} {
		g := api.Graph{node(api.Input, 0), node(kind, 0, 0, 0), node(api.Output, 0, 1), node(api.Output, 0, 0), node(api.Input, 0), node(kind, 0, 1, 4)}
		p := of(t, g)
		for to, want := range [][]summary.Sum{nil, list(sum(0, 0, 0, 0)), list(sum(0, 0, 0, 0)), list(sum(0, 0, 0, 0)), nil, list(sum(0, 0, 0, 0))} {
			if l := p.Ways(0, to); !slices.Equal(l, want) {
				t.Errorf("kind %d: to %d: %v", kind, to, l)
			}
		}
		if l := p.Ways(4, 1); len(l) != 0 {
			t.Errorf("kind %d: from 4: %v", kind, l)
		}
		held(t, g)
	}
}

// TestErrors: what check.Check refuses has no paths.
func TestErrors(t *testing.T) {
	in := node(api.Input, 0)
	for i, x := range []struct {
		g api.Graph
		e api.Errno
	}{
		{nil, 3}, {api.Graph{}, 3}, {slices.Repeat(api.Graph{in}, 33), 3}, {slices.Repeat(api.Graph{{Depth: 9}}, 33), 3}, {loop()[:0], 3},
		{api.Graph{{Kind: api.Map, Depth: 4}}, 90}, {api.Graph{in, node(api.Map, 0, 32)}, 90}, {api.Graph{in, node(api.Map, 0, -1)}, 90}, {api.Graph{node(api.Input, 0, 0, 0, 0)}, 90},
		{api.Graph{{Kind: 99}}, 130}, {api.Graph{{}}, 130}, {api.Graph{{Kind: api.Map, A: 4}}, 130}, {append(loop(), api.Node{Kind: 11}), 130},
		{api.Graph{node(api.Map, 0)}, 100}, {api.Graph{node(api.Output, 0, 0)}, 100}, {loop()[:5], 0}, {loop()[:3], 100},
		{api.Graph{in, node(api.Ingress, 0, 0)}, 101}, {api.Graph{in, node(api.Feedback, 0, 0)}, 101}, {api.Graph{node(api.Input, 1)}, 101},
		{api.Graph{in, node(api.Map, 0, 1)}, 102}, {api.Graph{in, node(api.Union, 0, 0, 2), node(api.Map, 0, 1)}, 102},
	} {
		if p, e := paths.New(x.g); e != x.e || (p == nil) != (e != api.OK) {
			t.Errorf("%d: %v, %d, want %d", i, p, e, x.e)
		}
	}
	c := &chances{seed: 3}
	for _, g := range graphs(2, 3000, 9, 2) {
		changed := copyOf(g)
		n := &changed[c.next(len(g))]
		switch c.next(4) {
		case 0:
			n.Kind = uint8(c.next(12))
		case 1:
			n.Depth += c.next(3) - 1
		default:
			for i := range n.In {
				n.In[i] = c.next(len(g)+2) - 1
			}
		}
		_, want := check.Check(changed)
		if p, e := paths.New(changed); e != want || (p == nil) != (e != api.OK) {
			t.Fatalf("%v: %v, %d, want %d", changed, p, e, want)
		}
	}
}

// TestNoNodes: from and to places at which no node stands, and of no paths, there is nothing.
func TestNoNodes(t *testing.T) {
	p := of(t, loop())
	for _, i := range []int{-1, -2, 6, 7, 31, 32, 33, -32, 256, 258, -256, 1 << 32, 1<<32 + 2, -1 << 32, math.MaxInt, math.MinInt} {
		for j := range 6 {
			for _, x := range [][2]int{{i, j}, {j, i}, {i, i}} {
				if l := p.Ways(x[0], x[1]); len(l) != 0 {
					t.Errorf("Ways(%d, %d): %v", x[0], x[1], l)
				}
				for _, put := range []api.Stamp{at(1), at(1, 1)} {
					if f := p.Comes(x[0], put, x[1]); len(f) != 0 {
						t.Errorf("Comes(%d, %v, %d): %v", x[0], put, x[1], f)
					}
				}
			}
		}
	}
	for i, p := range []*paths.Paths{nil, new(paths.Paths)} {
		for _, from := range []int{0, 1, -1, 31, math.MaxInt, math.MinInt} {
			if len(p.Ways(from, from)) != 0 || len(p.Ways(from, 0)) != 0 || len(p.Comes(from, at(0), 0)) != 0 || len(p.Comes(0, at(0), from)) != 0 || len(p.Graph()) != 0 {
				t.Errorf("%d: something from %d", i, from)
			}
		}
	}
}

// TestNoTimes: of times that may not be, or have another depth than what the node puts out, nothing comes.
func TestNoTimes(t *testing.T) {
	for _, g := range []api.Graph{loop(), nest()} {
		p := of(t, g)
		for from, n := range g {
			for to := range g {
				for _, x := range wrongTimes() {
					if f := p.Comes(from, x, to); len(f) != 0 {
						t.Errorf("Comes(%d, %v, %d): %v", from, x, to, f)
					}
				}
				for depth := range 4 {
					x := at(3, make([]int, depth)...)
					if f := p.Comes(from, x, to); depth != n.Depth && len(f) != 0 || depth == n.Depth && (len(f) == 0) != (len(p.Ways(from, to)) == 0) {
						t.Errorf("Comes(%d, %v, %d): %v", from, x, to, f)
					}
				}
			}
		}
	}
}

// TestAnyGraph goes through graphs in no order, of up to 32 nodes.
func TestAnyGraph(t *testing.T) {
	round, several := 0, 0
	for _, g := range slices.Concat(graphs(4, 1500, 9, 1), graphs(5, 1500, 14, 2), graphs(6, 400, 20, 3), graphs(7, 100, 32, 3)) {
		held(t, g)
		p := of(t, g)
		for from := range g {
			if len(p.Ways(from, from)) > 0 {
				round++
			}
			for to := range g {
				if len(p.Ways(from, to)) > 1 {
					several++
				}
			}
		}
	}
	if round < 1000 || several < 200 {
		t.Errorf("only %d nodes are in cycles, only %d pairs have several ways", round, several)
	}
}

// rights are all nodes that are right at a place, of graphs of nodes of some depths.
func rights(place int, depths []int) []api.Node {
	var made []api.Node
	for i, depth := range depths {
		switch d := depths[place]; {
		case depth == d:
			made = append(made, node(api.Map, d, i))
			if d > 0 {
				made = append(made, node(api.Feedback, d, i))
			}
			for j := range i + 1 {
				if depths[j] == d {
					made = append(made, node(api.Union, d, i, j))
				}
			}
		case depth == d-1:
			made = append(made, node(api.Ingress, d, i))
		case depth == d+1:
			made = append(made, node(api.Egress, d, i))
		}
	}
	return made
}

// TestAllOfFive goes through all graphs that may be run of an Input, an Ingress of it, and three nodes more.
func TestAllOfFive(t *testing.T) {
	runs := 0
	for n := range 27 {
		depths := []int{0, 1, n % 3, n / 3 % 3, n / 9}
		g := api.Graph{node(api.Input, 0), node(api.Ingress, 1, 0), {}, {}, {}}
		for _, g[2] = range rights(2, depths) {
			for _, g[3] = range rights(3, depths) {
				for _, g[4] = range rights(4, depths) {
					if _, e := check.Check(g); e == api.OK {
						held(t, g)
						runs++
					}
				}
			}
		}
	}
	if runs < 3000 {
		t.Errorf("only %d may be run", runs)
	}
}
