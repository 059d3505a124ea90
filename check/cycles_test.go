package check_test

import (
	"slices"
	"testing"

	"tailrace/api"
	"tailrace/check"
)

// knot is a graph of two cycles that meet at node 5: 0 and 5 go on by the Feedback 0, of depth 2; 5, 1, 3 and 4 have none.
func knot(feedback int) api.Graph {
	g := api.Graph{
		node(api.Feedback, 2, 5), // also in a cycle that goes on in both, one behind the other: the least depth there is 1
		node(api.Egress, 1, 5),
		node(api.Input, 0),
		node(api.Union, 1, 6, 1),
		node(api.Ingress, 2, 3),
		node(api.Union, 2, 4, 0),
		node(api.Ingress, 1, 2),
	}
	if feedback == 1 { // the outer one goes on as well
		g[3].In = []int{6, 7}
		g = append(g, node(api.Feedback, 1, 1))
	}
	return g
}

// nest are loops, one within the other, each with a Feedback but that of the depth without.
func nest(without int) api.Graph {
	g := api.Graph{node(api.Input, 0)}
	last := 0
	for depth := 1; depth <= 3; depth++ {
		g = append(g, node(api.Ingress, depth, last), node(api.Union, depth, len(g), 0))
		last = len(g) - 1
	}
	for depth := 3; depth >= 1; depth-- {
		kind := api.Feedback
		if depth == without {
			kind = api.Map
		}
		g[2*depth].In[1] = len(g)
		g = append(g, node(kind, depth, last), node(api.Egress, depth-1, last))
		last = len(g) - 1
	}
	return append(g, node(api.Output, 0, last))
}

// TestCycles tells by hand which cycles go on.
func TestCycles(t *testing.T) {
	in, into := node(api.Input, 0), node(api.Ingress, 1, 0)
	for i, x := range []struct {
		name  string
		g     api.Graph
		at    int
		e     api.Errno
		order []int
	}{
		{"a Feedback fed by itself", api.Graph{node(api.Feedback, 1, 0)}, 1, 0, []int{0}},
		{"a Map fed by itself", api.Graph{in, node(api.Map, 0, 1)}, 1, 102, nil},
		{"a deep Map fed by itself", api.Graph{in, node(api.Map, 3, 1)}, 1, 102, nil},
		{"a Union fed by itself", api.Graph{in, into, node(api.Union, 1, 1, 2)}, 2, 102, nil},
		{"a Union fed twice by a Feedback of it", api.Graph{node(api.Union, 1, 1, 1), node(api.Feedback, 1, 0)}, 2, 0, []int{1, 0}},
		{"two Feedbacks round", api.Graph{node(api.Feedback, 1, 1), node(api.Feedback, 1, 0)}, 2, 0, []int{0, 1}},
		{"two Feedbacks that feed one", api.Graph{node(api.Feedback, 1, 2), node(api.Feedback, 1, 2), node(api.Union, 1, 0, 1)}, 3, 0, []int{0, 1, 2}},
		{"a way by the Feedback", api.Graph{node(api.Feedback, 1, 3), node(api.Input, 0), node(api.Ingress, 1, 1), node(api.Union, 1, 2, 4), node(api.Union, 1, 0, 5), node(api.Map, 1, 3)}, 3, 102, nil},
		{"loops within each other", nest(0), 14, 0, []int{0, 1, 7, 9, 11, 2, 3, 4, 5, 6, 8, 10, 12, 13}},
		{"the innermost without Feedback", nest(3), 6, 102, nil},
		{"the middle one without Feedback", nest(2), 4, 102, nil},
		{"the outermost without Feedback", nest(1), 2, 102, nil},
		{"two cycles that meet", knot(0), 0, 102, nil},
		{"the same, where both go on", knot(1), 8, 0, []int{0, 2, 6, 7, 3, 4, 5, 1}},
		{"only what is round, not what feeds it or is fed", api.Graph{in, into, node(api.Egress, 0, 5), node(api.Output, 0, 2), node(api.Union, 1, 1, 5), node(api.Map, 1, 4)}, 4, 102, nil},
		{"what is between two cycles is in neither", api.Graph{node(api.Filter, 0, 2), in, node(api.Union, 0, 1, 3), node(api.Map, 0, 2), node(api.Union, 0, 0, 5), node(api.Map, 0, 4)}, 2, 102, nil},
		{"a Feedback of the least depth, and a deeper one", api.Graph{in, into, node(api.Union, 1, 1, 6), node(api.Ingress, 2, 2), node(api.Feedback, 2, 3), node(api.Egress, 1, 4), node(api.Feedback, 1, 5)}, 7, 0, []int{0, 1, 4, 5, 6, 2, 3}},
		{"a deeper Feedback alone", api.Graph{in, into, node(api.Union, 1, 1, 5), node(api.Ingress, 2, 2), node(api.Feedback, 2, 3), node(api.Egress, 1, 4)}, 2, 102, nil},
		{"over depth 0 none goes on", api.Graph{node(api.Union, 0, 4, 3), node(api.Ingress, 1, 0), node(api.Feedback, 1, 1), node(api.Egress, 0, 2), in}, 0, 102, nil},
	} {
		if at, e := check.Check(x.g); at != x.at || e != x.e {
			t.Errorf("%d, %s: %d, %d, want %d, %d", i, x.name, at, e, x.at, x.e)
		}
		if order, e := check.Order(x.g); !slices.Equal(order, x.order) || e != x.e {
			t.Errorf("%d, %s: Order %v, %d, want %v, %d", i, x.name, order, e, x.order, x.e)
		}
		held(t, x.g)
	}
}

// TestNestTurned: which Feedback is missing is found wherever the nodes stand.
func TestNestTurned(t *testing.T) {
	for without := range 4 {
		g := nest(without)
		for turn := range g {
			to := make([]int, len(g))
			for i := range to {
				to[i] = (i*5 + turn) % len(g)
			}
			held(t, moved(g, to))
		}
	}
}

// TestAnyRight goes through graphs in no order whose nodes are all right, of which some have cycles that do not go on.
func TestAnyRight(t *testing.T) {
	runs, stands := 0, 0
	for _, g := range rights(1, 60000) {
		held(t, g)
		if _, e := check.Check(g); e == api.OK {
			runs++
		} else if e == api.ErrCycle {
			stands++
		} else {
			t.Fatalf("%v: %d", g, e)
		}
	}
	if runs < 5000 || stands < 5000 {
		t.Errorf("%d may be run, %d have a cycle", runs, stands)
	}
}

// TestByTheWay: the node 0 of the knot is in a cycle that does not go on only if that may come by node 5 twice.
func TestByTheWay(t *testing.T) {
	g := knot(0)
	perm := []int{0, 1, 2, 3, 4, 5, 6}
	for range 5040 { // so many orders are there of seven
		held(t, moved(g, perm))
		if at, e := check.Check(moved(g, perm)); e != api.ErrCycle || at != min(perm[0], perm[1], perm[3], perm[4], perm[5]) {
			t.Fatalf("at %v: %d, %d", perm, at, e)
		}
		nextOf(perm)
	}
}

// nextOf turns an order into the next one.
func nextOf(l []int) {
	i := len(l) - 2
	for i >= 0 && l[i] > l[i+1] {
		i--
	}
	if i >= 0 {
		j := len(l) - 1
		for l[j] < l[i] {
			j--
		}
		l[i], l[j] = l[j], l[i]
	}
	slices.Reverse(l[i+1:])
}

// each are all nodes of some kinds, up to a depth, with up to two inputs from some places.
func each(kinds []uint8, deepest int, places []int) []api.Node {
	var made []api.Node
	for _, kind := range kinds {
		for depth := range deepest + 1 {
			for _, in := range lists(2, places) {
				made = append(made, node(kind, depth, in...))
			}
		}
	}
	return made
}

// TestAllOfTwo goes through all graphs of up to two nodes, right and wrong ones.
func TestAllOfTwo(t *testing.T) {
	l := each([]uint8{0, 1, 2, 4, 5, 7, 8, 9, 10}, 3, []int{0, 1, 2})
	for _, a := range l {
		held(t, api.Graph{a})
		for _, b := range l {
			held(t, api.Graph{a, b})
		}
	}
}

// TestAllOfThree goes through all graphs of an Input and three more nodes that are all right.
func TestAllOfThree(t *testing.T) {
	l := slices.DeleteFunc(each([]uint8{2, 4, 7, 8, 9}, 2, []int{0, 1, 2, 3}), func(n api.Node) bool {
		return len(n.In) != inputsByWords(n.Kind)
	})
	right := func(g api.Graph) bool {
		return nodeByWords(g, 1) == api.OK && nodeByWords(g, 2) == api.OK && nodeByWords(g, 3) == api.OK
	}
	runs, stands := 0, 0
	for _, a := range l {
		for _, b := range l {
			for _, c := range l {
				g := api.Graph{node(api.Input, 0), a, b, c}
				if !right(g) {
					continue
				}
				held(t, g)
				if _, e := check.Check(g); e == api.OK {
					runs++
				} else {
					stands++
				}
			}
		}
	}
	if runs < 100 || stands < 100 {
		t.Errorf("%d may be run, %d have a cycle", runs, stands)
	}
}

// TestChanged: graphs of which one thing is changed, or two.
func TestChanged(t *testing.T) {
	c := &chances{seed: 4}
	for _, g := range rights(2, 30000) {
		changed := copyOf(g)
		for range 1 + c.next(2) {
			n := &changed[c.next(len(g))]
			switch c.next(8) {
			case 0:
				n.Kind = uint8(c.next(12))
			case 1:
				n.A = uint8(c.next(5))
			case 2:
				n.B = bs[c.next(len(bs))]
			case 3:
				n.Depth += c.next(3) - 1
			case 4:
				n.In = append(n.In, c.next(len(g)))
			case 5:
				n.In = n.In[:len(n.In)/2]
			default:
				for i := range n.In {
					n.In[i] = c.next(len(g)+2) - 1
				}
			}
		}
		held(t, changed)
	}
}
