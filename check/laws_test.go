package check_test

import (
	"slices"
	"testing"

	"tailrace/api"
	"tailrace/check"
)

// These tests go through what follows, and is promised (P10.5), and through what is handed in and answered (P10.4).

// TestBehind: in an order each node stands once; one that is no Feedback stands behind all that feed it.
func TestBehind(t *testing.T) {
	runs := 0
	for _, g := range append(rights(5, 20000), nest(0), knot(1)) {
		order, e := check.Order(g)
		if e != api.OK {
			continue
		}
		runs++
		sorted := slices.Clone(order)
		slices.Sort(sorted)
		for i, n := range sorted {
			if n != i || len(sorted) != len(g) {
				t.Fatalf("%v stand in the order of %v", order, g)
			}
		}
		for at, i := range order {
			for _, from := range g[i].In {
				if g[i].Kind != api.Feedback && !slices.Contains(order[:at], from) {
					t.Fatalf("%d stands ahead of %d in the order %v of %v", i, from, order, g)
				}
			}
		}
	}
	if runs < 2000 {
		t.Errorf("only %d of them may be run", runs)
	}
}

// more are nodes that feed none, and are right in g: one of each kind, fed by what fits it.
func (c *chances) more(g api.Graph) []api.Node {
	made := []api.Node{node(api.Input, 0)}
	var from []int
	for i, n := range g {
		if n.Kind != api.Output {
			from = append(from, i)
		}
	}
	if len(from) == 0 {
		return made
	}
	i := from[c.next(len(from))]
	for kind := api.Map; kind <= api.Output; kind++ {
		for depth := range 4 {
			n := node(kind, depth, i)
			if kind == api.Union || kind == api.Join {
				n.In = []int{i, i}
			}
			c.numbers(&n)
			if nodeByWords(append(slices.Clone(g), n), len(g)) == api.OK {
				made = append(made, n)
			}
		}
	}
	return made
}

// TestOneMore: with a node more that feeds none, a graph may be run as it may be without, and the others' order stays, be it the last one or not.
func TestOneMore(t *testing.T) {
	c := &chances{seed: 6}
	for _, g := range append(rights(7, 3000), nest(0), nest(2), knot(0), knot(1)) {
		if len(g) == 32 {
			continue
		}
		at, e := check.Check(g)
		order, _ := check.Order(g)
		for _, n := range c.more(g) {
			for _, place := range []int{len(g), c.next(len(g) + 1)} {
				to := make([]int, len(g)+1)
				for i := range g {
					to[i] = i
					if i >= place {
						to[i]++
					}
				}
				to[len(g)] = place
				with := moved(append(slices.Clone(g), n), to)
				is, f := check.Check(with)
				if f != e || e == api.OK && is != len(g)+1 || e != api.OK && is != to[at] {
					t.Fatalf("%v: %d, %d, and with %v at %d: %d, %d", g, at, e, n, place, is, f)
				}
				var want []int
				for _, i := range order {
					want = append(want, to[i])
				}
				got, _ := check.Order(with)
				if got = slices.DeleteFunc(got, func(i int) bool { return i == place }); !slices.Equal(got, want) {
					t.Fatalf("%v: the order %v, and with %v at %d: %v", g, want, n, place, got)
				}
			}
		}
	}
	full := slices.Repeat(api.Graph{node(api.Input, 0)}, 32)
	if at, e := check.Check(append(full, node(api.Input, 0))); at != 0 || e != 3 {
		t.Errorf("one more than 32: %d, %d", at, e)
	}
}

// TestOnlyRead: what is handed in stays as it is, behind lists' lengths too.
func TestOnlyRead(t *testing.T) {
	graphs := append(rights(8, 300), knot(0), nest(3), api.Graph{{Kind: 99}}, api.Graph{node(api.Map, 0, 7)}, api.Graph{node(api.Map, 9, 0)}, make(api.Graph, 33))
	for i, g := range graphs {
		room := append(copyOf(g), api.Node{Kind: 77}, api.Node{Kind: 78})
		for j := range room {
			room[j].In = append(room[j].In, 101, 102, 103)[:len(room[j].In)]
		}
		whole := func() api.Graph { // with what stands behind its lists
			all := slices.Clone(room[:cap(room)])
			for j, n := range all {
				all[j].In = slices.Clone(n.In[:cap(n.In)])
			}
			return all
		}
		was := whole()
		handed := room[:len(g)]
		check.Check(handed)
		check.Order(handed)
		for j := -1; j <= len(g); j++ {
			check.Node(handed, j)
		}
		now := whole()
		for j, n := range now {
			if m := was[j]; n.Kind != m.Kind || n.A != m.A || n.B != m.B || n.Depth != m.Depth || !slices.Equal(n.In, m.In) {
				t.Errorf("%d: node %d, %v, is %v now", i, j, m, n)
			}
		}
	}
}

// TestNewMemory: who spoils an order spoils nothing else.
func TestNewMemory(t *testing.T) {
	g := nest(0)
	one, _ := check.Order(g)
	other, _ := check.Order(g)
	for i := range one[:cap(one)] {
		one[:cap(one)][i] = 99
	}
	want, _ := orderByWords(g)
	if again, e := check.Order(g); !slices.Equal(other, want) || !slices.Equal(again, want) || e != api.OK {
		t.Errorf("%v, %v, %d, want %v", other, again, e, want)
	}
	held(t, g)
}

// TestAtOnce: calls from several goroutines answer as one does alone.
func TestAtOnce(t *testing.T) {
	graphs := rights(9, 200)
	done := make(chan bool)
	for range 8 {
		go func() {
			ok := true
			for _, g := range graphs {
				at, e := check.Check(g)
				order, _ := check.Order(g)
				want, is := checkByWords(g)
				stands, _ := orderByWords(g)
				ok = ok && at == want && e == is && slices.Equal(order, stands)
			}
			done <- ok
		}()
	}
	for range 8 {
		if !<-done {
			t.Error("another answer than alone")
		}
	}
}

// TestNilAndEmpty mean the same, inside graphs too.
func TestNilAndEmpty(t *testing.T) {
	for _, g := range []api.Graph{{{Kind: api.Input, In: []int{}}}, {{Kind: api.Input}}} {
		if at, e := check.Check(g); at != 1 || e != api.OK {
			t.Errorf("%v: %d, %d", g, at, e)
		}
		held(t, g)
	}
	for _, g := range []api.Graph{{{Kind: api.Map, In: []int{}}}, {{Kind: api.Map}}} {
		if at, e := check.Check(g); at != 0 || e != api.ErrPorts {
			t.Errorf("%v: %d, %d", g, at, e)
		}
	}
}
