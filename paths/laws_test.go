package paths_test

import (
	"slices"
	"testing"

	"tailrace/api"
	"tailrace/flow"
	"tailrace/paths"
	"tailrace/stamp"
	"tailrace/summary"
)

// These tests go through what follows, and is promised (P11.6), and through what is handed in and answered (P11.5).

// some are graphs for the laws.
func some() []api.Graph {
	return slices.Concat([]api.Graph{loop(), nest(), row(15), row(16), ladder(5)}, graphs(20, 300, 12, 2), graphs(21, 300, 16, 3), graphs(22, 50, 32, 3))
}

// through is what a node makes of a time, if that comes to one.
func through(n api.Node, x api.Stamp) (api.Stamp, bool) {
	switch n.Kind {
	case api.Ingress:
		return stamp.Into(x)
	case api.Egress:
		return stamp.Out(x)
	case api.Feedback:
		return stamp.Step(x)
	}
	return x, true
}

// reached: is one of f at or ahead of x?
func reached(f []api.Stamp, x api.Stamp) bool {
	return slices.ContainsFunc(f, func(y api.Stamp) bool { return stamp.Leq(y, x) })
}

// TestWalks: whatever time comes along a way, node by node, comes by one of Ways, at or ahead.
func TestWalks(t *testing.T) {
	c := &chances{seed: 30}
	moves, round := 0, 0
	for _, g := range some() {
		p := of(t, g)
		for range 40 {
			from := c.next(len(g))
			put := api.Stamp{Depth: g[from].Depth, Epoch: c.next(1000)}
			for i := range put.Depth {
				put.Loops[i] = c.next(2) * c.next(16)
			}
			x, last := put, from
			for range 60 {
				var fed []int
				for i, n := range g {
					if slices.Contains(n.In, last) {
						fed = append(fed, i)
					}
				}
				if len(fed) == 0 {
					break
				}
				last = fed[c.next(len(fed))]
				if !reached(p.Comes(from, put, last), x) {
					t.Fatalf("%v: from %d at %v something comes to %d at %v, not told by %v", g, from, put, last, x, p.Comes(from, put, last))
				}
				if last == from {
					round++
				}
				moves++
				on, ok := through(g[last], x)
				if !ok {
					break
				}
				x = on
			}
		}
	}
	if moves < 50000 || round < 1000 {
		t.Errorf("only %d moves, %d of them back to where they began", moves, round)
	}
}

// TestLeadsOn: each summary of Ways to a node, then that node's, is at or behind one of Ways to each that it feeds.
func TestLeadsOn(t *testing.T) {
	for _, g := range some() {
		p := of(t, g)
		for from := range g {
			for to, n := range g {
				for _, mid := range n.In {
					for _, s := range p.Ways(from, mid) {
						its, _ := summary.Of(g[mid].Kind, g[mid].Depth)
						on, ok := summary.Then(s, its)
						ahead := func(w summary.Sum) bool { return summary.Leq(w, on) }
						if ok && !slices.ContainsFunc(p.Ways(from, to), ahead) {
							t.Fatalf("%v: from %d by %d to %d: %v is ahead of all %v", g, from, mid, to, on, p.Ways(from, to))
						}
					}
				}
			}
		}
	}
}

// TestRoundCycles: round any cycle no time comes back at or ahead of itself, be it asked at a node's input or at its output.
func TestRoundCycles(t *testing.T) {
	round := 0
	for _, g := range some() {
		p := of(t, g)
		for i, n := range g {
			for _, x := range times(7, n.Depth, 0, 1, 14, 15) {
				for _, back := range p.Comes(i, x, i) {
					if on, ok := through(n, back); ok && stamp.Leq(on, x) {
						t.Fatalf("%v: what node %d puts out at %v comes back to it at %v, and it puts out %v", g, i, x, back, on)
					}
				}
			}
			its, _ := summary.Of(n.Kind, n.Depth)
			for _, in := range times(7, its.From, 0, 1, 14, 15) {
				out, ok := through(n, in)
				if !ok {
					continue
				}
				for _, back := range p.Comes(i, out, i) {
					round++
					if stamp.Leq(back, in) {
						t.Fatalf("%v: what comes to node %d at %v comes back at %v", g, i, in, back)
					}
				}
			}
		}
	}
	if round < 1000 {
		t.Errorf("only %d came back", round)
	}
}

// TestLater: of a later time nothing earlier comes.
func TestLater(t *testing.T) {
	for _, g := range some()[:300] {
		p := of(t, g)
		for from, n := range g {
			put := append(times(7, n.Depth, 0, 6, 15), times(8, n.Depth, 6)...)
			for to := range g {
				for _, x := range put {
					first := p.Comes(from, x, to)
					for _, y := range put {
						if !stamp.Leq(x, y) {
							continue
						}
						for _, z := range p.Comes(from, y, to) {
							if !reached(first, z) {
								t.Fatalf("%v: from %d to %d: of %v comes %v, and of %v %v", g, from, to, y, z, x, first)
							}
						}
					}
				}
			}
		}
	}
}

// same: do the ways of g stay, where its node i stands at to[i]?
func same(t *testing.T, g, other api.Graph, to []int) {
	t.Helper()
	p, q := of(t, g), of(t, other)
	for i := len(g) - 1; i >= 0; i-- { // also: in whatever order they are asked for
		for j := range g {
			l, m := p.Ways(i, j), q.Ways(to[i], to[j])
			if !slices.Equal(l, m) {
				t.Fatalf("%v: from %d to %d: %v, in %v: %v", g, i, j, l, other, m)
			}
		}
	}
}

// TestOneMore: with a node more that feeds none the ways between the others stay, be it the last one or not.
func TestOneMore(t *testing.T) {
	c := &chances{seed: 31}
	for _, g := range some() {
		if len(g) == 32 {
			continue
		}
		for range 6 {
			i := c.next(len(g))
			if g[i].Kind == api.Output {
				continue
			}
			n := c.fed(g, i, 3)
			to := make([]int, len(g)+1)
			place := c.next(len(g) + 1)
			for j := range g {
				to[j] = j
				if j >= place {
					to[j]++
				}
			}
			to[len(g)] = place
			other := moved(append(slices.Clone(g), n), to)
			same(t, g, other, to)
			if p := of(t, other); n.Kind != api.Input && len(p.Ways(to[i], place)) == 0 {
				t.Fatalf("%v: no way to node %d", other, place)
			}
			for j := range other {
				if l := of(t, other).Ways(place, j); len(l) != 0 {
					t.Fatalf("%v: from node %d, which feeds none: %v", other, place, l)
				}
			}
		}
	}
}

// TestMoved: ways do not hang on the places at which the nodes stand.
func TestMoved(t *testing.T) {
	c := &chances{seed: 32}
	for _, g := range some() {
		for range 3 {
			to := c.turned(len(g))
			same(t, g, moved(g, to), to)
		}
	}
}

// roomy is g with room behind its lists in which other things stand.
func roomy(g api.Graph) api.Graph {
	room := append(copyOf(g), api.Node{Kind: 77}, api.Node{Kind: 78})
	for i := range room {
		room[i].In = append(room[i].In, 101, 102, 103)[:len(room[i].In)]
	}
	return room[:len(g)]
}

// whole is all that stands in g's lists, and behind them.
func whole(g api.Graph) (api.Graph, [][]int) {
	all := slices.Clone(g[:cap(g)])
	var in [][]int
	for i, n := range all {
		in = append(in, slices.Clone(n.In[:cap(n.In)]))
		all[i].In = nil
	}
	return all, in
}

// spoil makes another thing of all that stands in g, and behind its lists.
func spoil(g api.Graph) {
	for i, n := range g[:cap(g)] {
		for j := range n.In[:cap(n.In)] {
			n.In[:cap(n.In)][j] = 66
		}
		g[:cap(g)][i] = api.Node{Kind: 99, A: 9, B: 9, Depth: 9}
	}
}

// TestOnlyRead: what is handed in stays as it is, behind lists' lengths too.
func TestOnlyRead(t *testing.T) {
	wrong := []api.Graph{{{Kind: 99}}, {node(api.Map, 0, 7)}, {node(api.Map, 9, 0)}, {node(api.Map, 0, 0)}, make(api.Graph, 33)}
	for i, g := range append(wrong, some()[:100]...) {
		handed := roomy(g)
		was, in := whole(handed)
		p, _ := paths.New(handed)
		for from := range g {
			for to := range g {
				p.Ways(from, to)
				p.Comes(from, at(3, make([]int, max(0, g[from].Depth))...), to)
			}
		}
		p.Graph()
		now, fed := whole(handed)
		same := func(a, b api.Node) bool { return a.Kind == b.Kind && a.A == b.A && a.B == b.B && a.Depth == b.Depth }
		if !slices.EqualFunc(was, now, same) || !slices.EqualFunc(in, fed, slices.Equal) {
			t.Fatalf("%d: %v, %v is %v, %v now", i, was, in, now, fed)
		}
	}
}

// TestNotKept: who spoils what was handed in, ahead of what is asked first or behind it, spoils no paths.
func TestNotKept(t *testing.T) {
	for _, g := range some()[:100] {
		for _, first := range []bool{true, false} {
			handed := roomy(g)
			p := of(t, handed)
			want := of(t, g)
			if first {
				p.Ways(0, len(g)-1)
			}
			spoil(handed)
			if !flow.Same(p.Graph(), g) {
				t.Fatalf("%v is %v", g, p.Graph())
			}
			for from := range g {
				for to := range g {
					if l, m := p.Ways(from, to), want.Ways(from, to); !slices.Equal(l, m) {
						t.Fatalf("%v: from %d to %d: %v, want %v", g, from, to, l, m)
					}
				}
			}
		}
	}
}

// TestNewMemory: who spoils an answer spoils neither paths nor another answer.
func TestNewMemory(t *testing.T) {
	g := nest()
	p, want := of(t, g), of(t, nest())
	x := at(8, 1, 2, 3)
	for range 2 {
		h, other := p.Graph(), p.Graph()
		l, more := p.Ways(6, 6), p.Ways(6, 6)
		f, again := p.Comes(6, x, 6), p.Comes(6, x, 6)
		spoil(h)
		for i := range l[:cap(l)] {
			l[:cap(l)][i] = summary.Sum{From: 9, To: 9, Keep: 9, Add: 9, Tail: [3]int{9, 9, 9}}
		}
		for i := range f[:cap(f)] {
			f[:cap(f)][i] = api.Stamp{Depth: 9, Epoch: 9, Loops: [3]int{9, 9, 9}}
		}
		if !flow.Same(other, g) || !slices.Equal(more, want.Ways(6, 6)) || !slices.Equal(again, want.Comes(6, x, 6)) {
			t.Errorf("other answers: %v, %v, %v", other, more, again)
		}
		if !slices.Equal(p.Ways(6, 6), want.Ways(6, 6)) || !slices.Equal(p.Comes(6, x, 6), want.Comes(6, x, 6)) {
			t.Errorf("the paths: %v, %v", p.Ways(6, 6), p.Comes(6, x, 6))
		}
		if !flow.Same(p.Graph(), g) {
			t.Errorf("the paths: %v", p.Graph())
		}
	}
	h := of(t, api.Graph{node(api.Input, 0), node(api.Join, 0, 0, 0), node(api.Join, 0, 1, 1)}).Graph()
	for _, n := range h {
		for i := range n.In[len(n.In):cap(n.In)] {
			n.In[len(n.In):cap(n.In)][i] = 9
		}
	}
	if !slices.Equal(h[1].In, []int{0, 0}) || !slices.Equal(h[2].In, []int{1, 1}) {
		t.Errorf("lists of one graph share memory: %v", h)
	}
}

// TestAtOnce: calls from several goroutines, the first ones among them, answer as one does alone.
func TestAtOnce(t *testing.T) {
	for _, g := range append(some()[:40], graphs(23, 10, 32, 3)...) {
		p, want := of(t, g), of(t, g)
		done := make(chan bool)
		for k := range 8 {
			go func() {
				ok := true
				for n := range len(g) * len(g) {
					from, to := (n+k)%len(g), n/len(g)
					x := at(8, make([]int, g[from].Depth)...)
					ok = ok && slices.Equal(p.Comes(from, x, to), want.Comes(from, x, to)) && slices.Equal(p.Ways(from, to), want.Ways(from, to)) && len(p.Graph()) == len(g)
				}
				done <- ok
			}()
		}
		for range 8 {
			if !<-done {
				t.Errorf("%v: another answer than alone", g)
			}
		}
	}
}

// TestNilAndEmpty mean the same, inside graphs too.
func TestNilAndEmpty(t *testing.T) {
	for _, in := range [][]int{nil, {}, make([]int, 0, 3)} {
		p := of(t, api.Graph{{Kind: api.Input, In: in}, node(api.Output, 0, 0)})
		if l := p.Ways(0, 1); !slices.Equal(l, list(sum(0, 0, 0, 0))) || len(p.Graph()[0].In) != 0 {
			t.Errorf("%v, %v", l, p.Graph())
		}
	}
}
