package denote_test

import (
	"slices"
	"sync"
	"testing"

	"tailrace/api"
	"tailrace/check"
	"tailrace/denote"
	"tailrace/opers"
)

// These tests go through what follows, and is promised (P14.4), and through what is handed in and answered (P14.3).

// trial is a graph, what was fed to it, an epoch, and the words' values at that.
type trial struct {
	g     api.Graph
	fed   []denote.Fed
	epoch int
	want  table
}

// trials are so many of them, of graphs with Reduce and Join or without, whose rows don't get too long.
func (c *chances) trials(many int, waiting bool) []trial {
	var all []trial
	for len(all) < many {
		x := trial{g: c.graph(6+c.next(26), waiting), epoch: []int{0, 5, 999}[c.next(3)]}
		x.fed = c.feeds(x.g, 3+c.next(8), 0, 5, 999)
		var ok bool
		if x.want, ok = settled(x.g, x.fed, x.epoch); ok {
			all = append(all, x)
		}
	}
	return all
}

// same holds g's values against those of x, whose graph it is but for nodes behind, by other feeds.
func (c *chances) same(t *testing.T, x trial, g api.Graph, fed []denote.Fed) {
	t.Helper()
	for _, w := range c.asked(x.g, x.want, x.epoch)[:20] {
		if got := valued(t, g, fed, w.node, w.at); !slices.Equal(got, x.want[w]) {
			t.Fatalf("%v by %v: %d at %v is %v; %v by %v: %v", g, fed, w.node, w.at, got, x.g, x.fed, x.want[w])
		}
	}
	if got, want := outOf(t, g, fed, x.epoch), outByWords(x.g, x.want, x.epoch); !alike(got[:min(len(got), len(want))], want) {
		t.Fatalf("%v by %v: %v, %v by %v: %v", g, fed, got, x.g, x.fed, want)
	}
}

// TestOwnEpoch: a value hangs on what was fed in its time's Epoch alone.
func TestOwnEpoch(t *testing.T) {
	c := &chances{seed: 30}
	for _, x := range c.trials(150, true) {
		own := slices.DeleteFunc(slices.Clone(x.fed), func(f denote.Fed) bool { return f.Epoch != x.epoch })
		c.same(t, x, x.g, own)
		others := slices.DeleteFunc(c.feeds(x.g, 12, 0, 1, 4, 5, 6, 255, 998, 999), func(f denote.Fed) bool { return f.Epoch == x.epoch })
		c.same(t, x, x.g, mixed(c, slices.Concat(own, others)))
	}
}

// TestAnyCut: a value hangs neither on the order of what was fed nor on how it is cut into rows.
func TestAnyCut(t *testing.T) {
	c := &chances{seed: 31}
	for _, x := range c.trials(150, true) {
		turned := mixed(c, x.fed)
		for i, f := range turned {
			turned[i].List = mixed(c, f.List)
		}
		c.same(t, x, x.g, turned)
		var single []denote.Fed // each record a row, and empty rows between
		for _, f := range x.fed {
			for _, r := range f.List {
				single = append(single, denote.Fed{Node: f.Node, Epoch: f.Epoch, List: []api.Record{r}}, denote.Fed{Node: f.Node, Epoch: f.Epoch})
			}
		}
		c.same(t, x, x.g, mixed(c, single))
		var whole []denote.Fed // all of an Input and an epoch one row
		for i, n := range x.g {
			for _, epoch := range []int{0, 5, 999} {
				f := denote.Fed{Node: i, Epoch: epoch}
				for _, y := range x.fed {
					if y.Node == i && y.Epoch == epoch {
						f.List = append(f.List, y.List...)
					}
				}
				if n.Kind == api.Input {
					whole = append(whole, f)
				}
			}
		}
		c.same(t, x, x.g, whole)
	}
}

// TestTogether: of a graph without Reduce and Join what is made of two rows is what is made of each, together.
func TestTogether(t *testing.T) {
	c := &chances{seed: 32}
	for _, x := range c.trials(150, false) {
		for _, n := range x.g {
			if opers.Waits(n.Kind) {
				t.Fatalf("a node that waits: %v", x.g)
			}
		}
		more := c.feeds(x.g, 8, 0, 5, 999)
		both := slices.Concat(x.fed, more)
		for _, w := range c.asked(x.g, x.want, x.epoch)[:20] {
			one, other := valued(t, x.g, x.fed, w.node, w.at), valued(t, x.g, more, w.node, w.at)
			if got := valued(t, x.g, both, w.node, w.at); !slices.Equal(got, together(one, other)) {
				t.Fatalf("%v: %d at %v makes %v of %v and %v together, %v and %v of each", x.g, w.node, w.at, got, x.fed, more, one, other)
			}
		}
		one, other := outOf(t, x.g, x.fed, x.epoch), outOf(t, x.g, more, x.epoch)
		for i := range one {
			one[i].List = together(one[i].List, other[i].List)
		}
		if got := outOf(t, x.g, both, x.epoch); !alike(got, one) {
			t.Fatalf("%v makes %v of %v and %v together, %v of each", x.g, got, x.fed, more, one)
		}
	}
}

// TestNodeMore: with a node more that feeds none all values stay.
func TestNodeMore(t *testing.T) {
	c := &chances{seed: 33}
	tried := map[uint8]int{}
	for _, x := range c.trials(200, true) {
		for range 4 {
			n := c.fedBy(x.g, c.next(len(x.g)), true)
			if c.next(6) == 0 {
				n = node(api.Input, 0)
			}
			g := append(slices.Clone(x.g), n)
			if _, e := check.Check(g); e != api.OK {
				continue
			}
			tried[n.Kind]++
			l := x.fed
			if n.Kind == api.Input {
				l = append(slices.Clone(l), denote.Fed{Node: len(x.g), Epoch: x.epoch, List: list(1, 1, 2, 2)})
			}
			c.same(t, x, g, l)
		}
	}
	for kind := api.Input; kind <= api.Output; kind++ {
		if tried[kind] < 10 {
			t.Errorf("only %d nodes more of kind %d", tried[kind], kind)
		}
	}
}

// TestMoved: it counts for nothing at which places nodes stand, but that Outputs are told rising.
func TestMoved(t *testing.T) {
	c := &chances{seed: 34}
	for _, x := range c.trials(100, true) {
		to := mixed(c, places(len(x.g)))
		g, l := moved(x.g, to), slices.Clone(x.fed)
		for i := range l {
			l[i].Node = to[l[i].Node]
		}
		for _, w := range c.asked(x.g, x.want, x.epoch)[:20] {
			if got := valued(t, g, l, to[w.node], w.at); !slices.Equal(got, x.want[w]) {
				t.Fatalf("%v by %v: %d at %v is %v; %d of %v: %v", g, l, to[w.node], w.at, got, w.node, x.g, x.want[w])
			}
		}
		o := outOf(t, g, l, x.epoch)
		if !slices.IsSortedFunc(o, func(a, b denote.Fed) int { return a.Node - b.Node }) {
			t.Errorf("Out of %v: %v", g, o)
		}
	}
}

// full is a graph that has all kinds, and loops, and two Outputs of one node.
func full() (api.Graph, []denote.Fed) {
	g := append(nest(2, 3), node(api.Input, 0), node(api.Join, 0, 0, 12), node(api.Output, 0, 10), with(node(api.Filter, 0, 10), 0, 50), node(api.Output, 0, 0), node(api.Output, 0, 13), node(api.Output, 0, 0))
	return g, some(fed(0, 3, 2, 7, 1, 9, 2, 7), fed(12, 3, 2, 1), fed(0, 3, 1, 4), fed(0, 4, 9, 9))
}

// TestOnlyRead: what is handed in stays as it is, what lies behind its length too.
func TestOnlyRead(t *testing.T) {
	g, _ := full()
	ins := []int{7, 8, 9, 10}
	for i, n := range g {
		g[i].In = append(append(make([]int, 0, 8), n.In...), ins...)[:len(n.In)]
	}
	records := list(2, 7, 1, 9, 2, 7, 1, 4, 0, 0, 9, 9)
	wasGraph, wasRecords := slices.Clone(g), slices.Clone(records)
	l := some(denote.Fed{Node: 0, Epoch: 3, List: records[:3]}, denote.Fed{Node: 12, Epoch: 3, List: records[1:1]}, denote.Fed{Node: 0, Epoch: 3, List: records[2:4]}, fed(77, 77, 1, 1))
	wasFed := slices.Clone(l)
	call := func() {
		for i, n := range g {
			for _, x := range []api.Stamp{at(3, make([]int, n.Depth)...), at(3, 1), at(3, 1, 1), at(3, 16)} {
				denote.Value(g, l[:3], i, x)
				denote.Value(g, l, i, x)
			}
		}
		denote.Out(g, l[:3], 3)
		denote.Out(g, l, 3)
		denote.Out(g[:12], l[:3], 3)
	}
	call()
	for i, n := range g {
		was := wasGraph[i]
		if n.Kind != was.Kind || n.A != was.A || n.B != was.B || n.Depth != was.Depth || len(n.In) != len(was.In) || !slices.Equal(n.In[len(n.In):len(n.In)+4], ins) || !slices.Equal(n.In, nodesOf(i)) {
			t.Errorf("node %d was %v, is %v", i, was, n)
		}
	}
	for i, f := range l {
		was := wasFed[i]
		if f.Node != was.Node || f.Epoch != was.Epoch || len(f.List) != len(was.List) || cap(f.List) != cap(was.List) || len(f.List) > 0 && &f.List[0] != &was.List[0] {
			t.Errorf("%d was %v, is %v", i, was, f)
		}
	}
	if !slices.Equal(records, wasRecords) {
		t.Errorf("records: %v", records)
	}
}

// nodesOf are the nodes that feed node i of the full graph.
func nodesOf(i int) []int {
	g, _ := full()
	return g[i].In
}

// spoil changes all there is of l, behind its length too.
func spoil(l []api.Record) {
	l = l[:cap(l)]
	for i := range l {
		l[i] = api.Record{Key: -77, Val: -77}
	}
}

// TestNewMemory: what is answered hangs together neither with what was handed in, nor with another answer, nor within itself.
func TestNewMemory(t *testing.T) {
	g, l := full()
	want, _ := settled(g, l, 3)
	for w, row := range want {
		one, other := valued(t, g, l, w.node, w.at), valued(t, g, l, w.node, w.at)
		spoil(one)
		if !slices.Equal(other, row) || !slices.Equal(valued(t, g, l, w.node, w.at), row) {
			t.Errorf("%d at %v: an answer was spoilt with another one", w.node, w.at)
		}
	}
	outs := outByWords(g, want, 3)
	one, other := outOf(t, g, l, 3), outOf(t, g, l, 3)
	for i := range one {
		spoil(one[i].List)
		if !alike(one[i+1:], outs[i+1:]) {
			t.Errorf("the value of %d was spoilt with that of another one", one[i].Node)
		}
		one[i] = denote.Fed{}
	}
	if again := outOf(t, g, l, 3); !alike(other, outs) || !alike(again, outs) {
		t.Errorf("spoilt with another answer: %v, %v, want %v", other, again, outs)
	}
	alone := some(fed(0, 3, 1, 2)) // a single row, sorted, is not handed out as it is
	for i, n := range g[:3] {
		spoil(valued(t, g, alone, i, at(3, make([]int, n.Depth)...)))
	}
	for _, f := range outOf(t, g, alone, 3) {
		spoil(f.List)
	}
	if _, was := full(); !alike(l, was) || !alike(alone, some(fed(0, 3, 1, 2))) {
		t.Errorf("what was handed in was spoilt: %v, %v", l, alone)
	}
	for _, f := range l {
		spoil(f.List)
	}
	if !alike(other, outs) {
		t.Errorf("an answer was spoilt with what was handed in: %v", other)
	}
}

// TestNothingThere: nil and empty lists are the same, wherever they stand.
func TestNothingThere(t *testing.T) {
	g, _ := full()
	for _, l := range [][]denote.Fed{nil, {}, some(fed(0, 3)), some(denote.Fed{Node: 0, Epoch: 3, List: []api.Record{}}, denote.Fed{Node: 12, Epoch: 3, List: list(2, 1)[:0]})} {
		for i, n := range g {
			if got := valued(t, g, l, i, at(3, make([]int, n.Depth)...)); len(got) != 0 {
				t.Errorf("%d by %v: %v", i, l, got)
			}
		}
		if o := outOf(t, g, l, 3); !alike(o, some(fed(11, 3), fed(14, 3), fed(16, 3), fed(17, 3), fed(18, 3))) {
			t.Errorf("Out by %v: %v", l, o)
		}
	}
	for _, g := range []api.Graph{nil, {}} {
		if l, e := denote.Value(g, nil, 0, at(0)); l != nil || e != api.ErrLimit {
			t.Errorf("Value of no graph: %v, %d", l, e)
		}
	}
	empty := api.Graph{{Kind: api.Input, In: []int{}}, node(api.Output, 0, 0)}
	if o := outOf(t, empty, some(fed(0, 0, 1, 1)), 0); !alike(o, some(fed(1, 0, 1, 1))) {
		t.Errorf("an Input with an empty list of inputs: %v", o)
	}
}

// TestAtOnce: calls at the same time of the same graph answer as one by one.
func TestAtOnce(t *testing.T) {
	g, l := full()
	want, _ := settled(g, l, 3)
	outs := outByWords(g, want, 3)
	var w sync.WaitGroup
	for range 8 {
		w.Go(func() {
			for p, row := range want {
				if got, e := denote.Value(g, l, p.node, p.at); !slices.Equal(got, row) || e != api.OK {
					t.Errorf("%d at %v: another answer", p.node, p.at)
				}
			}
			if o, e := denote.Out(g, l, 3); !alike(o, outs) || e != api.OK {
				t.Errorf("Out: another answer")
			}
		})
	}
	w.Wait()
}

// TestAnyGraph: graphs made by hand of anything come to an answer, and to check.Check's error if they may not be run.
func TestAnyGraph(t *testing.T) {
	c := &chances{seed: 35}
	runs := 0
	for range 20000 {
		g := make(api.Graph, c.next(6))
		for i := range g {
			g[i] = api.Node{Kind: uint8(c.next(12)), Depth: c.next(2) * c.next(3), In: make([]int, c.next(3))}
			if i == 0 || c.next(8) == 0 {
				g[i] = node(api.Input, 0)
			}
			if c.next(4) == 0 {
				g[i].A, g[i].B = uint8(c.next(4)), int64(c.next(18))
			}
			for j := range g[i].In {
				g[i].In[j] = c.next(len(g)+1) - c.next(2)
			}
		}
		_, want := check.Check(g)
		if _, e := denote.Out(g, nil, 3); e != want {
			t.Fatalf("Out of %v: %d, want %d", g, e, want)
		}
		if want == api.OK {
			runs++
			want = api.ErrArg // no node stands behind the last one
		}
		if l, e := denote.Value(g, some(fed(0, 3, 1, 1)), len(g), at(3)); e != want || l != nil {
			t.Fatalf("Value of %v: %v, %d, want %d", g, l, e, want)
		}
	}
	if runs < 100 {
		t.Errorf("only %d graphs that may be run", runs)
	}
}
