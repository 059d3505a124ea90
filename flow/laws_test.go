package flow_test

import (
	"bytes"
	"cmp"
	"slices"
	"testing"

	"tailrace/api"
	"tailrace/flow"
)

// These tests go through what follows, and is promised (P9.6).

// all are the graphs, of up to so many nodes, whose nodes are of some unlike ones.
func all(most int) []api.Graph {
	var nodes api.Graph
	for _, n := range []api.Node{{}, {Kind: 1}, {A: 1}, {B: 1}, {B: 1 << 8}, {B: -1}, {Depth: 1}, {Kind: 1, Depth: 3}, {Kind: 255, A: 255, B: 1 << 56, Depth: 2}} {
		for _, in := range [][]int{nil, {0}, {1}, {31}, {0, 0}, {0, 1}, {1, 0}} {
			n.In = in
			nodes = append(nodes, n)
		}
	}
	made := []api.Graph{nil}
	var last []api.Graph
	for from := 0; most > 0; most-- {
		last, from = made[from:], len(made)
		for _, g := range last {
			for _, n := range nodes {
				made = append(made, append(slices.Clone(g), n))
			}
		}
	}
	return made[1:]
}

// TestPutAndGot: what is put is got as it was.
func TestPutAndGot(t *testing.T) {
	graphs := append(all(2), few()...)
	c := &chances{seed: 1}
	for n := range 2000 {
		graphs = append(graphs, c.graph(1+n%32))
	}
	for _, g := range graphs {
		b, e := flow.Put(g)
		got, is := flow.Get(b)
		if e != api.OK || is != api.OK || !flow.Same(got, g) || !sameByWords(got, g) {
			t.Fatalf("%v is put as %v, %d, and got as %v, %d", g, b, e, got, is)
		}
		again, e := flow.Put(got)
		if e != api.OK || !bytes.Equal(again, b) {
			t.Fatalf("%v is put as %v, %d, again", b, again, e)
		}
	}
}

// TestGotAndPut: what is got is put as the same bytes, whatever bytes it was got from.
func TestGotAndPut(t *testing.T) {
	c := &chances{seed: 2}
	graphs := 0
	for range 300000 {
		b := make([]byte, 13+c.next(30))
		for i := range b {
			b[i] = byte(c.next(4))
			if c.next(9) == 0 {
				b[i] = byte(c.next(256))
			}
		}
		g, e := flow.Get(b)
		if e != api.OK {
			continue
		}
		graphs++
		if back, e := flow.Put(g); e != api.OK || !bytes.Equal(back, b) {
			t.Fatalf("%v is got as %v, and put as %v, %d", b, g, back, e)
		}
	}
	if graphs < 1000 {
		t.Errorf("only %d of them were graphs", graphs)
	}
}

// TestUnlike: unlike graphs have unlike bytes, and none has those that another's begin with.
func TestUnlike(t *testing.T) {
	graphs := append(all(2), few()[3:]...)
	type has struct {
		g api.Graph
		b []byte
	}
	var put []has
	for _, g := range graphs {
		b, _ := flow.Put(g)
		put = append(put, has{g, b})
	}
	slices.SortFunc(put, func(x, y has) int { return bytes.Compare(x.b, y.b) })
	for i := 1; i < len(put); i++ { // bytes that another's begin with stand right ahead of some such
		if x, y := put[i-1], put[i]; bytes.HasPrefix(y.b, x.b) && !sameByWords(x.g, y.g) {
			t.Errorf("%v and %v are %v and %v", x.g, y.g, x.b, y.b)
		}
	}
}

// TestFedByOne: each input of a node is fed by just one node.
func TestFedByOne(t *testing.T) {
	c := &chances{seed: 6}
	for n := range 500 {
		g := c.graph(1 + n%32)
		var all []flow.Port
		for i := range 32 {
			fed := flow.To(g, i)
			for _, p := range fed {
				if g[p.Node].In[p.In] != i {
					t.Fatalf("%v is fed by %d in %v", p, i, g)
				}
			}
			all = append(all, fed...)
		}
		slices.SortFunc(all, func(x, y flow.Port) int { return cmp.Or(cmp.Compare(x.Node, y.Node), cmp.Compare(x.In, y.In)) })
		var want []flow.Port
		for node := range g {
			for in := range g[node].In {
				want = append(want, flow.Port{Node: node, In: in})
			}
		}
		if !slices.Equal(all, want) {
			t.Fatalf("%v are fed, of %v", all, g)
		}
	}
}
