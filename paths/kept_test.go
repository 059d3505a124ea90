package paths

import (
	"testing"

	"tailrace/api"
)

// TestWorkedOutOnce: a node's ways are worked out when they are asked for first, and then no more; those of others are not.
func TestWorkedOutOnce(t *testing.T) {
	g := api.Graph{{Kind: api.Input}, {Kind: api.Map, In: []int{0}}, {Kind: api.Output, In: []int{1}}}
	p, e := New(g)
	if e != api.OK {
		t.Fatal(e)
	}
	p.Graph()
	p.Ways(-1, 0)
	p.Ways(0, 3)
	for i := range p.from {
		if p.from[i].known.Load() || p.from[i].to != nil {
			t.Errorf("the ways of %d are worked out, but weren't asked for", i)
		}
	}
	for i, ask := range []func() int{func() int { return len(p.Ways(0, 2)) }, func() int { return len(p.Comes(1, api.Stamp{}, 2)) }} {
		f := &p.from[i]
		if n := ask(); n != 1 || !f.known.Load() || len(f.to) != 3 || p.from[2].known.Load() {
			t.Fatalf("%d: %d, %t, %v", i, n, f.known.Load(), f.to)
		}
		f.to[2] = nil
		if n := ask(); n != 0 || f.to[2] != nil {
			t.Errorf("the ways of %d were worked out a second time", i)
		}
	}
}
