package flow_test

import (
	"bytes"
	"math"
	"slices"
	"testing"

	"tailrace/api"
	"tailrace/flow"
)

// TestExamples are the chapter's.
func TestExamples(t *testing.T) {
	first := api.Node{Kind: 1}
	second := api.Node{Kind: 2, A: 3, B: -1, In: []int{0}}
	alone := []byte{1, 1, 0, 0, 0, 0, 0, 0, 0, 0, 0, 0, 0}
	both := []byte{2, 1, 0, 0, 0, 0, 0, 0, 0, 0, 0, 0, 0, 2, 3, 255, 255, 255, 255, 255, 255, 255, 255, 0, 1, 0}
	for i, x := range []struct {
		g api.Graph
		b []byte
	}{{api.Graph{first}, alone}, {api.Graph{first, second}, both}} {
		if b, e := flow.Put(x.g); !bytes.Equal(b, x.b) || e != api.OK {
			t.Errorf("%d: put as %v, %d", i, b, e)
		}
		if g, e := flow.Get(x.b); !sameByWords(g, x.g) || e != api.OK {
			t.Errorf("%d: got as %v, %d", i, g, e)
		}
	}
	if fed := flow.To(api.Graph{first, second}, 0); !slices.Equal(fed, []flow.Port{{Node: 1, In: 0}}) {
		t.Errorf("node 0 feeds %v", fed)
	}
}

// put holds Put of a graph against its words.
func put(t *testing.T, g api.Graph) {
	t.Helper()
	want, is := putByWords(g)
	if b, e := flow.Put(g); !bytes.Equal(b, want) || e != is || (e != api.OK && b != nil) {
		t.Fatalf("Put of %d nodes (%.3v) is %v, %d, want %v, %d", len(g), g, b, e, want, is)
	}
}

// TestPutNumbers: each number of a node stands in its own place, whatever it is.
func TestPutNumbers(t *testing.T) {
	for n := range 256 {
		put(t, api.Graph{{Kind: uint8(n)}})
		put(t, api.Graph{{A: uint8(n)}})
		put(t, api.Graph{{Kind: uint8(n), A: uint8(255 - n), Depth: n % 4}})
		for at := range 8 {
			put(t, api.Graph{{B: int64(n) << (8 * at)}, {B: ^(int64(n) << (8 * at))}})
		}
	}
	for _, n := range bs {
		put(t, api.Graph{{Kind: 7, A: 9, B: n, Depth: 1, In: []int{5}}, {B: -n}})
	}
	for depth := range 4 {
		for a := range 32 {
			put(t, api.Graph{{Depth: depth}, {Depth: depth, In: []int{a}}, {Depth: 3 - depth}})
			for b := range 32 {
				put(t, api.Graph{{Depth: depth, In: []int{a, b}}})
			}
		}
	}
	for _, g := range few() {
		put(t, g)
	}
}

// TestPutHowMany: what has no nodes, or more than 32, is past the limit, be its nodes right or not.
func TestPutHowMany(t *testing.T) {
	for _, n := range []int{0, 1, 2, 31, 32, 33, 34, 64, 255, 256, 257, 288, 1 << 16, 1<<16 + 1} {
		put(t, make(api.Graph, n))
		for _, x := range wrongNodes() {
			put(t, slices.Repeat(api.Graph{x}, n))
		}
	}
	put(t, nil)
	if b, e := flow.Put(make(api.Graph, 33)); b != nil || e != 3 {
		t.Errorf("33 nodes: %v, %d", b, e)
	}
	if b, e := flow.Put(slices.Repeat(api.Graph{{Depth: 4}}, 33)); b != nil || e != 3 {
		t.Errorf("33 wrong nodes: %v, %d", b, e)
	}
	if b, e := flow.Put(make(api.Graph, 32)); len(b) != 1+32*12 || e != 0 {
		t.Errorf("32 nodes: %v, %d", b, e)
	}
}

// TestPutWrongNodes: one node that may not be written is enough, wherever it stands.
func TestPutWrongNodes(t *testing.T) {
	for i, x := range wrongNodes() {
		if b, e := flow.Put(api.Graph{x}); b != nil || e != 90 {
			t.Errorf("%d: %v, %d", i, b, e)
		}
		for _, g := range few() {
			for at := range g {
				changed := slices.Clone(g)
				changed[at] = x
				put(t, changed)
				if b, e := flow.Put(changed); b != nil || e != 90 {
					t.Fatalf("%d, at %d: %v, %d", i, at, b, e)
				}
			}
		}
	}
}

// get holds Get of bytes against its words.
func get(t *testing.T, b []byte) {
	t.Helper()
	want, is := getByWords(b)
	if g, e := flow.Get(b); !sameByWords(g, want) || e != is || (e != api.OK && g != nil) {
		t.Fatalf("Get(%v) is %v, %d, want %v, %d", b, g, e, want, is)
	}
}

// TestGetChanged: bytes of graphs, each byte changed to each other one, left out, put in, and swapped with the next one.
func TestGetChanged(t *testing.T) {
	for _, g := range few() {
		b, _ := putByWords(g)
		get(t, b)
		for i := range b {
			changed := bytes.Clone(b)
			for c := range 256 {
				changed[i] = byte(c)
				get(t, changed)
			}
			get(t, slices.Delete(bytes.Clone(b), i, i+1))
			get(t, slices.Insert(bytes.Clone(b), i, b[i]))
			changed[i] = b[(i+1)%len(b)]
			changed[(i+1)%len(b)] = b[i]
			get(t, changed)
		}
	}
}

// TestGetCutOff: no beginning of a graph's bytes is a graph, nor are they with more behind them.
func TestGetCutOff(t *testing.T) {
	for _, g := range few() {
		b, _ := putByWords(g)
		for i := range b {
			if g, e := flow.Get(b[:i]); g != nil || e != 90 {
				t.Fatalf("%d of %v: %v, %d", i, b, g, e)
			}
			get(t, b[i+1:])
		}
		for _, more := range [][]byte{{0}, {1}, {255}, make([]byte, 12), b, make([]byte, 1000)} {
			if g, e := flow.Get(slices.Concat(b, more)); g != nil || e != 90 {
				t.Fatalf("%v behind %v: %v, %d", more, b, g, e)
			}
		}
	}
}

// TestGetShort goes through all bytes of up to two, and those of one node whose numbers at the bounds, and one past them, go together.
func TestGetShort(t *testing.T) {
	get(t, nil)
	get(t, []byte{})
	for m := range 256 {
		get(t, []byte{byte(m)})
		for n := range 256 {
			get(t, []byte{byte(m), byte(n)})
		}
	}
	for nodes := range byte(3) {
		for depth := range byte(6) {
			for inputs := range byte(5) {
				for left := range 5 {
					for _, from := range []byte{0, 31, 32, 255} {
						b := append([]byte{nodes, 9, 9, 9, 9, 9, 9, 9, 9, 9, 9, depth, inputs}, bytes.Repeat([]byte{from}, left)...)
						get(t, b)
						_, e := flow.Get(b)
						if ok := nodes == 1 && depth < 4 && inputs < 3 && int(inputs) == left && (from < 32 || left == 0); (e == api.OK) != ok {
							t.Fatalf("Get(%v): %d", b, e)
						}
					}
				}
			}
		}
	}
}

// TestGetHowMany: bytes of as many nodes as they tell are a graph's only from 1 to 32 of them.
func TestGetHowMany(t *testing.T) {
	for n := range 256 {
		b := append([]byte{byte(n)}, make([]byte, 12*n)...)
		get(t, b)
		want := api.OK
		if n < 1 || n > 32 {
			want = api.ErrFlow
		}
		if g, e := flow.Get(b); e != want || e == api.OK && len(g) != n {
			t.Errorf("%d nodes: %v, %d", n, g, e)
		}
		get(t, append(b, 0))
		get(t, b[:len(b)-1])
	}
	get(t, make([]byte, 1<<20))
	get(t, bytes.Repeat([]byte{255}, 1<<20))
	get(t, bytes.Repeat([]byte{1}, 1<<20))
}

// TestGetAnyBytes goes through bytes that stand in no order, of few numbers so that some are graphs.
func TestGetAnyBytes(t *testing.T) {
	c := &chances{seed: 4}
	graphs := 0
	for range 200000 {
		b := make([]byte, 1+12*(1+c.next(2))+c.next(4))
		for i := range b {
			b[i] = []byte{0, 1, 1, 2, 3, 31, 4, 255}[c.next(8)]
		}
		get(t, b)
		if _, e := flow.Get(b); e == api.OK {
			graphs++
		}
	}
	if graphs < 1000 {
		t.Errorf("only %d of them were graphs", graphs)
	}
}

// others are graphs that are each unlike g in just one thing.
func others(g api.Graph) []api.Graph {
	made := []api.Graph{g[:len(g)-1], append(copyOf(g), api.Node{}), append(api.Graph{{}}, g...), append(copyOf(g), g...)}
	change := func(at int, how func(n *api.Node)) {
		other := copyOf(g)
		how(&other[at])
		made = append(made, other)
	}
	for at, n := range g {
		change(at, func(n *api.Node) { n.Kind++ })
		change(at, func(n *api.Node) { n.Kind ^= 128 })
		change(at, func(n *api.Node) { n.A++ })
		change(at, func(n *api.Node) { n.A ^= 128 })
		change(at, func(n *api.Node) { n.B++ })
		change(at, func(n *api.Node) { n.B ^= math.MinInt64 })
		change(at, func(n *api.Node) { n.B ^= 1 << 32 })
		change(at, func(n *api.Node) { n.Depth++ })
		change(at, func(n *api.Node) { n.Depth -= 256 })
		change(at, func(n *api.Node) { n.Depth ^= 1 << 32 })
		change(at, func(n *api.Node) { n.In = append(n.In, 0) })
		change(at, func(n *api.Node) { n.In = append([]int{0}, n.In...) })
		for i := range n.In {
			change(at, func(n *api.Node) { n.In[i]++ })
			change(at, func(n *api.Node) { n.In[i] += 256 })
			change(at, func(n *api.Node) { n.In[i] ^= 1 << 32 })
			change(at, func(n *api.Node) { n.In = n.In[:i] })
			change(at, func(n *api.Node) { n.In = n.In[i+1:] })
		}
	}
	return made
}

// TestSame: of graphs that may be written, and of others.
func TestSame(t *testing.T) {
	c := &chances{seed: 3}
	graphs := append(few(), c.graph(33), c.graph(100), api.Graph{{In: []int{1, 2, 3, 4}}, {Depth: -1, In: []int{-1, 32}}})
	for _, n := range wrongNodes() {
		graphs = append(graphs, api.Graph{n}, api.Graph{{Kind: 1}, n})
	}
	for i, g := range graphs {
		if !flow.Same(g, g) || !flow.Same(g, copyOf(g)) {
			t.Errorf("%d: not the same as itself", i)
		}
		if slices.ContainsFunc(g, func(n api.Node) bool { return len(n.In) > 300 }) { // too many others
			continue
		}
		for j, other := range others(g) {
			if flow.Same(g, other) || flow.Same(other, g) {
				t.Errorf("%d: the same as the other one %d", i, j)
			}
		}
	}
	for i, a := range graphs {
		for j, b := range graphs {
			if got := flow.Same(a, b); got != sameByWords(a, b) {
				t.Errorf("Same of %d and %d is %t", i, j, got)
			}
		}
	}
}

// TestNilAndEmpty mean the same, inside graphs too.
func TestNilAndEmpty(t *testing.T) {
	if !flow.Same(nil, nil) || !flow.Same(nil, api.Graph{}) || !flow.Same(api.Graph{}, nil) || flow.Same(nil, api.Graph{{}}) || flow.Same(api.Graph{{}}, nil) {
		t.Error("no nodes are not the same as none")
	}
	with, without := api.Graph{{In: []int{}}, {Kind: 1}}, api.Graph{{}, {Kind: 1, In: []int{}}}
	if !flow.Same(with, without) || !flow.Same(without, with) {
		t.Error("no inputs are not the same as none")
	}
	a, is := flow.Put(with)
	b, e := flow.Put(without)
	if !bytes.Equal(a, b) || is != api.OK || e != api.OK {
		t.Errorf("put as %v, %d, and %v, %d", a, is, b, e)
	}
	put(t, api.Graph{})
	if fed := append(flow.To(nil, 0), flow.To(with, 0)...); len(fed) != 0 {
		t.Errorf("none feeds %v", fed)
	}
}

// TestTo: whether there is a node i, and whether the graph may be written, is all the same.
func TestTo(t *testing.T) {
	c := &chances{seed: 5}
	many := c.graph(300)
	for i := range many {
		many[i].In = []int{i - 3, 299 - i, i, -i, math.MinInt, i % 40, math.MaxInt}
	}
	graphs := append(few(), many, nil, api.Graph{{In: []int{0, 0}}}, api.Graph{{In: []int{7, 7, 8, 7}}, {}, {In: []int{8, 7}}})
	for _, n := range wrongNodes() {
		graphs = append(graphs, api.Graph{n, n})
	}
	asked := []int{math.MinInt, math.MinInt + 1, -1 << 32, -256, -1, 299, 300, 1 << 32, 1<<32 + 1, math.MaxInt - 1, math.MaxInt}
	for i := range 260 {
		asked = append(asked, i)
	}
	for j, g := range graphs {
		for _, i := range asked {
			if got, want := flow.To(g, i), toByWords(g, i); !slices.Equal(got, want) {
				t.Fatalf("To of %d, %d is %v, want %v", j, i, got, want)
			}
		}
	}
	for i, x := range []struct {
		g    api.Graph
		node int
		want []flow.Port
	}{
		{api.Graph{{In: []int{1, 1}}, {In: []int{0}}, {In: []int{0, 1}}}, 1, []flow.Port{{0, 0}, {0, 1}, {2, 1}}},
		{api.Graph{{In: []int{1, 1}}, {In: []int{0}}, {In: []int{0, 1}}}, 0, []flow.Port{{1, 0}, {2, 0}}},
		{api.Graph{{In: []int{1, 1}}, {In: []int{0}}, {In: []int{0, 1}}}, 2, nil},
		{api.Graph{{In: []int{9}}}, 9, []flow.Port{{0, 0}}}, // there is no node 9
		{api.Graph{{}, {In: []int{0, -1}}}, -1, []flow.Port{{1, 1}}},
		{api.Graph{{In: []int{0}}}, 0, []flow.Port{{0, 0}}}, // it feeds itself
	} {
		if got := flow.To(x.g, x.node); !slices.Equal(got, x.want) {
			t.Errorf("%d: %d feeds %v", i, x.node, got)
		}
	}
}

// TestOnlyRead: what is handed in stays as it is, behind lists' lengths too.
func TestOnlyRead(t *testing.T) {
	for i, g := range append(few(), api.Graph{{Depth: 4, In: []int{1}}}, api.Graph{{In: []int{1, 2, 3}}}) {
		room := append(copyOf(g), api.Node{Kind: 77}, api.Node{Kind: 78})
		for j := range room {
			room[j].In = append(room[j].In, 101, 102, 103)[:len(room[j].In)]
		}
		whole := func() api.Graph { // with what stands behind its lists
			all := slices.Clone(room[:cap(room)])
			for j, n := range all {
				all[j].In = slices.Clone(n.In[:cap(n.In)])
			}
			return all
		}
		was := whole()
		handed := room[:len(g)]
		b, _ := flow.Put(handed)
		flow.Same(handed, g)
		flow.To(handed, 1)
		if now := whole(); !sameByWords(now, was) {
			t.Errorf("%d: %v is %v now", i, was, now)
		}
		memory := append(bytes.Clone(b), 1, 2, 3)
		kept := bytes.Clone(memory)
		for end := range memory {
			flow.Get(memory[:end])
		}
		if !bytes.Equal(memory, kept) {
			t.Errorf("%d: bytes %v are %v now", i, kept, memory)
		}
	}
}

// TestNewMemory: who spoils an answer spoils nothing else, neither what was handed in, nor other answers, nor the same one's other lists.
func TestNewMemory(t *testing.T) {
	for i, g := range few() {
		was := copyOf(g)
		b, _ := flow.Put(g)
		again, _ := flow.Put(g)
		kept := bytes.Clone(b)
		for j := range b[:cap(b)] {
			b[:cap(b)][j] ^= 255
		}
		if !bytes.Equal(again, kept) {
			t.Errorf("%d: answers of Put share memory", i)
		}
		got, _ := flow.Get(again)
		other, _ := flow.Get(again)
		for j := range got {
			spoilInputs(got, j)
			for k, n := range got {
				if k > j && !slices.Equal(n.In, was[k].In) {
					t.Errorf("%d: inputs of %d and %d share memory", i, j, k)
				}
			}
		}
		for j := range got[:cap(got)] {
			got[:cap(got)][j] = api.Node{Kind: 99}
		}
		fed, more := flow.To(g, 31), flow.To(g, 31)
		for j := range fed[:cap(fed)] {
			fed[:cap(fed)][j] = flow.Port{Node: 99, In: 99}
		}
		if !sameByWords(other, was) || !sameByWords(g, was) || !bytes.Equal(again, kept) || !slices.Equal(more, toByWords(was, 31)) {
			t.Errorf("%d: who spoils an answer spoils others", i)
		}
		for j := range again {
			again[j] = 200
		}
		if !sameByWords(other, was) {
			t.Errorf("%d: a graph that was got hangs on the bytes", i)
		}
	}
}

// spoilInputs writes over all that node i's list of inputs reaches.
func spoilInputs(g api.Graph, i int) {
	all := g[i].In[:cap(g[i].In)]
	for j := range all {
		all[j] = 55
	}
}
