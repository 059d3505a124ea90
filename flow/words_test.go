package flow_test

import (
	"bytes"
	"encoding/binary"
	"math"
	"slices"

	"tailrace/api"
	"tailrace/flow"
)

// The promises to the letter, number by number, for the other tests to hold the answers against.

// writtenByWords: may a graph be written?
func writtenByWords(g api.Graph) bool {
	if len(g) < 1 || len(g) > 32 {
		return false
	}
	for _, n := range g {
		if n.Depth < 0 || n.Depth > 3 || len(n.In) > 2 {
			return false
		}
		for _, from := range n.In {
			if from < 0 || from > 31 {
				return false
			}
		}
	}
	return true
}

// putByWords is P9.1.
func putByWords(g api.Graph) ([]byte, api.Errno) {
	if len(g) < 1 || len(g) > 32 {
		return nil, 3
	}
	if !writtenByWords(g) {
		return nil, 90
	}
	b := []byte{byte(len(g))}
	for _, n := range g {
		b = append(b, n.Kind, n.A)
		b = binary.BigEndian.AppendUint64(b, uint64(n.B))
		b = append(b, byte(n.Depth), byte(len(n.In)))
		for _, from := range n.In {
			b = append(b, byte(from))
		}
	}
	return b, 0
}

// getByWords is P9.2: the only graph that b can be the bytes of is that which stands where they are put, and b must be just its bytes.
func getByWords(b []byte) (api.Graph, api.Errno) {
	at := 1
	byteAt := func(i int) byte { // what is not there is taken for noughts: then the bytes are others in the end
		if i < len(b) {
			return b[i]
		}
		return 0
	}
	g := make(api.Graph, byteAt(0))
	for i := range g {
		long := make([]byte, 8)
		for j := range long {
			long[j] = byteAt(at + 2 + j)
		}
		g[i] = api.Node{Kind: byteAt(at), A: byteAt(at + 1), B: int64(binary.BigEndian.Uint64(long)), Depth: int(byteAt(at + 10)), In: make([]int, byteAt(at+11))}
		at += 12
		for j := range g[i].In {
			g[i].In[j] = int(byteAt(at))
			at++
		}
	}
	if back, e := putByWords(g); e != 0 || !bytes.Equal(back, b) {
		return nil, 90
	}
	return g, 0
}

// sameByWords is P9.3.
func sameByWords(a, b api.Graph) bool {
	if len(a) != len(b) {
		return false
	}
	for i, n := range a {
		m := b[i]
		if n.Kind != m.Kind || n.A != m.A || n.B != m.B || n.Depth != m.Depth || len(n.In) != len(m.In) {
			return false
		}
		for j, from := range n.In {
			if from != m.In[j] {
				return false
			}
		}
	}
	return true
}

// toByWords is P9.4.
func toByWords(g api.Graph, i int) []flow.Port {
	var fed []flow.Port
	for node := 0; node < len(g); node++ {
		for in := 0; in < len(g[node].In); in++ {
			if g[node].In[in] == i {
				fed = append(fed, flow.Port{Node: node, In: in})
			}
		}
	}
	return fed
}

// copyOf is the same graph in other memory.
func copyOf(g api.Graph) api.Graph {
	made := slices.Clone(g)
	for i, n := range made {
		made[i].In = slices.Clone(n.In)
	}
	return made
}

// chances are numbers that stand in no order, the same ones in each run.
type chances struct{ seed uint64 }

func (c *chances) next(n int) int {
	c.seed = c.seed*6364136223846793005 + 1442695040888963407
	return int(c.seed >> 33 % uint64(n))
}

// bs are numbers of 64 bits: those at the bounds, and those whose bytes are all others.
var bs = []int64{0, 1, -1, 2, 255, 256, -256, 1<<31 - 1, 1 << 31, 1 << 32, 0x0102030405060708, -0x0102030405060708, math.MaxInt64, math.MinInt64, math.MinInt64 + 1}

// graph is one that may be written, of so many nodes.
func (c *chances) graph(nodes int) api.Graph {
	g := make(api.Graph, nodes)
	for i := range g {
		g[i] = api.Node{Kind: uint8(c.next(256)), A: uint8(c.next(256)), B: bs[c.next(len(bs))], Depth: c.next(4)}
		for range c.next(3) {
			g[i].In = append(g[i].In, c.next(32))
		}
	}
	return g
}

// few are graphs of some sizes that may be written.
func few() []api.Graph {
	c := &chances{seed: 9}
	made := []api.Graph{{{}}, {{Kind: 1}}, {{Kind: 1}, {Kind: 2, A: 3, B: -1, In: []int{0}}}, {{Depth: 3, In: []int{31, 31}}}, make(api.Graph, 32)}
	for _, n := range []int{1, 1, 1, 2, 2, 2, 3, 4, 7, 16, 31, 32, 32} {
		made = append(made, c.graph(n))
	}
	return made
}

// wrongNodes are such that no graph that may be written has one of them.
func wrongNodes() []api.Node {
	var made []api.Node
	for _, depth := range []int{-1, 4, 5, -128, -256, 128, 255, 256, 257, 259, 1 << 32, 1<<32 + 1, -1 << 32, math.MaxInt, math.MinInt, math.MinInt + 3} {
		made = append(made, api.Node{Depth: depth}, api.Node{Kind: 2, Depth: depth, In: []int{0}}, api.Node{Kind: 4, Depth: depth, In: []int{0, 31}})
	}
	for _, from := range []int{-1, 32, 33, -31, -128, -255, -256, 127, 255, 256, 287, 1 << 32, -1 << 32, math.MaxInt, math.MinInt} {
		made = append(made, api.Node{In: []int{from}}, api.Node{In: []int{from, 0}}, api.Node{In: []int{0, from}}, api.Node{Kind: 4, Depth: 3, In: []int{from, from}})
	}
	for _, n := range []int{3, 4, 32, 255, 256, 257, 258, 1 << 16} {
		made = append(made, api.Node{In: make([]int, n)}, api.Node{Kind: 5, A: 1, B: 1, Depth: 2, In: make([]int, n)})
	}
	return made
}
