package paths_test

import (
	"slices"

	"tailrace/api"
	"tailrace/check"
	"tailrace/summary"
)

// The promises to the letter, for the other tests to hold the answers against, and graphs to hold them at.

// step is how far a way has gone: to an input of a node, and what it has made of times till there.
type step struct {
	to   int
	made summary.Sum
}

// allWays are the summaries of all ways from a node, by the nodes to which they lead. None is left out because another one is ahead of it.
func allWays(g api.Graph, from int) [][]summary.Sum {
	to := make([][]summary.Sum, len(g))
	seen := map[step]bool{}
	var list []step
	on := func(through int, made summary.Sum) {
		for i, n := range g {
			if s := (step{i, made}); slices.Contains(n.In, through) && !seen[s] {
				seen[s] = true
				list = append(list, s)
				to[i] = append(to[i], made)
			}
		}
	}
	depth := g[from].Depth
	on(from, summary.Sum{From: depth, To: depth, Keep: depth})
	for len(list) > 0 {
		s := list[0]
		list = list[1:]
		its, ok := summary.Of(g[s.to].Kind, g[s.to].Depth)
		if !ok {
			panic("a node that is right has no summary")
		}
		if made, ok := summary.Then(s.made, its); ok {
			on(s.to, made)
		}
	}
	return to
}

// comesByWords is P11.3, of the summaries of all ways.
func comesByWords(all []summary.Sum, t api.Stamp) []api.Stamp {
	var times, first []api.Stamp
	seen := map[api.Stamp]bool{}
	for _, s := range all {
		if x, ok := summary.Apply(s, t); ok && !seen[x] {
			seen[x] = true
			times = append(times, x)
		}
	}
	for _, x := range times {
		if !slices.ContainsFunc(times, func(y api.Stamp) bool { return y != x && aheadByWords(y, x) }) {
			first = append(first, x)
		}
	}
	slices.SortFunc(first, func(a, b api.Stamp) int {
		return slices.Compare([]int{a.Epoch, a.Loops[0], a.Loops[1], a.Loops[2]}, []int{b.Epoch, b.Loops[0], b.Loops[1], b.Loops[2]})
	})
	return first
}

// aheadByWords: is a, which has the depth of b, at or ahead of b?
func aheadByWords(a, b api.Stamp) bool {
	return a.Epoch <= b.Epoch && a.Loops[0] <= b.Loops[0] && a.Loops[1] <= b.Loops[1] && a.Loops[2] <= b.Loops[2]
}

// at is a time as the chapters' examples write it: its epoch, and its counters.
func at(epoch int, loops ...int) api.Stamp {
	t := api.Stamp{Depth: len(loops), Epoch: epoch}
	copy(t.Loops[:], loops)
	return t
}

// sum is a summary, its Tail as long as it is told.
func sum(from, to, keep, add int, tail ...int) summary.Sum {
	s := summary.Sum{From: from, To: to, Keep: keep, Add: add}
	copy(s.Tail[:], tail)
	return s
}

// list are summaries, or none; frontier are times, or none.
func list(l ...summary.Sum) []summary.Sum { return l }
func frontier(l ...api.Stamp) []api.Stamp { return l }

// times are those of an epoch, a depth, and counters of some numbers.
func times(epoch, depth int, numbers ...int) []api.Stamp {
	made := []api.Stamp{at(epoch, make([]int, depth)...)}
	for i := range depth {
		var more []api.Stamp
		for _, t := range made {
			for _, n := range numbers {
				t.Loops[i] = n
				more = append(more, t)
			}
		}
		made = more
	}
	return made
}

// wrongTimes are times that may not be.
func wrongTimes() []api.Stamp {
	return []api.Stamp{at(1000), at(-1), at(1, 16), at(1, -1), at(1, 2, 16), at(1, 16, 2), at(1, 2, 3, 16), at(1000, 1), {Depth: 4}, {Depth: -1},
		{Loops: [3]int{1}}, {Depth: 1, Loops: [3]int{1, 0, 1}}, at(-1<<63, 1<<63-1), {Depth: 1<<63 - 1}, {Depth: -1 << 63}, {Depth: 1 << 32}}
}

// node is one whose numbers are right.
func node(kind uint8, depth int, in ...int) api.Node {
	n := api.Node{Kind: kind, Depth: depth, In: in}
	if kind == api.Feedback {
		n.B = 1
	}
	return n
}

// copyOf is the same graph in other memory.
func copyOf(g api.Graph) api.Graph {
	made := slices.Clone(g)
	for i, n := range made {
		made[i].In = slices.Clone(n.In)
	}
	return made
}

// moved is g with its nodes at other places: node i stands at to[i].
func moved(g api.Graph, to []int) api.Graph {
	made := make(api.Graph, len(g))
	for i, n := range copyOf(g) {
		for j, from := range n.In {
			n.In[j] = to[from]
		}
		made[to[i]] = n
	}
	return made
}

// chances are numbers that stand in no order, the same ones in each run.
type chances struct{ seed uint64 }

func (c *chances) next(n int) int {
	c.seed = c.seed*6364136223846793005 + 1442695040888963407
	return int(c.seed >> 33 % uint64(n))
}

// kinds are those that a node may be of that is fed by one of a depth, some of them several times, as they make more of times.
func kinds(depth, deepest int) []uint8 {
	l := []uint8{api.Union, api.Join, api.Map, api.Filter, api.Reduce}
	if depth == 0 {
		l = append(l, api.Input, api.Output)
	} else {
		l = append(l, api.Union, api.Union, api.Union, api.Feedback, api.Feedback, api.Feedback, api.Feedback, api.Egress, api.Egress, api.Egress)
	}
	if depth < deepest {
		l = append(l, api.Ingress, api.Ingress, api.Ingress, api.Ingress, api.Ingress)
	}
	return l
}

// fed is a node that is fed by node i, and, if it has two inputs, by another one that fits.
func (c *chances) fed(g api.Graph, i, deepest int) api.Node {
	l := kinds(g[i].Depth, deepest)
	n := node(l[c.next(len(l))], g[i].Depth, i)
	switch n.Kind {
	case api.Input:
		n.In = nil
	case api.Union, api.Join:
		n.In = append(n.In, c.like(g, i))
	case api.Ingress:
		n.Depth++
	case api.Egress:
		n.Depth--
	case api.Map, api.Filter:
		n.A, n.B = uint8(c.next(3)), int64(1+c.next(9))
	case api.Feedback:
		n.B = int64(1 + c.next(16))
	}
	return n
}

// like is a node of node i's depth that may feed others.
func (c *chances) like(g api.Graph, i int) int {
	var may []int
	for j, n := range g {
		if n.Depth == g[i].Depth && n.Kind != api.Output {
			may = append(may, j)
		}
	}
	return may[c.next(len(may))]
}

// turned are the places of so many nodes in no order.
func (c *chances) turned(nodes int) []int {
	to := make([]int, nodes)
	for i := range to {
		j := c.next(i + 1)
		to[i], to[j] = to[j], i
	}
	return to
}

// round has the last node of g feed a node by which a way leads to it, if there is one and g may be run so.
func (c *chances) round(g api.Graph) {
	last := len(g) - 1
	i := last
	for steps := c.next(2 * len(g)); steps > 0 && g[i].Kind != api.Input; steps-- {
		i = g[i].In[0]
		if g[i].Depth != g[last].Depth || len(g[i].In) < 2 {
			continue
		}
		was := g[i].In[1]
		g[i].In[1] = last
		if _, e := check.Check(g); e == api.OK {
			return
		}
		g[i].In[1] = was
	}
}

// graph is one that may be run, with cycles where it comes to such.
func (c *chances) graph(nodes, deepest int) api.Graph {
	g := api.Graph{node(api.Input, 0)}
	for len(g) < nodes {
		i := len(g) - 1 // mostly, so that ways get long
		if c.next(5) == 0 || g[i].Kind == api.Output {
			i = c.next(len(g))
		}
		if g[i].Kind == api.Output {
			continue
		}
		g = append(g, c.fed(g, i, deepest))
		if g[len(g)-1].Kind == api.Feedback || c.next(4) == 0 {
			c.round(g)
		}
	}
	return moved(g, c.turned(nodes))
}

// graphs are so many that may be run, of up to so many nodes and so deep.
func graphs(seed uint64, many, nodes, deepest int) []api.Graph {
	c := &chances{seed: seed}
	var made []api.Graph
	for len(made) < many {
		made = append(made, c.graph(nodes-c.next(nodes*2/3), deepest-c.next(2)))
	}
	return made
}
