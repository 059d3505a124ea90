package implied_test

import (
	"slices"

	"tailrace/api"
	"tailrace/check"
	"tailrace/implied"
	"tailrace/opers"
	"tailrace/paths"
)

// The chapter's words to the letter, for the other tests to hold the answers against, and graphs to hold them at.

// rightByWords is P15.3, of a graph that may be run.
func rightByWords(g api.Graph, x implied.Place) bool {
	if x.Node < 0 || x.Node >= len(g) || !timeByWords(x.At) || x.At.Depth != depthByWords(g, x.Node) {
		return false
	}
	switch g[x.Node].Kind {
	case api.Input:
		return x.Held
	case api.Reduce, api.Join:
		return true
	}
	return !x.Held
}

// depthByWords is the Depth of a node's inputs: that of the nodes that feed it; of an Input 0.
func depthByWords(g api.Graph, node int) int {
	if len(g[node].In) == 0 {
		return 0
	}
	return g[g[node].In[0]].Depth
}

// timeByWords: is a time right (chapter 5)?
func timeByWords(t api.Stamp) bool {
	if t.Depth < 0 || t.Depth > 3 || t.Epoch < 0 || t.Epoch >= 1000 {
		return false
	}
	for i, c := range t.Loops {
		if c < 0 || c >= 16 || i >= t.Depth && c != 0 {
			return false
		}
	}
	return true
}

// comesByWords is what may come of places to the inputs of a node, each place by itself.
func comesByWords(p *paths.Paths, l []implied.Place, node int) []api.Stamp {
	var times []api.Stamp
	for _, x := range l {
		if x.Node == node && !x.Held {
			times = append(times, x.At)
		}
		if out, ok := opers.Time(p.Graph()[x.Node], x.At); ok {
			times = append(times, p.Comes(x.Node, out, node)...)
		}
	}
	return times
}

// firstByWords is the frontier of times: those that no other one is ahead of, each once, rising.
func firstByWords(times []api.Stamp) []api.Stamp {
	var first []api.Stamp
	for _, x := range times {
		ahead := func(y api.Stamp) bool { return y != x && aheadByWords(y, x) }
		if !slices.Contains(first, x) && !slices.ContainsFunc(times, ahead) {
			first = append(first, x)
		}
	}
	slices.SortFunc(first, func(a, b api.Stamp) int {
		return slices.Compare([]int{a.Epoch, a.Loops[0], a.Loops[1], a.Loops[2]}, []int{b.Epoch, b.Loops[0], b.Loops[1], b.Loops[2]})
	})
	return first
}

// aheadByWords: is a, which has the depth of b, at or ahead of b?
func aheadByWords(a, b api.Stamp) bool {
	return a.Epoch <= b.Epoch && a.Loops[0] <= b.Loops[0] && a.Loops[1] <= b.Loops[1] && a.Loops[2] <= b.Loops[2]
}

// doneByWords is P15.2, where there is no error: of a frontier.
func doneByWords(f []api.Stamp, depth int, t api.Stamp) bool {
	return timeByWords(t) && t.Depth == depth && !slices.ContainsFunc(f, func(x api.Stamp) bool { return aheadByWords(x, t) })
}

// at is a time as the chapters' examples write it: its epoch, and its counters.
func at(epoch int, loops ...int) api.Stamp {
	t := api.Stamp{Depth: len(loops), Epoch: epoch}
	copy(t.Loops[:], loops)
	return t
}

// queued and held are places; some are several of them, or none; frontier are times, or none.
func queued(node int, t api.Stamp) implied.Place { return implied.Place{Node: node, At: t} }
func held(node int, t api.Stamp) implied.Place {
	return implied.Place{Node: node, Held: true, At: t}
}
func some(l ...implied.Place) []implied.Place { return l }
func frontier(l ...api.Stamp) []api.Stamp     { return l }

// times are those of an epoch, a depth, and counters of some numbers.
func times(epoch, depth int, numbers ...int) []api.Stamp {
	made := []api.Stamp{at(epoch, make([]int, depth)...)}
	for i := range depth {
		var more []api.Stamp
		for _, t := range made {
			for _, n := range numbers {
				t.Loops[i] = n
				more = append(more, t)
			}
		}
		made = more
	}
	return made
}

// wrongTimes are times that may not be.
func wrongTimes() []api.Stamp {
	return []api.Stamp{at(1000), at(-1), at(1, 16), at(1, -1), at(1, 2, 16), at(1, 16, 2), at(1, 2, 3, 16), at(1000, 1), at(-1, 1), at(1000, 1, 1), {Depth: 4}, {Depth: -1},
		{Loops: [3]int{1}}, {Loops: [3]int{0, 0, 1}}, {Depth: 1, Loops: [3]int{1, 0, 1}}, {Depth: 2, Loops: [3]int{1, 0, -1}}, at(-1<<63, 1<<63-1), {Depth: 1<<63 - 1}, {Depth: -1 << 63}, {Depth: 1 << 32}, at(1 << 32)}
}

// node is one whose numbers are right; a Feedback's B is as great as may be.
func node(kind uint8, depth int, in ...int) api.Node {
	n := api.Node{Kind: kind, Depth: depth, In: in}
	if kind == api.Feedback {
		n.B = 16
	}
	return n
}

// bounded is a Feedback with another B.
func bounded(b int64, depth int, in ...int) api.Node {
	return api.Node{Kind: api.Feedback, B: b, Depth: depth, In: in}
}

// line is the graph of the chapter's examples.
func line() api.Graph {
	return api.Graph{node(api.Input, 0), node(api.Reduce, 0, 0), node(api.Output, 0, 1)}
}

// loop has one loop: 1 leads in, 3 waits, 4 goes round, 5 leads out.
func loop(bound int64) api.Graph {
	return api.Graph{node(api.Input, 0), node(api.Ingress, 1, 0), node(api.Union, 1, 1, 4), node(api.Reduce, 1, 2), bounded(bound, 1, 3), node(api.Egress, 0, 3), node(api.Output, 0, 5)}
}

// nest are three loops, one within the other: 1, 3, 5 lead in, to 2, 4, 6, which 7, 9, 11 feed back, and 8, 10, 12 lead out.
func nest() api.Graph {
	return api.Graph{node(api.Input, 0),
		node(api.Ingress, 1, 0), node(api.Union, 1, 1, 11), node(api.Ingress, 2, 2), node(api.Join, 2, 3, 9), node(api.Ingress, 3, 4), node(api.Join, 3, 5, 7),
		node(api.Feedback, 3, 6), node(api.Egress, 2, 6), node(api.Feedback, 2, 8), node(api.Egress, 1, 8), node(api.Feedback, 1, 10), node(api.Egress, 0, 10),
		node(api.Output, 0, 12)}
}

// row are so many Feedbacks of depth 1, one behind the other, from node 2 on; 1 leads in; the last two nodes lead out, and are the Output.
func row(feedbacks int) api.Graph {
	g := api.Graph{node(api.Input, 0), node(api.Ingress, 1, 0)}
	for range feedbacks {
		g = append(g, node(api.Feedback, 1, len(g)-1))
	}
	return append(g, node(api.Egress, 0, len(g)-1), node(api.Output, 0, len(g)))
}

// wrongGraphs are graphs that may not be run, by what is wrong with them; in each node 0 is an Input.
func wrongGraphs() map[api.Errno]api.Graph {
	in := node(api.Input, 0)
	return map[api.Errno]api.Graph{
		api.ErrLimit: slices.Repeat(api.Graph{in}, 33),
		api.ErrFlow:  {in, node(api.Map, 4, 0)},
		api.ErrOper:  {in, {Kind: api.Map, A: 4, In: []int{0}}},
		api.ErrPorts: {in, node(api.Output, 0, 1)},
		api.ErrDepth: {in, node(api.Ingress, 0, 0)},
		api.ErrCycle: {in, node(api.Union, 0, 0, 2), node(api.Map, 0, 1)},
	}
}

// chances are numbers that stand in no order, the same ones in each run.
type chances struct{ seed uint64 }

func (c *chances) next(n int) int {
	c.seed = c.seed*6364136223846793005 + 1442695040888963407
	return int(c.seed >> 33 % uint64(n))
}

// time is one of a depth.
func (c *chances) time(depth int) api.Stamp {
	t := at([]int{0, 1, 2, 3, 998, 999}[c.next(6)], make([]int, depth)...)
	for i := range depth {
		t.Loops[i] = []int{0, 0, 0, 1, 1, 2, 3, 14, 15}[c.next(9)]
	}
	return t
}

// place is one that is right, at any node of g.
func (c *chances) place(g api.Graph) implied.Place {
	i := c.next(len(g))
	x := queued(i, c.time(depthByWords(g, i)))
	waits := g[i].Kind == api.Reduce || g[i].Kind == api.Join
	x.Held = g[i].Kind == api.Input || waits && c.next(2) == 0
	return x
}

// places are so many of them, some several times.
func (c *chances) places(g api.Graph, many int) []implied.Place {
	var l []implied.Place
	for len(l) < many {
		x := c.place(g)
		l = append(l, x)
		for c.next(4) == 0 {
			l = append(l, x)
		}
	}
	return l
}

// kinds are those that a node may be of that is fed by one of a depth, some of them several times, as they make more of times.
func kinds(depth, deepest int) []uint8 {
	l := []uint8{api.Union, api.Join, api.Map, api.Filter, api.Reduce, api.Reduce}
	if depth == 0 {
		l = append(l, api.Input, api.Output)
	} else {
		l = append(l, api.Union, api.Union, api.Join, api.Feedback, api.Feedback, api.Feedback, api.Feedback, api.Egress, api.Egress, api.Egress)
	}
	if depth < deepest {
		l = append(l, api.Ingress, api.Ingress, api.Ingress, api.Ingress)
	}
	return l
}

// fed is a node that is fed by node i, and, if it has two inputs, by another one that fits.
func (c *chances) fed(g api.Graph, i, deepest int) api.Node {
	l := kinds(g[i].Depth, deepest)
	n := node(l[c.next(len(l))], g[i].Depth, i)
	switch n.Kind {
	case api.Input:
		n.In = nil
	case api.Union, api.Join:
		n.In = append(n.In, c.like(g, i))
	case api.Ingress:
		n.Depth++
	case api.Egress:
		n.Depth--
	case api.Map, api.Filter:
		n.A, n.B = uint8(c.next(3)), int64(1+c.next(9))
	case api.Feedback:
		n.B = []int64{1, 2, 3, 15, 16, 16}[c.next(6)]
	}
	return n
}

// like is a node of node i's depth that may feed others.
func (c *chances) like(g api.Graph, i int) int {
	var may []int
	for j, n := range g {
		if n.Depth == g[i].Depth && n.Kind != api.Output {
			may = append(may, j)
		}
	}
	return may[c.next(len(may))]
}

// round has the last node of g feed a node by which a way leads to it, if there is one and g may be run so.
func (c *chances) round(g api.Graph) {
	last := len(g) - 1
	i := last
	for steps := c.next(2 * len(g)); steps > 0 && g[i].Kind != api.Input; steps-- {
		i = g[i].In[0]
		if g[i].Depth != g[last].Depth || len(g[i].In) < 2 {
			continue
		}
		was := g[i].In[1]
		g[i].In[1] = last
		if _, e := check.Check(g); e == api.OK {
			return
		}
		g[i].In[1] = was
	}
}

// graph is one that may be run, with cycles where it comes to such, its nodes in no order.
func (c *chances) graph(nodes, deepest int) api.Graph {
	g := api.Graph{node(api.Input, 0)}
	for len(g) < nodes {
		i := len(g) - 1 // mostly, so that ways get long
		if c.next(5) == 0 || g[i].Kind == api.Output {
			i = c.next(len(g))
		}
		if g[i].Kind == api.Output {
			continue
		}
		g = append(g, c.fed(g, i, deepest))
		if g[len(g)-1].Kind == api.Feedback || c.next(4) == 0 {
			c.round(g)
		}
	}
	return moved(g, c.turned(nodes))
}

// graphs are so many that may be run, of up to so many nodes and so deep.
func graphs(seed uint64, many, nodes, deepest int) []api.Graph {
	c := &chances{seed: seed}
	var made []api.Graph
	for len(made) < many {
		made = append(made, c.graph(nodes-c.next(nodes*2/3), deepest-c.next(2)))
	}
	return made
}

// turned are the places of so many nodes in no order.
func (c *chances) turned(nodes int) []int {
	to := make([]int, nodes)
	for i := range to {
		j := c.next(i + 1)
		to[i], to[j] = to[j], i
	}
	return to
}

// moved is g with its nodes at other places, in other memory: node i stands at to[i].
func moved(g api.Graph, to []int) api.Graph {
	made := make(api.Graph, len(g))
	for i, n := range g {
		n.In = slices.Clone(n.In)
		for j, from := range n.In {
			n.In[j] = to[from]
		}
		made[to[i]] = n
	}
	return made
}

// mixed are the same ones in another order.
func mixed[T any](c *chances, l []T) []T {
	m := slices.Clone(l)
	for i := range m {
		j := i + c.next(len(m)-i)
		m[i], m[j] = m[j], m[i]
	}
	return m
}
