package denote_test

import (
	"slices"

	"tailrace/api"
	"tailrace/check"
	"tailrace/denote"
	"tailrace/opers"
)

// The chapter's words to the letter, for the other tests to hold the answers against, and graphs to hold them at.

// where is a node, and a time of its depth.
type where struct {
	node int
	at   api.Stamp
}

// table are values; what is not in it is nothing.
type table map[where][]api.Record

// byWords is the value of a node at a time, by the words, if the others are as l has them.
func byWords(g api.Graph, fed []denote.Fed, w where, l table) []api.Record {
	n, t := g[w.node], w.at
	var rows [][]api.Record
	switch n.Kind {
	case api.Input:
		for _, f := range fed {
			if f.Node == w.node && f.Epoch == t.Epoch {
				rows = append(rows, f.List)
			}
		}
	case api.Ingress:
		if t.Loops[t.Depth-1] == 0 {
			rows = append(rows, l[where{n.In[0], at(t.Epoch, t.Loops[:t.Depth-1]...)}])
		}
	case api.Egress:
		for c := range 16 {
			rows = append(rows, l[where{n.In[0], deeper(t, c)}])
		}
	case api.Feedback:
		if c := t.Loops[t.Depth-1]; c >= 1 && int64(c) < n.B {
			rows = append(rows, l[where{n.In[0], at(t.Epoch, append(slices.Clone(t.Loops[:t.Depth-1]), c-1)...)}])
		}
	default:
		for _, from := range n.In {
			rows = append(rows, l[where{from, t}])
		}
		made, _ := opers.Run(n, rows...)
		return made
	}
	return inOrder(slices.Concat(rows...))
}

// settled are all values of an epoch that are something: at first none, and made by the words over and over, where one changed on which they hang, till nothing changes. It answers false if rows get too long to go on.
func settled(g api.Graph, fed []denote.Fed, epoch int) (table, bool) {
	l := table{}
	var next []where
	for i, n := range g {
		if n.Kind == api.Input {
			next = append(next, where{i, at(epoch)})
		}
	}
	for len(next) > 0 {
		var changed []where
		seen := map[where]bool{}
		for _, w := range next {
			if seen[w] {
				continue
			}
			seen[w] = true
			row := byWords(g, fed, w, l)
			if len(row) > 400 {
				return nil, false
			}
			if !slices.Equal(row, l[w]) {
				l[w] = row
				changed = append(changed, w)
			}
		}
		next = nil
		for _, w := range changed {
			next = append(next, hang(g, w)...)
		}
	}
	return l, true
}

// hang are the values that hang on that of w.
func hang(g api.Graph, w where) []where {
	var all []where
	for i, n := range g {
		if !slices.Contains(n.In, w.node) {
			continue
		}
		loops := slices.Clone(w.at.Loops[:w.at.Depth])
		switch n.Kind {
		case api.Ingress:
			loops = append(loops, 0)
		case api.Egress:
			loops = loops[:len(loops)-1]
		case api.Feedback:
			loops[len(loops)-1]++
			if loops[len(loops)-1] > 15 {
				continue
			}
		}
		all = append(all, where{i, at(w.at.Epoch, loops...)})
	}
	return all
}

// outByWords are the Outputs' values of a table.
func outByWords(g api.Graph, l table, epoch int) []denote.Fed {
	var all []denote.Fed
	for i, n := range g {
		if n.Kind == api.Output {
			all = append(all, denote.Fed{Node: i, Epoch: epoch, List: l[where{i, at(epoch)}]})
		}
	}
	return all
}

// alike: are both the same, node by node, record by record?
func alike(a, b []denote.Fed) bool {
	return slices.EqualFunc(a, b, func(x, y denote.Fed) bool {
		return x.Node == y.Node && x.Epoch == y.Epoch && slices.Equal(x.List, y.List)
	})
}

// inOrder sorts l by Key, then Val.
func inOrder(l []api.Record) []api.Record {
	slices.SortFunc(l, func(a, b api.Record) int { return slices.Compare([]int64{a.Key, a.Val}, []int64{b.Key, b.Val}) })
	return l
}

// together are the records of the rows, sorted.
func together(rows ...[]api.Record) []api.Record { return inOrder(slices.Concat(rows...)) }

// at is a time as the chapters' examples write it: its epoch, and its counters.
func at(epoch int, loops ...int) api.Stamp {
	t := api.Stamp{Depth: len(loops), Epoch: epoch}
	copy(t.Loops[:], loops)
	return t
}

// deeper is t with one counter more behind.
func deeper(t api.Stamp, counter int) api.Stamp {
	return at(t.Epoch, append(slices.Clone(t.Loops[:t.Depth]), counter)...)
}

// list are records, each told by its Key and Val.
func list(numbers ...int64) []api.Record {
	var l []api.Record
	for i := 0; i < len(numbers); i += 2 {
		l = append(l, api.Record{Key: numbers[i], Val: numbers[i+1]})
	}
	return l
}

// fed is what was fed to a node in an epoch.
func fed(node, epoch int, numbers ...int64) denote.Fed {
	return denote.Fed{Node: node, Epoch: epoch, List: list(numbers...)}
}

// some are several of them.
func some(l ...denote.Fed) []denote.Fed { return l }

// node is one whose B is 0.
func node(kind uint8, depth int, in ...int) api.Node {
	return api.Node{Kind: kind, Depth: depth, In: in}
}

// with is n with other numbers.
func with(n api.Node, a uint8, b int64) api.Node {
	n.A, n.B = a, b
	return n
}

// loop is the graph of the chapter's examples, with another B of its Feedback.
func loop(bound int64) api.Graph {
	return api.Graph{node(api.Input, 0), node(api.Ingress, 1, 0), node(api.Union, 1, 1, 4), with(node(api.Map, 1, 2), 0, 10), with(node(api.Feedback, 1, 3), 0, bound), node(api.Egress, 0, 3), node(api.Output, 0, 5)}
}

// nest are two loops, one within the other: the inner one (3 to 7) makes 1 more each time round, the outer one (1 to 9) goes on with the greatest.
func nest(inner, outer int64) api.Graph {
	return api.Graph{node(api.Input, 0), node(api.Ingress, 1, 0), node(api.Union, 1, 1, 9), node(api.Ingress, 2, 2), node(api.Union, 2, 3, 6), with(node(api.Map, 2, 4), 0, 1),
		with(node(api.Feedback, 2, 5), 0, inner), node(api.Egress, 1, 5), with(node(api.Reduce, 1, 7), 3, 0), with(node(api.Feedback, 1, 8), 0, outer), node(api.Egress, 0, 8), node(api.Output, 0, 10)}
}

// chances are numbers that stand in no order, the same ones in each run.
type chances struct{ seed uint64 }

func (c *chances) next(n int) int {
	c.seed = c.seed*6364136223846793005 + 1442695040888963407
	return int(c.seed >> 33 % uint64(n))
}

// records are up to 4, of few Keys and Vals.
func (c *chances) records() []api.Record {
	var l []api.Record
	for range c.next(5) {
		l = append(l, api.Record{Key: int64(c.next(3)), Val: int64(c.next(7) - 2)})
	}
	return l
}

// feeds are some to Inputs of g, in some of the epochs.
func (c *chances) feeds(g api.Graph, many int, epochs ...int) []denote.Fed {
	var inputs []int
	for i, n := range g {
		if n.Kind == api.Input {
			inputs = append(inputs, i)
		}
	}
	var l []denote.Fed
	for range many {
		l = append(l, denote.Fed{Node: inputs[c.next(len(inputs))], Epoch: epochs[c.next(len(epochs))], List: c.records()})
	}
	return l
}

// mixed are the same ones in another order.
func mixed[T any](c *chances, l []T) []T {
	m := slices.Clone(l)
	for i := range m {
		j := i + c.next(len(m)-i)
		m[i], m[j] = m[j], m[i]
	}
	return m
}

// kinds are those that a node may be of that is fed by one of a depth; those that lead to loops stand there several times.
func kinds(depth int, waiting bool) []uint8 {
	l := []uint8{api.Union, api.Union, api.Map, api.Filter}
	if waiting {
		l = append(l, api.Reduce, api.Join)
	}
	if depth == 0 {
		l = append(l, api.Output)
	} else {
		l = append(l, api.Union, api.Feedback, api.Feedback, api.Feedback, api.Feedback, api.Egress, api.Egress)
	}
	for range 3 - depth {
		l = append(l, api.Ingress, api.Ingress)
	}
	return l
}

// fedBy is a node that is fed by node i, and, if it has two inputs, by another one that fits.
func (c *chances) fedBy(g api.Graph, i int, waiting bool) api.Node {
	l := kinds(g[i].Depth, waiting)
	n := node(l[c.next(len(l))], g[i].Depth, i)
	if g[i].Kind == api.Ingress && c.next(4) > 0 { // so that what goes round may come to it
		n.Kind = api.Union
	}
	switch n.Kind {
	case api.Map:
		n.A, n.B = uint8(c.next(4)), int64(1+c.next(3))
	case api.Filter:
		n.A, n.B = uint8(c.next(3)), int64(2+c.next(9))
	case api.Reduce:
		n.A = uint8(c.next(4))
	case api.Union, api.Join:
		n.In = append(n.In, c.like(g, i))
	case api.Ingress:
		n.Depth++
	case api.Egress:
		n.Depth--
	case api.Feedback:
		n.B = int64(1 + c.next(6))
		if c.next(8) == 0 {
			n.B = 16
		}
	}
	return n
}

// like is a node of node i's depth that may feed others.
func (c *chances) like(g api.Graph, i int) int {
	var may []int
	for j, n := range g {
		if n.Depth == g[i].Depth && n.Kind != api.Output {
			may = append(may, j)
		}
	}
	return may[c.next(len(may))]
}

// round has the last node of g feed a node with two inputs, the first that is found from any place on that g may be run with so.
func (c *chances) round(g api.Graph) {
	last, from := len(g)-1, c.next(len(g))
	for j := range g {
		n := g[(from+j)%len(g)]
		if n.Depth != g[last].Depth || len(n.In) < 2 {
			continue
		}
		was := n.In[1]
		n.In[1] = last
		if _, e := check.Check(g); e == api.OK {
			return
		}
		n.In[1] = was
	}
}

// graph is one that may be run, of so many nodes, with Reduce and Join or without, its nodes in no order.
func (c *chances) graph(nodes int, waiting bool) api.Graph {
	g := api.Graph{node(api.Input, 0), node(api.Input, 0)}
	for len(g) < nodes {
		i := len(g) - 1 // mostly, so that much hangs on what was fed
		if c.next(4) == 0 || g[i].Kind == api.Output {
			i = c.next(len(g))
		}
		if g[i].Kind == api.Output {
			continue
		}
		g = append(g, c.fedBy(g, i, waiting))
		if g[len(g)-1].Kind == api.Feedback || c.next(6) == 0 {
			c.round(g)
		}
	}
	return moved(g, mixed(c, places(nodes)))
}

// places are those of so many nodes.
func places(nodes int) []int {
	var l []int
	for i := range nodes {
		l = append(l, i)
	}
	return l
}

// moved is g with its nodes at other places, in other memory: node i stands at to[i].
func moved(g api.Graph, to []int) api.Graph {
	made := make(api.Graph, len(g))
	for i, n := range g {
		n.In = slices.Clone(n.In)
		for j, from := range n.In {
			n.In[j] = to[from]
		}
		made[to[i]] = n
	}
	return made
}

// wrongGraphs are graphs that may not be run, by what is wrong with them.
func wrongGraphs() map[api.Errno]api.Graph {
	return map[api.Errno]api.Graph{
		api.ErrLimit: nil,
		api.ErrFlow:  {node(api.Input, 0), node(api.Map, 4, 0)},
		api.ErrOper:  {node(api.Input, 0), with(node(api.Map, 0, 0), 4, 1)},
		api.ErrPorts: {node(api.Input, 0), node(api.Output, 0, 1)},
		api.ErrDepth: {node(api.Input, 0), node(api.Ingress, 0, 0)},
		api.ErrCycle: {node(api.Input, 0), node(api.Union, 0, 0, 2), node(api.Map, 0, 1)},
	}
}
