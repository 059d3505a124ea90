package check_test

import (
	"slices"

	"tailrace/api"
)

// The promises to the letter, for the other tests to hold the answers against.

// numbersByWords: are a node's numbers right?
func numbersByWords(n api.Node) bool {
	switch n.Kind {
	case 2:
		return n.A <= 3 && !(n.A == 3 && n.B <= 0)
	case 3:
		return n.A <= 2 && !(n.A == 1 && n.B <= 0)
	case 5:
		return n.A <= 3 && n.B == 0
	case 9:
		return n.A == 0 && n.B >= 1 && n.B <= 16
	case 1, 4, 6, 7, 8, 10:
		return n.A == 0 && n.B == 0
	}
	return false
}

// inputsByWords is how many inputs a kind has.
func inputsByWords(kind uint8) int {
	if kind == 1 {
		return 0
	}
	if kind == 4 || kind == 6 {
		return 2
	}
	return 1
}

// portsByWords: are a node's ports right?
func portsByWords(g api.Graph, n api.Node) bool {
	if len(n.In) != inputsByWords(n.Kind) {
		return false
	}
	for _, from := range n.In {
		if from < 0 || from >= len(g) || g[from].Kind == 10 {
			return false
		}
	}
	return true
}

// depthByWords: is a node's depth right?
func depthByWords(g api.Graph, n api.Node) bool {
	d := n.Depth
	if d != 0 && d != 1 && d != 2 && d != 3 {
		return false
	}
	if (n.Kind == 1 || n.Kind == 10) && d != 0 || n.Kind == 9 && d == 0 {
		return false
	}
	for _, from := range n.In {
		feeding := g[from].Depth
		right := feeding == d
		if n.Kind == 7 {
			right = feeding == d-1
		}
		if n.Kind == 8 {
			right = feeding == d+1
		}
		if !right {
			return false
		}
	}
	return true
}

// nodeByWords is P10.1.
func nodeByWords(g api.Graph, i int) api.Errno {
	if i < 0 || i >= len(g) {
		return 2
	}
	if !numbersByWords(g[i]) {
		return 130
	}
	if !portsByWords(g, g[i]) {
		return 100
	}
	if !depthByWords(g, g[i]) {
		return 101
	}
	return 0
}

// walk is how far one has gone from a node: where one is, and the least depth of all nodes, and of all Feedbacks, that one came by.
type walk struct{ at, least, feedback int }

func (w walk) to(g api.Graph, i int) walk {
	w.at, w.least = i, min(w.least, g[i].Depth)
	if g[i].Kind == 9 {
		w.feedback = min(w.feedback, g[i].Depth)
	}
	return w
}

// stuckByWords: is node i in a cycle that does not go on? It goes all walks from i, however often they come by the same nodes.
func stuckByWords(g api.Graph, i int) bool {
	var list []walk
	seen := map[walk]bool{}
	from := walk{at: i, least: 99, feedback: 99}
	for at := -1; at < len(list); at++ {
		if at >= 0 {
			from = list[at]
		}
		for j, n := range g {
			if !slices.Contains(n.In, from.at) {
				continue
			}
			w := from.to(g, j)
			if j == i && w.feedback != w.least {
				return true
			}
			if !seen[w] {
				seen[w] = true
				list = append(list, w)
			}
		}
	}
	return false
}

// checkByWords is P10.2.
func checkByWords(g api.Graph) (int, api.Errno) {
	if len(g) < 1 || len(g) > 32 {
		return 0, 3
	}
	for _, n := range g {
		if n.Depth < 0 || n.Depth > 3 || len(n.In) > 2 {
			return 0, 90
		}
		for _, from := range n.In {
			if from < 0 || from > 31 {
				return 0, 90
			}
		}
	}
	for i := range g {
		if e := nodeByWords(g, i); e != 0 {
			return i, e
		}
	}
	for i := range g {
		if stuckByWords(g, i) {
			return i, 102
		}
	}
	return len(g), 0
}

// orderByWords is P10.3.
func orderByWords(g api.Graph) ([]int, api.Errno) {
	if _, e := checkByWords(g); e != 0 {
		return nil, e
	}
	var order []int
	for len(order) < len(g) {
		was := len(order)
		for i, n := range g {
			fed := true
			for _, from := range n.In {
				fed = fed && slices.Contains(order, from)
			}
			if !slices.Contains(order, i) && (n.Kind == 9 || fed) {
				order = append(order, i)
				break
			}
		}
		if len(order) == was {
			panic("no node may stand next")
		}
	}
	return order, 0
}

// copyOf is the same graph in other memory.
func copyOf(g api.Graph) api.Graph {
	made := slices.Clone(g)
	for i, n := range made {
		made[i].In = slices.Clone(n.In)
	}
	return made
}

// chances are numbers that stand in no order, the same ones in each run.
type chances struct{ seed uint64 }

func (c *chances) next(n int) int {
	c.seed = c.seed*6364136223846793005 + 1442695040888963407
	return int(c.seed >> 33 % uint64(n))
}

// numbers gives a node numbers that are right of its kind.
func (c *chances) numbers(n *api.Node) {
	switch n.Kind {
	case 2:
		n.A, n.B = uint8(c.next(4)), int64(1+c.next(9))
	case 3:
		n.A, n.B = uint8(c.next(3)), int64(1+c.next(9))
	case 5:
		n.A = uint8(c.next(4))
	case 9:
		n.B = int64(1 + c.next(16))
	}
}

// right is a graph whose nodes are all right, with cycles of any kind, if it comes to one: its depths are up to deepest, and of so many nodes one is a Feedback where it may.
func (c *chances) right(nodes, deepest, feedbacks int) (api.Graph, bool) {
	g := make(api.Graph, nodes)
	for i := range g {
		g[i].Depth = c.next(deepest + 1)
		g[i].Kind = uint8(2 + c.next(7))
		if g[i].Depth > 0 && c.next(feedbacks) == 0 {
			g[i].Kind = 9
		}
		if g[i].Depth == 0 && c.next(4) == 0 {
			g[i].Kind = uint8([]int{1, 1, 10}[c.next(3)])
		}
		c.numbers(&g[i])
	}
	for i := range g {
		depth := g[i].Depth
		if g[i].Kind == 7 {
			depth--
		}
		if g[i].Kind == 8 {
			depth++
		}
		var may []int
		for j, n := range g {
			if n.Depth == depth && n.Kind != 10 {
				may = append(may, j)
			}
		}
		for range inputsByWords(g[i].Kind) {
			if len(may) == 0 {
				return nil, false
			}
			g[i].In = append(g[i].In, may[c.next(len(may))])
		}
	}
	return g, true
}

// rights are so many graphs whose nodes are all right, of up to 32 nodes.
func rights(seed uint64, many int) []api.Graph {
	c := &chances{seed: seed}
	var made []api.Graph
	for len(made) < many {
		nodes := 1 + c.next(10)
		if c.next(8) == 0 {
			nodes = 1 + c.next(32)
		}
		if g, ok := c.right(nodes, c.next(4), 1+c.next(6)); ok {
			made = append(made, g)
		}
	}
	return made
}

// moved is g with its nodes at other places: node i stands at to[i].
func moved(g api.Graph, to []int) api.Graph {
	made := make(api.Graph, len(g))
	for i, n := range copyOf(g) {
		for j, from := range n.In {
			n.In[j] = to[from]
		}
		made[to[i]] = n
	}
	return made
}
