package implied_test

import (
	"slices"
	"sync"
	"testing"

	"tailrace/antichain"
	"tailrace/api"
	"tailrace/flow"
	"tailrace/implied"
	"tailrace/opers"
	"tailrace/paths"
	"tailrace/stamp"
)

// These tests go through what follows, and is promised (P15.5), and through what is handed in and answered (P15.4).

// lawGraphs are graphs for the laws.
func lawGraphs() []api.Graph {
	return slices.Concat([]api.Graph{line(), loop(3), loop(16), nest(), row(15)}, graphs(20, 100, 9, 1), graphs(21, 100, 14, 2), graphs(22, 50, 20, 3), graphs(23, 20, 32, 3))
}

// noneUndone: is done of now whatever is done of was, and is it told so by Done, too?
func noneUndone(t *testing.T, p *paths.Paths, was, now []implied.Place) {
	t.Helper()
	for i := range p.Graph() {
		before, behind := told(t, p, was, i), told(t, p, now, i)
		if !antichain.Within(before, behind) {
			t.Fatalf("%v: at %d: the frontier of %v is %v, and then, of %v, %v", p.Graph(), i, was, before, now, behind)
		}
		for _, x := range slices.Concat(before, behind) {
			if implied.Done(p, was, i, x) && !implied.Done(p, now, i, x) {
				t.Fatalf("%v: at %d: %v is done of %v, and then, of %v, no more", p.Graph(), i, x, was, now)
			}
		}
	}
}

// TestOneMore: with a place more no time is done that was not.
func TestOneMore(t *testing.T) {
	c := &chances{seed: 30}
	less := 0
	for _, g := range lawGraphs() {
		p := of(t, g)
		for range 12 {
			l := c.places(g, c.next(8))
			more := slices.Insert(slices.Clone(l), c.next(len(l)+1), c.place(g))
			noneUndone(t, p, more, l)
			for i := range g {
				if !slices.Equal(told(t, p, more, i), told(t, p, l, i)) {
					less++
				}
			}
		}
	}
	if less < 1000 {
		t.Errorf("a place more changed only %d frontiers", less)
	}
}

// later is one that is at x's place, at its time or behind.
func (c *chances) later(x implied.Place) implied.Place {
	x.At.Epoch += c.next(3) * c.next(2)
	for i := range x.At.Depth {
		x.At.Loops[i] += c.next(3) * c.next(2)
		x.At.Loops[i] = min(x.At.Loops[i], 15)
	}
	x.At.Epoch = min(x.At.Epoch, 999)
	return x
}

// TestLater: with a place that is later no earlier time may come.
func TestLater(t *testing.T) {
	c := &chances{seed: 31}
	later := 0
	for _, g := range lawGraphs() {
		p := of(t, g)
		for range 12 {
			l := c.places(g, 1+c.next(6))
			other := slices.Clone(l)
			i := c.next(len(l))
			other[i] = c.later(l[i])
			if !stamp.Leq(l[i].At, other[i].At) {
				t.Fatalf("%v isn't later than %v", other[i], l[i])
			}
			if l[i] != other[i] {
				later++
			}
			noneUndone(t, p, l, other)
			noneUndone(t, p, l[i:i+1], other[i:i+1])
		}
	}
	if later < 1000 {
		t.Errorf("only %d are later", later)
	}
}

// TestTogether: of two rows together the frontier is that in both.
func TestTogether(t *testing.T) {
	c := &chances{seed: 32}
	for _, g := range lawGraphs() {
		p := of(t, g)
		for range 12 {
			a, b := c.places(g, c.next(6)), c.places(g, c.next(6))
			for i := range g {
				both, e := antichain.Both(told(t, p, a, i), told(t, p, b, i))
				if f := told(t, p, slices.Concat(a, b), i); !slices.Equal(f, both) || e != api.OK {
					t.Fatalf("%v: at %d: of %v and %v together %v, of each, in both, %v", g, i, a, b, f, both)
				}
			}
		}
	}
}

// TestAnyOrder: in whatever order places stand, and however often, the same is told.
func TestAnyOrder(t *testing.T) {
	c := &chances{seed: 33}
	for _, g := range lawGraphs() {
		p := of(t, g)
		l := c.places(g, 8)
		for i := range g {
			want := told(t, p, l, i)
			for range 4 {
				if f := told(t, p, mixed(c, append(mixed(c, l)[c.next(len(l)):], l...)), i); !slices.Equal(f, want) {
					t.Fatalf("%v: at %d: of %v in another order %v, want %v", g, i, l, f, want)
				}
			}
		}
	}
}

// comes tells what may come when x goes: places at the inputs that its node feeds, and held ones of that node.
func comes(g api.Graph, x implied.Place) []implied.Place {
	var l []implied.Place
	if out, ok := opers.Time(g[x.Node], x.At); ok {
		for _, port := range flow.To(g, x.Node) {
			l = append(l, queued(port.Node, out))
		}
	}
	if y := held(x.Node, x.At); rightByWords(g, y) {
		l = append(l, y)
	}
	return l
}

// most are how many Feedbacks of one depth there are.
func most(g api.Graph) int {
	var many [4]int
	for _, n := range g {
		if n.Kind == api.Feedback {
			many[n.Depth]++
		}
	}
	return slices.Max(many[:])
}

// TestGoesOn: if a place goes, and such come as may, no time that was done is so no more; and nothing comes at a time that was told done.
func TestGoesOn(t *testing.T) {
	c := &chances{seed: 34}
	moves, ends := 0, 0
	for _, g := range lawGraphs() {
		if most(g) > 15 { // a way that leads over more leads nowhere, but from within it may
			continue
		}
		p := of(t, g)
		for range 3 {
			l := c.places(g, 1+c.next(5))
			for range 20 {
				if len(l) == 0 {
					ends++
					break
				}
				i := c.next(len(l))
				x := l[i]
				next := slices.Delete(slices.Clone(l), i, i+1)
				for _, y := range comes(g, x) {
					if !y.Held && implied.Done(p, l, y.Node, y.At) {
						t.Fatalf("%v: of %v goes %v, and %v comes, which was done", g, l, x, y)
					}
					for n := c.next(3); n > 0 && len(next) < 12; n-- {
						next = append(next, y)
					}
				}
				noneUndone(t, p, l, next)
				l = next
				moves++
			}
		}
	}
	if moves < 5000 || ends < 100 {
		t.Errorf("only %d moves, only %d ends", moves, ends)
	}
}

// TestOpenOn: an Input's epoch that is closed, the next one being open, leaves all done that was.
func TestOpenOn(t *testing.T) {
	for _, g := range lawGraphs()[:100] {
		p := of(t, g)
		for i, n := range g {
			if n.Kind != api.Input {
				continue
			}
			for epoch := range 5 {
				was := some(held(i, at(epoch)))
				now := some(held(i, at(epoch+1)))
				for _, port := range flow.To(g, i) {
					now = append(now, queued(port.Node, at(epoch)))
				}
				noneUndone(t, p, was, now)
				noneUndone(t, p, now, now[:1])
				noneUndone(t, p, now, nil)
			}
		}
	}
}

// roomy is l with room behind it in which other things stand.
func roomy(l []implied.Place) []implied.Place {
	return append(slices.Clone(l), queued(-7, at(-7)), held(77, at(7, 7, 7)), queued(0, at(1)))[:len(l)]
}

// TestOnlyRead: what is handed in stays as it is, behind lists' lengths too; so do the paths.
func TestOnlyRead(t *testing.T) {
	c := &chances{seed: 35}
	for _, g := range lawGraphs() {
		p := of(t, g)
		for _, l := range [][]implied.Place{c.places(g, 6), append(c.places(g, 3), queued(-1, at(3))), nil} {
			handed := roomy(l)
			was := slices.Clone(handed[:cap(handed)])
			for i := -1; i <= len(g); i++ {
				implied.Frontier(p, handed, i)
				implied.Done(p, handed, i, at(3))
				implied.Done(p, handed, i, at(3, 1))
			}
			if !slices.Equal(handed[:cap(handed)], was) {
				t.Fatalf("%v is %v now", was, handed[:cap(handed)])
			}
			for _, x := range l {
				h := p.Graph()
				room := append(h, api.Node{Kind: 77}, api.Node{Kind: 78})[:len(h)]
				implied.Right(room, x)
				if !flow.Same(room, g) || room[:len(g)+1][len(g)].Kind != 77 {
					t.Fatalf("%v is %v now", g, room)
				}
			}
			if !flow.Same(p.Graph(), g) {
				t.Fatalf("the paths of %v are those of %v now", g, p.Graph())
			}
		}
	}
}

// TestNewMemory: who spoils an answer, or what was handed in, spoils no other answer.
func TestNewMemory(t *testing.T) {
	p := of(t, nest())
	l := some(held(6, at(8, 1, 2, 3)), queued(6, at(9, 0, 9, 9)), held(0, at(20)))
	want := slices.Clone(told(t, p, l, 6))
	handed := slices.Clone(l)
	one, other := told(t, p, handed, 6), told(t, p, handed, 6)
	for i := range one[:cap(one)] {
		one[:cap(one)][i] = api.Stamp{Depth: 9, Epoch: 9, Loops: [3]int{9, 9, 9}}
	}
	if !slices.Equal(other, want) || !slices.Equal(handed, l) || !slices.Equal(told(t, p, handed, 6), want) {
		t.Errorf("spoilt with another answer: %v, %v", other, handed)
	}
	for i := range handed {
		handed[i] = queued(99, at(-1))
	}
	if !slices.Equal(other, want) || !slices.Equal(told(t, p, l, 6), want) {
		t.Errorf("spoilt with what was handed in: %v", other)
	}
	alone := some(queued(13, at(7)))
	f := told(t, p, alone, 13)
	f[0].Epoch = 99
	if alone[0].At != at(7) || !slices.Equal(told(t, p, alone, 13), frontier(at(7))) {
		t.Errorf("an answer is what was handed in: %v", alone)
	}
}

// TestAtOnce: calls at the same time of the same places answer as one by one.
func TestAtOnce(t *testing.T) {
	c := &chances{seed: 36}
	for _, g := range append(lawGraphs()[:20], graphs(24, 5, 32, 3)...) {
		p, alone := of(t, g), of(t, g)
		l := c.places(g, 10)
		var w sync.WaitGroup
		for k := range 8 {
			w.Go(func() {
				for n := range g {
					i := (n + k) % len(g)
					f, e := implied.Frontier(p, l, i)
					want, _ := implied.Frontier(alone, l, i)
					if !slices.Equal(f, want) || e != api.OK || implied.Done(p, l, i, at(2)) != implied.Done(alone, l, i, at(2)) || !implied.Right(g, l[0]) {
						t.Errorf("%v: another answer than alone", g)
					}
				}
			})
		}
		w.Wait()
	}
}
