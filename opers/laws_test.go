package opers_test

import (
	"slices"
	"sync"
	"testing"

	"tailrace/api"
	"tailrace/opers"
	"tailrace/stamp"
	"tailrace/value"
)

// These tests go through what follows, and is promised (P13.6), and through what is handed in and answered (P13.5).

// made is what n makes, without a fault.
func made(t *testing.T, n api.Node, in ...[]api.Record) []api.Record {
	t.Helper()
	l, e := opers.Run(n, in...)
	if e != api.OK {
		t.Fatalf("kind %d, A %d, B %d of %v: %d", n.Kind, n.A, n.B, in, e)
	}
	return l
}

// TestTogether: of kinds that do not wait, what is made of two rows together is what is made of each, together.
func TestTogether(t *testing.T) {
	c := &chances{seed: 10}
	for i := range 20 {
		for _, n := range nodes() {
			if opers.Waits(n.Kind) {
				continue
			}
			var one, other, both [][]api.Record
			for range inputsByWords(n.Kind) {
				a, b := c.row(c.next(9), 2+i, 3+2*i), c.row(c.next(9), 2+i, 3+2*i)
				one, other, both = append(one, a), append(other, b), append(both, slices.Concat(a, b))
			}
			if got, want := made(t, n, both...), value.Add(made(t, n, one...), made(t, n, other...)); !slices.Equal(got, want) {
				t.Fatalf("kind %d, A %d, B %d makes %v of %v and %v together, %v of each", n.Kind, n.A, n.B, got, one, other, want)
			}
		}
	}
	for _, kind := range []uint8{api.Reduce, api.Join} { // those that wait have a reason to
		n := api.Node{Kind: kind}
		one := made(t, n, ins(n, list(1, 2), list(1, 3))...)
		if slices.Equal(made(t, n, ins(n, list(1, 2, 1, 2), list(1, 3, 1, 3))...), value.Add(one, one)) {
			t.Errorf("kind %d doesn't have to wait", kind)
		}
	}
}

// TestAnyOrder: in whatever order records stand, the same is made.
func TestAnyOrder(t *testing.T) {
	c := &chances{seed: 11}
	for i := range 20 {
		for _, n := range nodes() {
			a, b := c.row(c.next(30), 2+i, 3+2*i), c.row(c.next(20), 2+i, 3+2*i)
			want := made(t, n, ins(n, a, b)...)
			for range 3 {
				if got := made(t, n, ins(n, c.mixed(a), c.mixed(b))...); !slices.Equal(got, want) {
					t.Fatalf("kind %d, A %d, B %d makes %v and %v", n.Kind, n.A, n.B, got, want)
				}
			}
		}
	}
}

// exchanged are l's records, each fed by any worker, by the workers to which they go.
func (c *chances) exchanged(t *testing.T, n api.Node, l []api.Record, workers int) [][]api.Record {
	t.Helper()
	at := make([][]api.Record, workers)
	for _, r := range l {
		to := opers.Of(n, r, c.next(workers), workers)
		if to < 0 || to >= workers {
			t.Fatalf("kind %d: %v goes to %d of %d", n.Kind, r, to, workers)
		}
		at[to] = append(at[to], r)
	}
	return at
}

// TestExchange: where records go by Of, what workers make of what came to each, together, is what one alone makes of all.
func TestExchange(t *testing.T) {
	c := &chances{seed: 12}
	for i := range 30 {
		for _, n := range nodes() {
			workers := []int{1, 2, 3, 4, 7, 63, 64}[c.next(7)]
			a, b := c.row(c.next(80), 2+4*i, 3+2*i), c.row(c.next(40), 2+4*i, 3+2*i)
			firsts, seconds := c.exchanged(t, n, a, workers), c.exchanged(t, n, b, workers)
			var all [][]api.Record
			for w := range workers {
				all = append(all, made(t, n, ins(n, firsts[w], seconds[w])...))
			}
			if got, want := value.Add(all...), made(t, n, ins(n, a, b)...); !slices.Equal(got, want) {
				t.Fatalf("kind %d, A %d, B %d: %d workers make %v, one makes %v", n.Kind, n.A, n.B, workers, got, want)
			}
		}
	}
}

// TestTimeOrder: Time goes with the order of times; where there is none, there is none behind.
func TestTimeOrder(t *testing.T) {
	right := slices.DeleteFunc(stamps(), func(s api.Stamp) bool { return s.Epoch == 4 && s.Depth > 1 || !rightByWords(s) })
	for kind := range uint8(12) {
		for _, b := range []int64{1, 2, 3, 15, 16} {
			n := api.Node{Kind: kind, B: b}
			for _, x := range right {
				toX, okX := opers.Time(n, x)
				for _, y := range right {
					if !stamp.Leq(x, y) {
						continue
					}
					toY, okY := opers.Time(n, y)
					if okY && (!okX || !stamp.Leq(toX, toY)) {
						t.Fatalf("kind %d, B %d: %v becomes %v, %t, and %v, which is behind it, %v", kind, b, x, toX, okX, y, toY)
					}
				}
			}
		}
	}
}

// TestJoinTurned: Join is the same with its inputs turned about.
func TestJoinTurned(t *testing.T) {
	c := &chances{seed: 13}
	n := api.Node{Kind: api.Join}
	for i := range 2000 {
		a, b := c.row(c.next(20), 2+i%20, 3+i%40), c.row(c.next(20), 2+i%20, 3+i%40)
		if one, other := made(t, n, a, b), made(t, n, b, a); !slices.Equal(one, other) {
			t.Fatalf("Join of %v and %v is %v, turned about %v", a, b, one, other)
		}
	}
}

// TestOnlyRead: what is handed in stays as it is, what lies behind its length too.
func TestOnlyRead(t *testing.T) {
	l := list(9, 9, 3, 1, 2, 2, 3, 0, 2, 2, 8, 8, 1, 1)
	was := slices.Clone(l)
	in := [][]api.Record{l[:3], l[3:5], l[1:2], nil}
	kept := slices.Clone(in)
	from := []int{7, 8, 9}
	for _, n := range nodes() {
		n.In = from[:1]
		for many := range 4 {
			opers.Run(n, in[:many]...)
			opers.Run(n, in[1:1+min(many, 3)]...)
		}
		opers.Time(n, at(4, 1))
		opers.Of(n, l[0], 0, 3)
	}
	if !slices.Equal(l, was) || !slices.Equal(from, []int{7, 8, 9}) {
		t.Errorf("changed: %v, %v", l, from)
	}
	for i := range in {
		if len(in[i]) != len(kept[i]) || len(in[i]) > 0 && &in[i][0] != &kept[i][0] {
			t.Errorf("row %d changed: %v", i, in[i])
		}
	}
}

// spoil changes all there is of l, behind its length too.
func spoil(l []api.Record) {
	l = l[:cap(l)]
	for i := range l {
		l[i] = api.Record{Key: -77, Val: -77}
	}
}

// TestNewMemory: what is answered hangs together neither with what was handed in nor with another answer.
func TestNewMemory(t *testing.T) {
	for _, n := range nodes() {
		a, b := list(1, 1, 2, 2, 3, 3, 3, 3), list(2, 2, 3, 3)
		in := ins(n, a, b)
		want := slices.Clone(made(t, n, in...))
		one, other := made(t, n, in...), made(t, n, in...)
		spoil(one)
		if !slices.Equal(other, want) || !slices.Equal(made(t, n, in...), want) {
			t.Errorf("kind %d, A %d: an answer was spoilt with another one", n.Kind, n.A)
		}
		if !slices.Equal(a, list(1, 1, 2, 2, 3, 3, 3, 3)) || !slices.Equal(b, list(2, 2, 3, 3)) {
			t.Errorf("kind %d, A %d: what was handed in was spoilt: %v, %v", n.Kind, n.A, a, b)
		}
		spoil(a)
		spoil(b)
		if !slices.Equal(other, want) {
			t.Errorf("kind %d, A %d: an answer was spoilt with what was handed in", n.Kind, n.A)
		}
	}
	whole := [][]api.Record{list(1, 2), nil} // of a row alone, too, when the other one is empty
	for _, in := range [][][]api.Record{whole, {whole[1], whole[0]}} {
		spoil(made(t, api.Node{Kind: api.Union}, in...))
		if !slices.Equal(whole[0], list(1, 2)) {
			t.Errorf("a Union answers one of its rows: %v", whole[0])
		}
	}
}

// TestNothingThere: nil and empty rows are the same, and nothing is made of them.
func TestNothingThere(t *testing.T) {
	for _, n := range nodes() {
		for _, a := range [][]api.Record{nil, {}, list(1, 5)[:0]} {
			for _, b := range [][]api.Record{nil, {}, list(2, 0)[:0]} {
				if l := made(t, n, ins(n, a, b)...); len(l) != 0 {
					t.Errorf("kind %d, A %d makes %v of nothing", n.Kind, n.A, l)
				}
			}
		}
	}
}

// TestAtOnce: calls at the same time of the same rows answer as one by one.
func TestAtOnce(t *testing.T) {
	c := &chances{seed: 14}
	a, b := c.row(200, 40, 40), c.row(50, 40, 40)
	var w sync.WaitGroup
	for range 8 {
		w.Go(func() {
			for _, n := range nodes() {
				want, _ := runByWords(n, ins(n, a, b)...)
				if l, e := opers.Run(n, ins(n, a, b)...); !slices.Equal(l, want) || e != api.OK {
					t.Errorf("kind %d, A %d, B %d: another answer", n.Kind, n.A, n.B)
				}
			}
		})
	}
	w.Wait()
}
