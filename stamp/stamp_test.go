package stamp_test

import (
	"math"
	"slices"
	"sync"
	"testing"

	"tailrace/api"
	"tailrace/stamp"
)

const (
	least    = math.MinInt
	greatest = math.MaxInt
)

var none api.Stamp

func TestRight(t *testing.T) {
	for i, x := range []struct {
		t    api.Stamp
		want bool
	}{
		{at(0), true}, {at(1), true}, {at(999), true}, {at(0, 0), true}, {at(999, 15), true}, {at(3, 0, 15), true},
		{at(3, 15, 0, 15), true}, {at(999, 15, 15, 15), true},
		{at(1000), false}, {at(-1), false}, {at(greatest), false}, {at(least), false}, {at(1001, 1), false}, {at(-1, 1, 1, 1), false},
		{at(1, 16), false}, {at(1, -1), false}, {at(1, 1, 16), false}, {at(1, -1, 1), false}, {at(1, 1, 1, 16), false}, {at(1, 1, 1, -1), false},
		{at(1, 16, 1, 1), false}, {at(1, greatest), false}, {at(1, 1, least), false},
		{api.Stamp{Depth: -1}, false}, {api.Stamp{Depth: 4}, false}, {api.Stamp{Depth: least}, false}, {api.Stamp{Depth: greatest}, false},
		{api.Stamp{Loops: [3]int{1}}, false}, {api.Stamp{Loops: [3]int{0, 0, 1}}, false}, {api.Stamp{Loops: [3]int{0, -1}}, false},
		{api.Stamp{Depth: 1, Loops: [3]int{1, 1}}, false}, {api.Stamp{Depth: 1, Loops: [3]int{1, 0, 1}}, false},
		{api.Stamp{Depth: 2, Loops: [3]int{1, 1, 1}}, false}, {api.Stamp{Depth: 2, Loops: [3]int{1, 1, least}}, false},
	} {
		if got := stamp.Right(x.t); got != x.want || rightByWords(x.t) != x.want {
			t.Errorf("%d: Right(%v) is %t", i, x.t, got)
		}
	}
}

func TestLeq(t *testing.T) {
	for i, x := range []struct {
		a, b api.Stamp
		want bool
	}{
		{at(1, 2), at(1, 3), true}, {at(1, 2), at(2, 1), false}, {at(1), at(1, 0), false}, // the chapter's
		{at(0), at(0), true}, {at(0), at(999), true}, {at(999), at(0), false}, {at(1, 2), at(1, 2), true}, {at(2, 1), at(1, 2), false},
		{at(1, 3), at(1, 2), false}, {at(1, 2), at(2, 2), true}, {at(2, 2), at(1, 2), false}, {at(1, 0), at(1), false},
		{at(1, 2, 3), at(1, 3, 2), false}, {at(1, 2, 3), at(1, 3, 3), true}, {at(1, 2, 3, 4), at(1, 2, 3, 3), false},
		{at(1, 2, 3, 4), at(1, 2, 4, 4), true}, {at(1, 2, 3, 4), at(2, 3, 4, 5), true}, {at(1, 15, 0, 0), at(2, 0, 15, 15), false},
		{at(1000), at(1000), false}, {at(1), at(1000), false}, {at(-1), at(1), false}, {at(1, 16), at(1, 16), false}, {at(1, -1), at(1, 1), false},
		{api.Stamp{Depth: 4}, api.Stamp{Depth: 4}, false}, {api.Stamp{Depth: -1}, api.Stamp{Depth: -1}, false},
		{at(1), api.Stamp{Epoch: 1, Loops: [3]int{1}}, false}, {api.Stamp{Loops: [3]int{0, 0, -1}}, at(1), false},
	} {
		if got := stamp.Leq(x.a, x.b); got != x.want || leqByWords(x.a, x.b) != x.want {
			t.Errorf("%d: Leq(%v, %v) is %t", i, x.a, x.b, got)
		}
	}
}

func TestCompare(t *testing.T) {
	for i, x := range []struct {
		a, b api.Stamp
		want int
	}{
		{at(1, 2), at(2, 1), -1}, {at(5), at(0, 0), -1}, // the chapter's
		{at(0), at(0), 0}, {at(3, 1, 2, 3), at(3, 1, 2, 3), 0}, {at(0), at(999), -1}, {at(999), at(0, 0), -1}, {at(9, 15), at(0, 0, 0), -1},
		{at(3, 1, 9, 9), at(3, 2, 0, 0), -1}, {at(3, 1, 1, 9), at(3, 1, 2, 0), -1}, {at(3, 1, 1, 1), at(3, 1, 1, 2), -1}, {at(3, 9), at(4, 0), -1},
		{at(-1), at(0), -1}, {at(1000), at(1001), -1}, {at(1000), at(1000), 0}, {at(least), at(greatest), -1}, {at(0, least), at(0, greatest), -1},
		{at(0, 0, least), at(0, 0, greatest), -1}, {at(0, 0, 0, least), at(0, 0, 0, greatest), -1},
		{api.Stamp{Depth: least}, api.Stamp{Depth: greatest}, -1}, {api.Stamp{Depth: -1, Epoch: 9}, at(0), -1}, {at(1, 1, 1, 1), api.Stamp{Depth: 4}, -1},
		{api.Stamp{Depth: 4}, api.Stamp{Depth: 4}, 0}, {api.Stamp{Depth: 4}, api.Stamp{Depth: 5}, -1},
		{at(0), api.Stamp{Loops: [3]int{1}}, -1}, {at(0), api.Stamp{Loops: [3]int{0, 0, 1}}, -1}, {at(0, 1), api.Stamp{Depth: 1, Loops: [3]int{1, 0, -1}}, 1},
	} {
		there, back := stamp.Compare(x.a, x.b), stamp.Compare(x.b, x.a)
		if there != x.want || back != -x.want || compareByWords(x.a, x.b) != x.want {
			t.Errorf("%d: Compare(%v, %v) is %d, the other way round %d", i, x.a, x.b, there, back)
		}
	}
}

func TestJoinAndMeet(t *testing.T) {
	for i, x := range []struct {
		a, b, join, meet api.Stamp
		ok               bool
	}{
		{at(1, 2), at(2, 1), at(2, 2), at(1, 1), true}, // the chapter's
		{at(0), at(0), at(0), at(0), true}, {at(0), at(999), at(999), at(0), true},
		{at(1, 2), at(1, 3), at(1, 3), at(1, 2), true}, {at(3, 0, 15), at(2, 15, 0), at(3, 15, 15), at(2, 0, 0), true},
		{at(1, 2, 3, 4), at(4, 3, 2, 1), at(4, 3, 3, 4), at(1, 2, 2, 1), true}, {at(1, 1, 2, 3), at(1, 3, 2, 1), at(1, 3, 2, 3), at(1, 1, 2, 1), true},
		{at(1), at(1, 0), none, none, false}, {at(1, 2, 3), at(1, 2), none, none, false}, {at(1), at(1000), none, none, false},
		{at(1), at(-1), none, none, false}, {at(1000), at(1000), none, none, false}, {at(1, 2), at(1, 16), none, none, false},
		{at(1, 2), at(1, -1), none, none, false}, {api.Stamp{Depth: 4}, api.Stamp{Depth: 4}, none, none, false},
		{api.Stamp{Depth: -1}, api.Stamp{Depth: -1}, none, none, false}, {at(7), api.Stamp{Epoch: 7, Loops: [3]int{0, 1}}, none, none, false},
		{api.Stamp{Loops: [3]int{5}}, api.Stamp{Loops: [3]int{6}}, none, none, false},
	} {
		for _, y := range [][2]api.Stamp{{x.a, x.b}, {x.b, x.a}} {
			if got, ok := stamp.Join(y[0], y[1]); got != x.join || ok != x.ok {
				t.Errorf("%d: Join(%v, %v) is %v, %t", i, y[0], y[1], got, ok)
			}
			if got, ok := stamp.Meet(y[0], y[1]); got != x.meet || ok != x.ok {
				t.Errorf("%d: Meet(%v, %v) is %v, %t", i, y[0], y[1], got, ok)
			}
		}
	}
}

func TestIntoOutAndStep(t *testing.T) {
	into, out, step := stamp.Into, stamp.Out, stamp.Step
	for i, x := range []struct {
		call func(api.Stamp) (api.Stamp, bool)
		t    api.Stamp
		want api.Stamp
		ok   bool
	}{
		{into, at(4), at(4, 0), true}, {step, at(4, 0), at(4, 1), true}, {out, at(4, 1), at(4), true}, {step, at(4, 15), none, false}, {out, at(4), none, false}, // the chapter's
		{into, at(0), at(0, 0), true}, {into, at(999, 15), at(999, 15, 0), true}, {into, at(4, 1, 2), at(4, 1, 2, 0), true}, {into, at(4, 1, 2, 3), none, false},
		{into, at(1000), none, false}, {into, at(-1), none, false}, {into, at(1, 16), none, false}, {into, at(1, -1, 2), none, false},
		{into, api.Stamp{Depth: -1}, none, false}, {into, api.Stamp{Depth: 4}, none, false}, {into, api.Stamp{Loops: [3]int{1}}, none, false},
		{into, api.Stamp{Depth: 1, Loops: [3]int{1, 2}}, none, false}, {into, api.Stamp{Depth: 1, Loops: [3]int{1, 0, 2}}, none, false},
		{out, at(4, 1, 7), at(4, 1), true}, {out, at(999, 15, 15, 15), at(999, 15, 15), true}, {out, at(0, 0), at(0), true}, {out, at(1000, 1), none, false},
		{out, at(4, 16), none, false}, {out, at(4, -1), none, false}, {out, at(4, 1, 16), none, false}, {out, at(4, 16, 1), none, false},
		{out, api.Stamp{Depth: -1}, none, false}, {out, api.Stamp{Depth: 4}, none, false}, {out, api.Stamp{Depth: 1, Loops: [3]int{1, 2}}, none, false},
		{step, at(4, 14), at(4, 15), true}, {step, at(999, 15, 0), at(999, 15, 1), true}, {step, at(4, 1, 2, 3), at(4, 1, 2, 4), true}, {step, at(4, 15, 15, 14), at(4, 15, 15, 15), true},
		{step, at(4, 0, 15), none, false}, {step, at(4, 0, 0, 15), none, false}, {step, at(4), none, false}, {step, at(4, 16), none, false}, {step, at(4, -1), none, false},
		{step, at(1000, 1), none, false}, {step, at(4, 16, 1), none, false}, {step, at(4, greatest), none, false}, {step, api.Stamp{Depth: -1}, none, false},
		{step, api.Stamp{Depth: 4}, none, false}, {step, api.Stamp{Depth: 1, Loops: [3]int{1, 0, 1}}, none, false},
	} {
		if got, ok := x.call(x.t); got != x.want || ok != x.ok {
			t.Errorf("%d: of %v: %v, %t", i, x.t, got, ok)
		}
	}
}

// TestEdges holds what is told of one time against the words, around all the bounds.
func TestEdges(t *testing.T) {
	for _, x := range edges() {
		if got := stamp.Right(x); got != rightByWords(x) {
			t.Fatalf("Right(%v) is %t", x, got)
		}
		for _, y := range []struct {
			name        string
			call, words func(api.Stamp) (api.Stamp, bool)
		}{{"Into", stamp.Into, intoByWords}, {"Out", stamp.Out, outByWords}, {"Step", stamp.Step, stepByWords}} {
			got, ok := y.call(x)
			if want, is := y.words(x); got != want || ok != is {
				t.Fatalf("%s(%v) is %v, %t, want %v, %t", y.name, x, got, ok, want, is)
			}
		}
		b, e := stamp.Put(x)
		if want, is := putByWords(x); !slices.Equal(b, want) || e != is {
			t.Fatalf("Put(%v) is %v, %d, want %v, %d", x, b, e, want, is)
		}
		if e != api.OK && b != nil {
			t.Fatalf("Put(%v) is %v beside an error", x, b)
		}
	}
}

// TestPairs holds what is told of two times against the words, by many goroutines at a time.
func TestPairs(t *testing.T) {
	for _, all := range [][]api.Stamp{
		grid([]int{-1, 0, 1, 2, 3, 4}, []int{-1, 0, 1, 999, 1000}, []int{-1, 0, 15, 16}),
		grid([]int{least, 3, greatest}, []int{least, 2, greatest}, []int{least, -1, 0, 16, greatest}),
		right(grid([]int{0, 1, 2, 3}, []int{0, 7, 999}, []int{0, 1, 2, 7, 15})),
	} {
		var group sync.WaitGroup
		for part := range slices.Chunk(all, len(all)/8+1) {
			group.Go(func() {
				for _, a := range part {
					for _, b := range all {
						if !pair(t, a, b) {
							return
						}
					}
				}
			})
		}
		group.Wait()
	}
}

func pair(t *testing.T, a, b api.Stamp) bool {
	join, joined := stamp.Join(a, b)
	meet, met := stamp.Meet(a, b)
	leq, order := stamp.Leq(a, b), stamp.Compare(a, b)
	wantJoin, wantJoined := joinByWords(a, b)
	wantMeet, wantMet := meetByWords(a, b)
	if join != wantJoin || joined != wantJoined || meet != wantMeet || met != wantMet {
		t.Errorf("of %v and %v: Join %v, %t, Meet %v, %t", a, b, join, joined, meet, met)
		return false
	}
	if leq != leqByWords(a, b) || order != compareByWords(a, b) {
		t.Errorf("of %v and %v: Leq %t, Compare %d", a, b, leq, order)
		return false
	}
	return true
}
