package antichain_test

import (
	"slices"
	"testing"

	"tailrace/antichain"
	"tailrace/api"
	"tailrace/stamp"
)

var (
	one  = list(at(1, 2))
	two  = list(at(2, 1))
	far  = list(at(2, 2))
	bent = list(at(1, 2), at(2, 1))
)

// noFrontiers are times, all right, that are no frontier.
func noFrontiers() [][]api.Stamp {
	return [][]api.Stamp{
		list(at(2, 1), at(1, 2)), // not rising
		list(at(1, 2), at(1, 2)), // one twice
		list(at(1, 2), at(2, 2)), // the first ahead of the second
		list(at(1, 2), at(1, 1)), // and the other way round
		list(at(1), at(2)),       // the same without counters
		list(at(2), at(1)),
		list(at(1), at(1, 0)), // of two depths
		list(at(1, 2), at(2, 1, 0)),
		list(at(2, 1, 0), at(1, 2)),
		list(at(1, 5), at(2, 4), at(3, 5)),                   // each ahead of the last
		list(at(1, 5), at(2, 4), at(3, 4)),                   // the second ahead of the last
		list(at(1, 5), at(3, 3), at(2, 4)),                   // the last ones not rising
		list(at(1, 5), at(2, 4), at(2, 4)),                   // the last one twice
		list(at(1, 5), at(2, 4), at(3, 3, 0)),                // the last one deeper
		list(at(0, 1, 2, 3), at(0, 2, 1, 3), at(1, 2, 2, 3)), // three loops
	}
}

func TestRight(t *testing.T) {
	for i, f := range [][]api.Stamp{
		nil, {}, one, two, bent, list(at(0)), list(at(999)), list(at(999, 15, 15, 15)), list(at(0, 0), at(0, 0))[:1],
		list(at(0, 15), at(500, 7), at(999, 0)), list(at(3, 0, 1), at(3, 1, 0)), list(at(3, 0, 0, 1), at(3, 0, 1, 0), at(3, 1, 0, 0)),
	} {
		if !antichain.Right(f) || !rightByWords(f) {
			t.Errorf("%d: %v is none", i, f)
		}
	}
	for i, f := range noFrontiers() {
		if antichain.Right(f) || rightByWords(f) {
			t.Errorf("%d: %v is one", i, f)
		}
	}
	for _, w := range wrong() {
		for i, f := range [][]api.Stamp{{w}, {w, at(1, 2)}, {at(1, 2), w}, {at(1, 2), w, at(2, 1)}, {at(1, 2), at(2, 1), w}, {w, at(1, 2), at(2, 1)}} {
			if antichain.Right(f) || rightByWords(f) {
				t.Errorf("%d: %v is one", i, f)
			}
		}
	}
}

func TestOf(t *testing.T) {
	for i, x := range []struct{ times, want []api.Stamp }{
		{list(at(1, 2), at(2, 1), at(2, 2), at(1, 2)), bent}, // the chapter's
		{nil, nil}, {list(), nil}, {one, one}, {bent, bent}, {list(at(2, 1), at(1, 2)), bent}, {list(at(999), at(999)), list(at(999))},
		{list(at(5), at(3), at(4), at(3)), list(at(3))}, {list(at(0, 15), at(0, 0)), list(at(0, 0))}, {list(at(0, 0), at(0, 15)), list(at(0, 0))},
		{list(at(3, 1), at(2, 1), at(3, 0), at(2, 0)), list(at(2, 0))}, {list(at(3, 0), at(2, 1), at(2, 2), at(1, 15)), list(at(1, 15), at(2, 1), at(3, 0))},
		{list(at(9, 1, 0), at(9, 0, 1), at(9, 1, 1)), list(at(9, 0, 1), at(9, 1, 0))},
		{list(at(0, 3, 3, 3), at(1, 3, 3, 2), at(1, 3, 3, 3), at(999, 2, 15, 15), at(999, 3, 0, 0), at(5, 3, 2, 3)), list(at(0, 3, 3, 3), at(1, 3, 3, 2), at(5, 3, 2, 3), at(999, 2, 15, 15), at(999, 3, 0, 0))},
	} {
		if f, e := antichain.Of(x.times...); !slices.Equal(f, x.want) || e != api.OK {
			t.Errorf("%d: Of(%v) is %v, %d", i, x.times, f, e)
		}
	}
	for i, x := range [][]api.Stamp{
		list(at(1), at(1, 0)), list(at(1, 0), at(1)), list(at(1, 0), at(2, 0), at(1, 0, 0)), list(at(1, 0, 0, 0), at(2, 0, 0), at(1, 0, 0, 0)), list(at(1, 0), at(1, 0), at(5)),
	} {
		if f, e := antichain.Of(x...); f != nil || e != 50 {
			t.Errorf("of two depths, %d: %v, %d", i, f, e)
		}
	}
	for _, w := range wrong() {
		for i, x := range [][]api.Stamp{{w}, {w, w}, {w, at(1, 2)}, {at(0, 0), w}, {at(0), w, at(0)}} {
			if f, e := antichain.Of(x...); f != nil || e != 50 {
				t.Errorf("%d: Of(%v) is %v, %d", i, x, f, e)
			}
		}
	}
}

func TestHolds(t *testing.T) {
	for i, x := range []struct {
		f    []api.Stamp
		t    api.Stamp
		want bool
	}{
		{bent, at(1, 1), true}, {bent, at(1, 2), false}, {bent, at(2, 0), true}, {bent, at(3, 3), false}, // the chapter's
		{bent, at(2, 1), false}, {bent, at(2, 2), false}, {bent, at(0, 15), true}, {bent, at(999, 0), true}, {bent, at(999, 1), false}, {bent, at(1, 15), false},
		{bent, at(1), false}, {bent, at(0, 0, 0), false}, {bent, at(1000, 0), false}, {bent, at(0, -1), false}, {bent, at(-1, 0), false},
		{nil, at(0), true}, {nil, at(999, 15, 15, 15), true}, {nil, at(5, 1), true}, {list(), at(5), true}, {list(), at(1000), false}, {nil, api.Stamp{Depth: 4}, false},
		{list(at(3)), at(2), true}, {list(at(3)), at(3), false}, {list(at(3)), at(4), false}, {list(at(3)), at(2, 0), false}, {list(at(0)), at(0), false},
		{list(at(3)), api.Stamp{Epoch: 2, Loops: [3]int{1}}, false},
	} {
		if got := antichain.Holds(x.f, x.t); got != x.want || holdsByWords(x.f, x.t) != x.want {
			t.Errorf("%d: Holds(%v, %v) is %t", i, x.f, x.t, got)
		}
	}
	for i, f := range noFrontiers() {
		for _, x := range list(at(0), at(0, 0), at(0, 0, 0), at(0, 0, 0, 0)) {
			if antichain.Holds(f, x) {
				t.Errorf("%d: %v, which is no frontier, holds %v", i, f, x)
			}
		}
	}
	for _, w := range wrong() {
		for i, f := range [][]api.Stamp{nil, bent, {w}, {at(0), w}} {
			if antichain.Holds(f, w) {
				t.Errorf("%d: %v holds %v", i, f, w)
			}
		}
		if antichain.Holds(list(w), at(0)) || antichain.Holds(list(at(1, 5), w), at(0, 0)) {
			t.Errorf("times with %v hold others", w)
		}
	}
}

func TestWithin(t *testing.T) {
	for i, x := range []struct {
		a, b []api.Stamp
		want bool
	}{
		{bent, far, true}, {far, bent, false}, // the chapter's
		{bent, bent, true}, {one, two, false}, {two, one, false}, {bent, one, true}, {bent, two, true}, {one, bent, false}, {two, bent, false},
		{bent, nil, true}, {nil, bent, false}, {nil, nil, true}, {list(), nil, true}, {nil, list(), true}, {list(at(0)), nil, true}, {nil, list(at(0)), false},
		{list(at(3)), list(at(4)), true}, {list(at(4)), list(at(3)), false}, {list(at(0)), list(at(999)), true},
		{list(at(1)), list(at(1, 0)), false}, {list(at(1, 0)), list(at(1)), false}, {bent, list(at(9)), false},
	} {
		if got := antichain.Within(x.a, x.b); got != x.want {
			t.Errorf("%d: Within(%v, %v) is %t", i, x.a, x.b, got)
		}
	}
}

func TestBothAndEither(t *testing.T) {
	for i, x := range []struct{ a, b, both, either []api.Stamp }{
		{one, two, bent, far}, {one, nil, one, nil}, // the chapter's
		{bent, far, bent, far}, {bent, bent, bent, bent}, {bent, one, bent, one}, {nil, nil, nil, nil}, {list(), bent, bent, nil},
		{list(at(3)), list(at(7)), list(at(3)), list(at(7))}, {list(at(0, 15)), list(at(999, 0)), list(at(0, 15), at(999, 0)), list(at(999, 15))},
		{list(at(1, 9), at(5, 5), at(9, 1)), list(at(3, 7), at(7, 3)), list(at(1, 9), at(3, 7), at(5, 5), at(7, 3), at(9, 1)), list(at(3, 9), at(5, 7), at(7, 5), at(9, 3))},
		{list(at(4, 1, 2), at(4, 2, 1)), list(at(4, 0, 3), at(5, 0, 0)), list(at(4, 0, 3), at(4, 1, 2), at(4, 2, 1), at(5, 0, 0)), list(at(4, 1, 3), at(5, 1, 2), at(5, 2, 1))},
	} {
		for _, y := range [][2][]api.Stamp{{x.a, x.b}, {x.b, x.a}} {
			if f, e := antichain.Both(y[0], y[1]); !slices.Equal(f, x.both) || e != api.OK {
				t.Errorf("%d: Both(%v, %v) is %v, %d", i, y[0], y[1], f, e)
			}
			if f, e := antichain.Either(y[0], y[1]); !slices.Equal(f, x.either) || e != api.OK {
				t.Errorf("%d: Either(%v, %v) is %v, %d", i, y[0], y[1], f, e)
			}
		}
	}
}

// TestTogether: what is no frontier, or is of another depth, goes together with nothing.
func TestTogether(t *testing.T) {
	bad := noFrontiers()
	for _, w := range wrong() {
		bad = append(bad, list(w), list(at(1, 2), w))
	}
	type pair struct{ a, b []api.Stamp }
	pairs := []pair{{bent, list(at(1))}, {list(at(1)), bent}, {bent, list(at(1, 0, 0))}, {list(at(1, 0, 0, 0)), list(at(1, 0, 0))}}
	for _, x := range bad {
		for _, y := range append(bad, nil, list(), one, bent, list(at(0)), list(at(1, 2, 3))) {
			pairs = append(pairs, pair{x, y}, pair{y, x})
		}
	}
	for _, x := range pairs {
		if antichain.Within(x.a, x.b) {
			t.Errorf("Within(%v, %v)", x.a, x.b)
		}
		if f, e := antichain.Both(x.a, x.b); f != nil || e != 50 {
			t.Errorf("Both(%v, %v) is %v, %d", x.a, x.b, f, e)
		}
		if f, e := antichain.Either(x.a, x.b); f != nil || e != 50 {
			t.Errorf("Either(%v, %v) is %v, %d", x.a, x.b, f, e)
		}
	}
}

// TestSame: time by time, whether they are frontiers or not.
func TestSame(t *testing.T) {
	other := list(at(1, 2), at(2, 1), at(1), at(2, 2), at(1, 3), at(1, 2, 0), api.Stamp{Depth: 1, Epoch: 1, Loops: [3]int{2, 1}}, api.Stamp{Depth: 1, Epoch: 1, Loops: [3]int{2, 0, 1}}, at(1000), api.Stamp{Depth: 4})
	lists := [][]api.Stamp{nil, {}}
	for _, a := range other {
		lists = append(lists, list(a))
		for _, b := range other {
			lists = append(lists, list(a, b), list(at(0), a, b), list(a, b, at(0)))
		}
	}
	for _, a := range lists {
		for _, b := range lists {
			if got := antichain.Same(a, slices.Clone(b)); got != sameByWords(a, b) {
				t.Fatalf("Same(%v, %v) is %t", a, b, got)
			}
		}
	}
}

// TestAllLists holds what is told of any few times, right or not, against the words.
func TestAllLists(t *testing.T) {
	some := append(wrong(), at(0), at(1), at(1, 2), at(2, 1), at(2, 2), at(1, 2, 0))
	lists := [][]api.Stamp{nil}
	for i := 0; i < len(lists); i++ {
		if f := lists[i]; len(f) < 3 {
			for _, x := range some {
				lists = append(lists, append(slices.Clone(f), x))
			}
		}
	}
	for _, w := range worlds() {
		lists = append(lists, listsOf(w.all[:min(len(w.all), 12)])...)
	}
	for _, f := range lists {
		if !answers(t, f) {
			return
		}
		back := slices.Clone(f)
		slices.Reverse(back)
		if !answers(t, append(back, f...)) {
			return
		}
	}
}

// answers: are Right and Of what they should be?
func answers(t *testing.T, f []api.Stamp) bool {
	t.Helper()
	got, e := antichain.Of(f...)
	want, is := ofByWords(f)
	if !slices.Equal(got, want) || e != is || e != api.OK && got != nil {
		t.Errorf("Of(%v) is %v, %d", f, got, e)
		return false
	}
	if right := antichain.Right(f); right != rightByWords(f) || e == api.OK && !antichain.Right(got) {
		t.Errorf("Right(%v) is %t, of %v %t", f, right, got, antichain.Right(got))
		return false
	}
	return true
}

// TestAllFrontiers holds what is told of any two frontiers against the words.
func TestAllFrontiers(t *testing.T) {
	for _, w := range worlds() {
		for _, a := range w.frontiers {
			for _, x := range w.all {
				if antichain.Holds(a, x) != isIn(a, x) {
					t.Fatalf("Holds(%v, %v) is %t", a, x, !isIn(a, x))
				}
			}
			for _, b := range w.frontiers {
				if !pairAnswers(t, w.all, a, b) {
					return
				}
			}
		}
	}
}

func pairAnswers(t *testing.T, all, a, b []api.Stamp) bool {
	t.Helper()
	if got := antichain.Within(a, b); got != withinByWords(all, a, b) {
		t.Errorf("Within(%v, %v) is %t", a, b, got)
		return false
	}
	both, e := antichain.Both(a, b)
	if want, is := bothByWords(all, a, b); !slices.Equal(both, want) || e != is {
		t.Errorf("Both(%v, %v) is %v, %d, want %v", a, b, both, e, want)
		return false
	}
	either, e := antichain.Either(a, b)
	if want, is := eitherByWords(all, a, b); !slices.Equal(either, want) || e != is {
		t.Errorf("Either(%v, %v) is %v, %d, want %v", a, b, either, e, want)
		return false
	}
	return true
}

// TestAllTimes asks of each time of a depth whether it is in some frontiers, both of two, and one of them.
func TestAllTimes(t *testing.T) {
	var epochs, counters []int
	for i := range 1000 {
		epochs = append(epochs, i)
	}
	for i := range 16 {
		counters = append(counters, i)
	}
	for i, x := range []struct{ all, a, b []api.Stamp }{
		{grid(epochs), list(at(0)), list(at(999))}, {grid(epochs), list(at(7)), nil},
		{grid(epochs, counters), list(at(0, 15), at(5, 9), at(999, 0)), list(at(3, 10), at(700, 2))},
		{grid(epochs[990:], counters, counters), list(at(991, 3, 12), at(993, 4, 4), at(994, 2, 9)), list(at(992, 0, 15), at(992, 5, 2), at(999, 0, 0))},
		{grid(epochs[:4], counters, counters, counters), list(at(0, 1, 2, 3), at(1, 1, 1, 1), at(2, 3, 0, 2)), list(at(0, 2, 2, 2), at(3, 0, 0, 15))},
	} {
		both, e := antichain.Both(x.a, x.b)
		either, is := antichain.Either(x.a, x.b)
		if e != api.OK || is != api.OK {
			t.Fatalf("%d: %d, %d", i, e, is)
		}
		for _, s := range x.all {
			a, b := antichain.Holds(x.a, s), antichain.Holds(x.b, s)
			if a != isIn(x.a, s) || b != isIn(x.b, s) || antichain.Holds(both, s) != (a && b) || antichain.Holds(either, s) != (a || b) {
				t.Fatalf("%d: %v is not where it should be", i, s)
			}
		}
	}
}

// steep are times of depth 3, one for each of some counters, none of which is ahead of another one: the deeper, the earlier.
func steep(stays func(i int) bool) []api.Stamp {
	var made []api.Stamp
	for i := range 4096 {
		if a, b, c := i/256, i/16%16, i%16; stays(i) {
			made = append(made, at(999-22*(a+b+c), a, b, c))
		}
	}
	return made
}

// firstOut is, of any counters, the first epoch that is not in a frontier of depth 3.
func firstOut(f []api.Stamp) (out [16][16][16]int) {
	for i := range 4096 {
		a, b, c := i/256, i/16%16, i%16
		epoch := 1000
		for _, t := range f {
			if t.Loops[0] <= a && t.Loops[1] <= b && t.Loops[2] <= c {
				epoch = min(epoch, t.Epoch)
			}
		}
		out[a][b][c] = epoch
	}
	return out
}

// eitherOfGreat is the frontier of what is in one of two of depth 3: of each counters the later first epoch, where that is no later one with a counter less.
func eitherOfGreat(f, g []api.Stamp) []api.Stamp {
	m, n := firstOut(f), firstOut(g)
	later := func(a, b, c int) int {
		if a < 0 || b < 0 || c < 0 {
			return 1000
		}
		return max(m[a][b][c], n[a][b][c])
	}
	var made []api.Stamp
	for i := range 4096 {
		a, b, c := i/256, i/16%16, i%16
		if epoch := later(a, b, c); epoch < min(later(a-1, b, c), later(a, b-1, c), later(a, b, c-1)) {
			made = append(made, at(epoch, a, b, c))
		}
	}
	slices.SortFunc(made, stamp.Compare)
	return made
}

// TestGreatest goes through frontiers as great as there are, and through very many times.
func TestGreatest(t *testing.T) {
	times := steep(func(int) bool { return true })
	var many []api.Stamp
	for _, x := range times {
		for epoch := 999; epoch >= x.Epoch; epoch -= 3 {
			many = append(many, x, at(epoch, x.Loops[0], x.Loops[1], x.Loops[2]))
		}
	}
	whole, e := antichain.Of(many...)
	slices.SortFunc(times, stamp.Compare)
	if !slices.Equal(whole, times) || e != api.OK || !antichain.Right(whole) {
		t.Fatalf("of %d: %d times, %d", len(many), len(whole), e)
	}
	a, _ := antichain.Of(steep(func(i int) bool { return i%7 < 3 })...)
	b, _ := antichain.Of(steep(func(i int) bool { return i%7 > 2 })...)
	if both, e := antichain.Both(a, b); !slices.Equal(both, whole) || e != api.OK {
		t.Errorf("Both: %d times, %d", len(both), e)
	}
	either, e := antichain.Either(a, b)
	if !slices.Equal(either, eitherOfGreat(a, b)) || e != api.OK {
		t.Errorf("Either: %d times, %d", len(either), e)
	}
	if !antichain.Within(a, either) || !antichain.Within(whole, b) || antichain.Within(a, whole) || antichain.Within(a, b) {
		t.Error("the greatest are not within each other as they should be")
	}
}

// TestMemory: nothing that is handed in is changed, what lies behind its length included, and answers share nothing with it nor with each other.
func TestMemory(t *testing.T) {
	room := func(times ...api.Stamp) []api.Stamp { return append(times, at(7), at(8), at(9))[:len(times)] }
	for i, x := range [][2][]api.Stamp{
		{room(bent...), room(far...)}, {room(far...), room(bent...)}, {room(one...), room(two...)}, {room(bent...), room(bent...)},
		{room(bent...), room()}, {room(), room(bent...)}, {room(), nil}, {room(at(5), at(3), at(5)), room(at(2))}, {room(at(2, 1), at(1, 2), at(1, 5)), room(one...)},
		{room(bent...), room(at(1))}, {room(at(1000)), room(bent...)}, {room(at(1, 2, 3), at(1)), room(at(1))},
	} {
		a, b := x[0], x[1]
		wasA, wasB := slices.Clone(a[:cap(a)]), slices.Clone(b[:cap(b)])
		calls := []func() []api.Stamp{
			func() []api.Stamp { f, _ := antichain.Of(a...); return f },
			func() []api.Stamp { f, _ := antichain.Both(a, b); return f },
			func() []api.Stamp { f, _ := antichain.Either(a, b); return f },
		}
		antichain.Right(a)
		antichain.Within(a, b)
		antichain.Same(a, b)
		antichain.Holds(a, at(1, 1))
		for j, call := range calls {
			first, again := call(), call()
			was := slices.Clone(again)
			for k := range first[:cap(first)] {
				first[:cap(first)][k] = at(777, 7)
			}
			if !slices.Equal(again, was) || !slices.Equal(call(), was) {
				t.Errorf("%d, %d: who spoils an answer spoils others", i, j)
			}
		}
		if !slices.Equal(a[:cap(a)], wasA) || !slices.Equal(b[:cap(b)], wasB) {
			t.Errorf("%d: %v and %v are %v and %v now", i, wasA, wasB, a[:cap(a)], b[:cap(b)])
		}
	}
}
