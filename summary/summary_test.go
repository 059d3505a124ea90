package summary_test

import (
	"math"
	"slices"
	"testing"

	"tailrace/api"
	"tailrace/summary"
)

// of is the summary of a kind at a depth where it may be.
func of(t *testing.T, kind uint8, depth int) summary.Sum {
	t.Helper()
	s, ok := summary.Of(kind, depth)
	if !ok || !summary.Right(s) {
		t.Fatalf("Of(%d, %d): %v, %t", kind, depth, s, ok)
	}
	return s
}

// then is a way that leads somewhere.
func then(t *testing.T, a, b summary.Sum) summary.Sum {
	t.Helper()
	s, ok := summary.Then(a, b)
	if !ok || !summary.Right(s) {
		t.Fatalf("Then(%v, %v): %v, %t", a, b, s, ok)
	}
	return s
}

// TestExamples are the chapter's.
func TestExamples(t *testing.T) {
	f, i, e := of(t, api.Feedback, 1), of(t, api.Ingress, 1), of(t, api.Egress, 0)
	for n, x := range []struct {
		s    summary.Sum
		a, b api.Stamp
		ok   bool
	}{{f, at(4, 2), at(4, 3), true}, {i, at(4), at(4, 0), true}, {e, at(4, 2), at(4), true}, {f, at(4, 15), api.Stamp{}, false}} {
		if b, ok := summary.Apply(x.s, x.a); b != x.b || ok != x.ok {
			t.Errorf("Apply, %d: %v, %t", n, b, ok)
		}
	}
	if s := then(t, f, f); s != sum(1, 1, 1, 2) {
		t.Errorf("Then(F, F): %v", s)
	}
	anew := then(t, e, i)
	if anew != sum(1, 1, 0, 0, 0) {
		t.Errorf("Then(E, I): %v", anew)
	}
	if !summary.Leq(anew, f) || summary.Leq(f, anew) {
		t.Errorf("Leq: %t, %t", summary.Leq(anew, f), summary.Leq(f, anew))
	}
}

func TestRight(t *testing.T) {
	for _, s := range all(0, 1, 7, 15) {
		if !summary.Right(s) || !rightByWords(s) {
			t.Errorf("%v is none", s)
		}
	}
	for i, s := range wrong() {
		if summary.Right(s) || rightByWords(s) {
			t.Errorf("%d: %v is one", i, s)
		}
	}
	numbers := []int{-1, 0, 1, 15, 16}
	for from := -1; from < 5; from++ { // all that are at a bound, or one past it, right and wrong
		for to := -1; to < 5; to++ {
			for keep := -1; keep < 5; keep++ {
				for i := range 625 {
					s := sum(from, to, keep, numbers[i%5], numbers[i/5%5], numbers[i/25%5], numbers[i/125])
					if summary.Right(s) != rightByWords(s) {
						t.Fatalf("Right(%v) is %t", s, summary.Right(s))
					}
				}
			}
		}
	}
}

// TestOf: kinds that go into loops, leave them and go round have summaries of their own, each where there is such a depth.
func TestOf(t *testing.T) {
	same := []summary.Sum{sum(0, 0, 0, 0), sum(1, 1, 1, 0), sum(2, 2, 2, 0), sum(3, 3, 3, 0)}
	var none summary.Sum
	for kind := range 256 {
		want := make([]summary.Sum, 4)
		if kind >= 1 && kind <= 10 {
			want = same
		}
		switch uint8(kind) {
		case api.Ingress:
			want = []summary.Sum{none, sum(0, 1, 0, 0), sum(1, 2, 1, 0), sum(2, 3, 2, 0)}
		case api.Egress:
			want = []summary.Sum{sum(1, 0, 0, 0), sum(2, 1, 1, 0), sum(3, 2, 2, 0), none}
		case api.Feedback:
			want = []summary.Sum{none, sum(1, 1, 1, 1), sum(2, 2, 2, 1), sum(3, 3, 3, 1)}
		}
		for depth := range 4 {
			there := kind >= 1 && kind <= 10 && (want[depth] != none || kind != 7 && kind != 8 && kind != 9 && depth == 0)
			if s, ok := summary.Of(uint8(kind), depth); s != want[depth] || ok != there {
				t.Errorf("Of(%d, %d) is %v, %t", kind, depth, s, ok)
			}
		}
		for _, depth := range []int{-1, 4, -2, 5, math.MaxInt, math.MinInt, math.MaxInt - 1, math.MinInt + 1, 256, 257, 1 << 32, 1<<32 + 1, -1 << 32} {
			if s, ok := summary.Of(uint8(kind), depth); s != none || ok {
				t.Errorf("Of(%d, %d) is %v, %t", kind, depth, s, ok)
			}
		}
	}
}

func TestApply(t *testing.T) {
	for i, x := range []struct {
		s    summary.Sum
		a, b api.Stamp
		ok   bool
	}{
		{sum(0, 0, 0, 0), at(999), at(999), true},
		{sum(1, 1, 1, 15), at(0, 0), at(0, 15), true},
		{sum(1, 1, 1, 15), at(0, 1), api.Stamp{}, false},
		{sum(3, 3, 3, 1), at(5, 15, 15, 14), at(5, 15, 15, 15), true},
		{sum(3, 3, 3, 1), at(5, 0, 0, 15), api.Stamp{}, false},
		{sum(3, 2, 1, 1, 7), at(1, 2, 3, 4), at(1, 3, 7), true},
		{sum(3, 2, 1, 1, 7), at(1, 14, 15, 15), at(1, 15, 7), true}, // what is left out may be as great as it is
		{sum(3, 2, 1, 1, 7), at(1, 15, 0, 0), api.Stamp{}, false},
		{sum(0, 3, 0, 0, 15, 0, 15), at(7), at(7, 15, 0, 15), true},
		{sum(3, 0, 0, 0), at(7, 15, 15, 15), at(7), true},
		{sum(2, 3, 2, 3, 9), at(7, 1, 2), at(7, 1, 5, 9), true},
		{sum(1, 3, 1, 0, 8, 9), at(7, 6), at(7, 6, 8, 9), true},
		{sum(1, 1, 1, 1), at(4), api.Stamp{}, false}, // of another depth
		{sum(1, 1, 1, 1), at(4, 0, 0), api.Stamp{}, false},
		{sum(0, 1, 0, 0), at(4, 0), api.Stamp{}, false},
		{sum(3, 0, 0, 0), at(4), api.Stamp{}, false},
	} {
		if b, ok := summary.Apply(x.s, x.a); b != x.b || ok != x.ok {
			t.Errorf("%d: Apply(%v, %v) is %v, %t", i, x.s, x.a, b, ok)
		}
	}
	for depth := range 4 {
		every := append(times(0, depth, 0, 1, 14, 15), times(999, depth, 0, 7, 8, 15)...)
		for _, a := range append(every, wrongTimes()...) {
			for _, s := range append(all(0, 1, 8, 15), wrong()...) {
				want, there := applyByWords(s, a)
				if b, ok := summary.Apply(s, a); b != want || ok != there {
					t.Fatalf("Apply(%v, %v) is %v, %t, want %v, %t", s, a, b, ok, want, there)
				}
			}
		}
	}
}

func TestThen(t *testing.T) {
	for i, x := range []struct {
		a, b, want summary.Sum
		ok         bool
	}{
		{sum(1, 1, 1, 7), sum(1, 1, 1, 8), sum(1, 1, 1, 15), true},
		{sum(1, 1, 1, 8), sum(1, 1, 1, 8), sum(0, 0, 0, 0), false}, // 16 together
		{sum(1, 1, 1, 15), sum(1, 1, 1, 15), sum(0, 0, 0, 0), false},
		{sum(0, 1, 0, 0, 7), sum(1, 1, 1, 8), sum(0, 1, 0, 0, 15), true}, // what is added comes to a number of a Tail
		{sum(0, 1, 0, 0, 8), sum(1, 1, 1, 8), sum(0, 0, 0, 0), false},
		{sum(1, 1, 1, 3), sum(1, 2, 1, 0, 5), sum(1, 2, 1, 3, 5), true},
		{sum(1, 2, 1, 3, 5), sum(2, 2, 2, 4), sum(1, 2, 1, 3, 9), true},
		{sum(1, 2, 1, 3, 5), sum(2, 1, 1, 4), sum(1, 1, 1, 7), true},
		{sum(1, 2, 1, 3, 5), sum(2, 2, 1, 4, 6), sum(1, 2, 1, 7, 6), true},
		{sum(2, 2, 2, 3), sum(2, 2, 1, 4, 6), sum(2, 2, 1, 4, 6), true}, // what was added to is left out
		{sum(2, 2, 2, 15), sum(2, 1, 1, 15), sum(2, 1, 1, 15), true},
		{sum(1, 1, 1, 15), sum(1, 0, 0, 0), sum(1, 0, 0, 0), true},
		{sum(1, 3, 0, 0, 1, 2, 3), sum(3, 3, 3, 4), sum(1, 3, 0, 0, 1, 2, 7), true},
		{sum(1, 3, 0, 0, 1, 2, 3), sum(3, 3, 2, 4, 5), sum(1, 3, 0, 0, 1, 6, 5), true},
		{sum(1, 3, 0, 0, 1, 2, 3), sum(3, 3, 1, 4, 5, 6), sum(1, 3, 0, 0, 5, 5, 6), true},
		{sum(1, 3, 0, 0, 1, 2, 3), sum(3, 3, 0, 0, 5, 6, 7), sum(1, 3, 0, 0, 5, 6, 7), true},
		{sum(0, 0, 0, 0), sum(0, 0, 0, 0), sum(0, 0, 0, 0), true},
		{sum(0, 1, 0, 0), sum(0, 1, 0, 0), sum(0, 0, 0, 0), false}, // the one doesn't lead to where the other begins
		{sum(1, 1, 1, 0), sum(2, 2, 2, 0), sum(0, 0, 0, 0), false},
	} {
		if s, ok := summary.Then(x.a, x.b); s != x.want || ok != x.ok {
			t.Errorf("%d: Then(%v, %v) is %v, %t", i, x.a, x.b, s, ok)
		}
	}
	every := append(all(0, 1, 8, 15), wrong()...)
	for _, a := range every {
		for _, b := range every {
			want, there := thenByWords(a, b)
			if s, ok := summary.Then(a, b); s != want || ok != there {
				t.Fatalf("Then(%v, %v) is %v, %t, want %v, %t", a, b, s, ok, want, there)
			}
		}
	}
}

// TestRounds goes round as often as there are counters.
func TestRounds(t *testing.T) {
	for depth := 1; depth < 4; depth++ {
		f := of(t, api.Feedback, depth)
		s := f
		for n := 2; n < 16; n++ {
			s = then(t, s, f)
			if s != sum(depth, depth, depth, n) {
				t.Errorf("depth %d: %d times is %v", depth, n, s)
			}
		}
		if s, ok := summary.Then(s, f); s != (summary.Sum{}) || ok {
			t.Errorf("depth %d: once more is %v, %t", depth, s, ok)
		}
	}
}

func TestLeq(t *testing.T) {
	for i, x := range []struct {
		a, b summary.Sum
		want bool
	}{
		{sum(1, 1, 1, 3), sum(1, 1, 1, 3), true}, {sum(1, 1, 1, 3), sum(1, 1, 1, 4), true}, {sum(1, 1, 1, 4), sum(1, 1, 1, 3), false},
		{sum(1, 1, 0, 0, 3), sum(1, 1, 1, 3), true}, {sum(1, 1, 0, 0, 4), sum(1, 1, 1, 3), false}, {sum(1, 1, 1, 0), sum(1, 1, 0, 0, 15), false}, // that keeps a counter may have a great one
		{sum(2, 2, 1, 0), sum(2, 2, 2, 0), true}, {sum(2, 2, 1, 1), sum(2, 2, 2, 15), false}, // where the other one keeps, it adds nothing but to the last
		{sum(2, 2, 1, 0, 15), sum(2, 2, 2, 15), true}, {sum(2, 2, 1, 0, 15), sum(2, 2, 2, 14), false},
		{sum(3, 3, 0, 0, 0, 0, 7), sum(3, 3, 3, 7), true}, {sum(3, 3, 0, 0, 0, 1, 0), sum(3, 3, 3, 7), false}, {sum(3, 3, 0, 0, 1, 0, 0), sum(3, 3, 3, 7), false},
		{sum(3, 3, 0, 0, 2, 3, 4), sum(3, 3, 1, 2, 3, 4), true}, {sum(3, 3, 0, 0, 3, 3, 4), sum(3, 3, 1, 2, 3, 4), false}, {sum(3, 3, 0, 0, 2, 4, 4), sum(3, 3, 1, 2, 3, 4), false}, {sum(3, 3, 0, 0, 2, 3, 5), sum(3, 3, 1, 2, 3, 4), false},
		{sum(3, 3, 1, 0, 2, 4), sum(3, 3, 2, 2, 4), true}, {sum(3, 3, 1, 0, 2, 4), sum(3, 3, 2, 2, 3), false}, {sum(3, 3, 1, 0, 2, 4), sum(3, 3, 2, 1, 4), false},
		{sum(1, 1, 0, 0), sum(2, 1, 0, 0), false}, {sum(2, 1, 0, 0), sum(1, 1, 0, 0), false}, {sum(1, 0, 0, 0), sum(1, 1, 0, 0), false}, {sum(1, 1, 0, 0), sum(1, 0, 0, 0), false}, // of other depths
		{sum(0, 2, 0, 0, 1, 2), sum(0, 2, 0, 0, 2, 1), false}, {sum(0, 2, 0, 0, 2, 1), sum(0, 2, 0, 0, 1, 2), false}, // beside each other
	} {
		if got := summary.Leq(x.a, x.b); got != x.want {
			t.Errorf("%d: Leq(%v, %v) is %t", i, x.a, x.b, got)
		}
	}
	every := append(all(0, 1, 8, 15), wrong()...)
	for _, a := range every {
		for _, b := range every {
			if got, want := summary.Leq(a, b), leqByWords(a, b); got != want {
				t.Fatalf("Leq(%v, %v) is %t", a, b, got)
			}
		}
	}
}

func TestLeast(t *testing.T) {
	f, anew := sum(1, 1, 1, 1), sum(1, 1, 0, 0)
	for i, x := range []struct{ l, want []summary.Sum }{
		{nil, nil}, {list(), nil}, {wrong(), nil}, {list(f), list(f)}, {list(f, f, f), list(f)}, {list(f, anew), list(anew)}, {list(anew, f), list(anew)},
		{list(anew, f, anew, sum(-1, 1, 0, 0), sum(1, 1, 1, 0)), list(anew)},
		{list(sum(1, 1, 0, 0, 2), f, sum(0, 1, 0, 0)), list(sum(0, 1, 0, 0), sum(1, 1, 0, 0, 2), f)},
		{list(sum(1, 1, 1, 5), sum(1, 1, 1, 3), sum(1, 1, 1, 4)), list(sum(1, 1, 1, 3))},
		{list(sum(3, 3, 3, 3), sum(3, 3, 2, 1, 2), sum(3, 3, 1, 0, 2, 1)), list(sum(3, 3, 1, 0, 2, 1), sum(3, 3, 2, 1, 2), sum(3, 3, 3, 3))},
		{list(sum(3, 3, 3, 3), sum(3, 3, 2, 1, 2), sum(3, 3, 1, 0, 1, 2)), list(sum(3, 3, 1, 0, 1, 2), sum(3, 3, 3, 3))},
		{list(sum(3, 3, 3, 3), sum(3, 3, 2, 0, 3), sum(3, 3, 1, 0, 0, 3), sum(3, 3, 0, 0, 0, 0, 3)), list(sum(3, 3, 0, 0, 0, 0, 3))},
		{list(sum(0, 3, 0, 0, 2, 1, 0), sum(0, 3, 0, 0, 1, 2, 0), sum(0, 3, 0, 0, 1, 0, 2), sum(0, 3, 0, 0, 1, 1, 1), sum(0, 3, 0, 0, 0, 3, 0), sum(0, 3, 0, 0, 2, 1, 1)),
			list(sum(0, 3, 0, 0, 0, 3, 0), sum(0, 3, 0, 0, 1, 0, 2), sum(0, 3, 0, 0, 1, 1, 1), sum(0, 3, 0, 0, 1, 2, 0), sum(0, 3, 0, 0, 2, 1, 0))},
		{list(sum(3, 3, 2, 1, 4), sum(3, 3, 2, 2, 3), sum(3, 3, 2, 0, 5), sum(3, 3, 2, 1, 3)), list(sum(3, 3, 2, 0, 5), sum(3, 3, 2, 1, 3))},
		{list(sum(2, 0, 0, 0), sum(1, 2, 0, 0), sum(1, 0, 0, 0), sum(0, 3, 0, 0), sum(3, 0, 0, 0), sum(0, 0, 0, 0)),
			list(sum(0, 0, 0, 0), sum(0, 3, 0, 0), sum(1, 0, 0, 0), sum(1, 2, 0, 0), sum(2, 0, 0, 0), sum(3, 0, 0, 0))},
		{list(sum(1, 1, 1, 1<<63-1), sum(1, 1, 1, -1), sum(1, 1, 1, 2)), list(sum(1, 1, 1, 2))}, // what is not right is ahead of nothing
	} {
		if got := summary.Least(x.l); !slices.Equal(got, x.want) {
			t.Errorf("%d: Least(%v) is %v", i, x.l, got)
		}
	}
}

// TestLeastOfMany holds Least against its words, for lists of many lengths, right and wrong ones among each other.
func TestLeastOfMany(t *testing.T) {
	from := append(append(all(0, 1, 2), all(13, 14, 0)...), wrong()...)
	seed := uint32(1)
	next := func(n int) int {
		seed = seed*1664525 + 1013904223
		return int(seed>>8) % n
	}
	for n := range 400 {
		var l []summary.Sum
		for range n {
			l = append(l, from[next(len(from))])
		}
		if n%2 == 1 { // all of two depths, so that more stand in the order
			for i := range l {
				l[i].From, l[i].To = 3, 3
			}
		}
		want := leastByWords(l)
		if got := summary.Least(l); !slices.Equal(got, want) {
			t.Fatalf("Least(%v) is %v, want %v", l, got, want)
		}
		slices.Reverse(l)
		if got := summary.Least(append(l, l...)); !slices.Equal(got, want) {
			t.Fatalf("Least(%v), twice, is %v, want %v", l, got, want)
		}
	}
}

// TestLeastOfAll: of all summaries that may be, the first ones of each two depths keep nothing, and put noughts.
func TestLeastOfAll(t *testing.T) {
	every := all(15, 14, 13, 12, 11, 10, 9, 8, 7, 6, 5, 4, 3, 2, 1, 0)
	var want, high []summary.Sum
	for i := range 16 {
		want = append(want, sum(i/4, i%4, 0, 0))
	}
	if got := summary.Least(every); !slices.Equal(got, want) {
		t.Errorf("of all %d: %v", len(every), got)
	}
	for _, s := range every { // those of greater numbers, very many times: many stay
		if s.Tail[0]+s.Tail[1]+s.Tail[2]+s.Add >= 22 {
			high = append(high, s)
		}
	}
	once := summary.Least(high)
	for range 5 {
		high = append(high, high...)
	}
	if got := summary.Least(high); !slices.Equal(got, once) || len(got) < 500 {
		t.Errorf("of %d: %d, of those once: %d", len(high), len(got), len(once))
	}
	for i, s := range once {
		if s.Tail[0]+s.Tail[1]+s.Tail[2]+s.Add != 22 && s.Keep == 0 || i > 0 && numbersByWords(once[i-1], s) >= 0 {
			t.Errorf("%v stayed", s)
		}
	}
}

// TestOnlyRead: what is handed in stays as it is, behind a list's length too, and what is answered is new memory.
func TestOnlyRead(t *testing.T) {
	memory := list(sum(1, 1, 1, 1), sum(1, 1, 0, 0, 3), sum(-1, 0, 0, 0), sum(1, 1, 1, 0), sum(1, 1, 0, 0, 3), sum(0, 0, 0, 0), sum(9, 9, 9, 9))
	was := slices.Clone(memory)
	l := memory[:5]
	got := summary.Least(l)
	again := summary.Least(l)
	want := list(sum(1, 1, 0, 0, 3), sum(1, 1, 1, 0))
	if !slices.Equal(memory, was) || !slices.Equal(got, want) {
		t.Errorf("%v, of %v", got, memory)
	}
	for i := range got[:cap(got)] {
		got[:cap(got)][i] = sum(7, 7, 7, 7)
	}
	if !slices.Equal(memory, was) || !slices.Equal(again, want) || !slices.Equal(summary.Least(l), want) {
		t.Errorf("%v, of %v", again, memory)
	}
	one := list(sum(2, 2, 2, 0))
	summary.Least(one)[0].Add = 5
	if one[0] != sum(2, 2, 2, 0) {
		t.Errorf("of one: %v", one)
	}
}
