package summary_test

import (
	"slices"
	"testing"

	"tailrace/api"
	"tailrace/stamp"
	"tailrace/summary"
)

// TestAsBoth: a way put together makes of each time what the second makes of what the first makes of it, and is there wherever both make something of any time.
func TestAsBoth(t *testing.T) {
	every := all(0, 1, 9, 15)
	for _, a := range every {
		for _, b := range every {
			if a.To != b.From {
				continue
			}
			both, there := summary.Then(a, b)
			for _, x := range times(6, a.From, 0, 5, 15) {
				mid, ok := summary.Apply(a, x)
				if !ok {
					continue
				}
				end, ok := summary.Apply(b, mid)
				if got, is := summary.Apply(both, x); there && (got != end || is != ok) || ok && !there {
					t.Fatalf("%v and %v, of %v: %v, %t, want %v, %t", a, b, x, got, is, end, ok)
				}
			}
		}
	}
}

// TestLeftOut: a counter that the first way makes too great, and the second one leaves out, is not asked of the way put together (P8.4 tells of its own numbers alone).
func TestLeftOut(t *testing.T) {
	f, e := of(t, api.Feedback, 1), of(t, api.Egress, 0)
	s := then(t, f, e)
	if s != e {
		t.Errorf("%v", s)
	}
	if x, ok := summary.Apply(s, at(4, 15)); x != at(4) || !ok {
		t.Errorf("of 4.15: %v, %t", x, ok)
	}
	if s, ok := summary.Then(sum(1, 1, 1, 15), f); ok {
		t.Errorf("16 times round: %v", s)
	}
	if s := then(t, sum(1, 1, 1, 15), then(t, f, e)); s != e {
		t.Errorf("16 times round, and left: %v", s)
	}
}

// TestAnyThree: Then is the same, however three are put together, as far as the first two come to something.
func TestAnyThree(t *testing.T) {
	every := all(0, 1, 15)
	for _, a := range every {
		for _, b := range every {
			first, there := summary.Then(a, b)
			if !there {
				continue
			}
			for _, c := range every {
				left, ok := summary.Then(first, c)
				var right summary.Sum
				last, is := summary.Then(b, c)
				if is {
					right, is = summary.Then(a, last)
				}
				if left != right || ok != is {
					t.Fatalf("%v, %v, %v: %v, %t, and %v, %t", a, b, c, left, ok, right, is)
				}
			}
		}
	}
}

// TestUnchanged: a node of the other kinds changes nothing, neither times nor summaries.
func TestUnchanged(t *testing.T) {
	for _, kind := range []uint8{api.Input, api.Map, api.Filter, api.Union, api.Reduce, api.Join, api.Output} {
		for depth := range 4 {
			same := of(t, kind, depth)
			for _, x := range times(999, depth, 0, 1, 7, 15) {
				if got, ok := summary.Apply(same, x); got != x || !ok {
					t.Errorf("kind %d: of %v: %v, %t", kind, x, got, ok)
				}
			}
			for _, s := range all(0, 1, 8, 15) {
				if s.From == depth && then(t, same, s) != s || s.To == depth && then(t, s, same) != s {
					t.Errorf("kind %d: with %v it is another one", kind, s)
				}
			}
		}
	}
}

// TestInAndOut: what goes into a loop, and leaves it, is as it was.
func TestInAndOut(t *testing.T) {
	for depth := range 3 {
		if s := then(t, of(t, api.Ingress, depth+1), of(t, api.Egress, depth)); s != of(t, api.Map, depth) {
			t.Errorf("depth %d: %v", depth, s)
		}
	}
}

// TestAsStamp: what the kinds make of times is what stamp's calls make of them.
func TestAsStamp(t *testing.T) {
	for depth := range 4 {
		for _, x := range times(500, depth, 0, 1, 14, 15) {
			for _, k := range []struct {
				kind  uint8
				depth int
				call  func(api.Stamp) (api.Stamp, bool)
			}{{api.Ingress, depth + 1, stamp.Into}, {api.Egress, depth - 1, stamp.Out}, {api.Feedback, depth, stamp.Step}} {
				want, there := k.call(x)
				s, ok := summary.Of(k.kind, k.depth)
				if got, is := summary.Apply(s, x); ok && (got != want || is != there) || !ok && there {
					t.Errorf("kind %d, of %v: %v, %t", k.kind, x, got, is)
				}
			}
		}
	}
}

// ofDepths are those of l from a depth to a depth.
func ofDepths(l []summary.Sum, from, to int) []summary.Sum {
	return slices.DeleteFunc(slices.Clone(l), func(s summary.Sum) bool { return s.From != from || s.To != to })
}

// TestPartialOrder: each is at or ahead of itself, none of two both ways, and what is ahead of one is ahead of those behind it.
func TestPartialOrder(t *testing.T) {
	every := all(0, 1, 15)
	for i := range 16 {
		some := ofDepths(every, i/4, i%4)
		for _, a := range some {
			if !summary.Leq(a, a) {
				t.Fatalf("%v isn't at itself", a)
			}
			for _, b := range some {
				if a != b && summary.Leq(a, b) && summary.Leq(b, a) {
					t.Fatalf("%v and %v are ahead of each other", a, b)
				}
				for _, c := range some {
					if summary.Leq(a, b) && summary.Leq(b, c) && !summary.Leq(a, c) {
						t.Fatalf("%v, %v, %v: the first isn't ahead of the last", a, b, c)
					}
				}
			}
		}
	}
}

// TestOrderOfTimes: where a is at or ahead of b, and b makes something of a time, a does so of all at or ahead of that, and what it makes is at or ahead. (So it is with a and b the same: Apply goes with the order of times.)
func TestOrderOfTimes(t *testing.T) {
	every := all(0, 1, 15)
	for i := range 16 {
		some, here := ofDepths(every, i/4, i%4), times(6, i/4, 0, 7, 15)
		here = append(here, times(5, i/4, 0, 14)...)
		for _, a := range some {
			for _, b := range some {
				if !summary.Leq(a, b) {
					continue
				}
				for _, y := range here {
					last, ok := summary.Apply(b, y)
					if !ok {
						continue
					}
					for _, x := range here {
						if first, is := summary.Apply(a, x); stamp.Leq(x, y) && (!is || !stamp.Leq(first, last)) {
							t.Fatalf("%v makes of %v %v, %t; %v makes of %v %v", a, x, first, is, b, y, last)
						}
					}
				}
			}
		}
	}
}

// TestNotAhead: where a isn't at or ahead of b, there is a time, if counters had no bound, of which a makes something that isn't at or ahead.
func TestNotAhead(t *testing.T) {
	every := all(0, 1, 14, 15)
	for i := range 16 {
		some := ofDepths(every, i/4, i%4)
		for _, a := range some {
			for _, b := range some {
				ahead := true
				for _, loops := range [][]int{{0, 0, 0}, {100, 100, 100}} {
					m, n := counters(a, loops), counters(b, loops)
					for j := range m {
						ahead = ahead && m[j] <= n[j]
					}
				}
				if summary.Leq(a, b) != ahead {
					t.Fatalf("Leq(%v, %v) is %t", a, b, !ahead)
				}
			}
		}
	}
}

// TestOrderOfWays: Then goes with the order of summaries, on both sides.
func TestOrderOfWays(t *testing.T) {
	every := all(0, 1, 15)
	type pair struct{ a, b summary.Sum }
	var pairs []pair
	for _, a := range every {
		for _, b := range every {
			if summary.Leq(a, b) {
				pairs = append(pairs, pair{a, b})
			}
		}
	}
	for _, p := range pairs {
		for _, c := range every {
			if last, ok := summary.Then(p.b, c); ok {
				if first, is := summary.Then(p.a, c); !is || !summary.Leq(first, last) {
					t.Fatalf("%v, %v, then %v: %v, %t, and %v", p.a, p.b, c, first, is, last)
				}
			}
			if last, ok := summary.Then(c, p.b); ok {
				if first, is := summary.Then(c, p.a); !is || !summary.Leq(first, last) {
					t.Fatalf("%v, then %v, %v: %v, %t, and %v", c, p.a, p.b, first, is, last)
				}
			}
		}
	}
}

// TestBehindLeast: each that is right is at or behind one of Least, which are of them, and none ahead of another one.
func TestBehindLeast(t *testing.T) {
	every := append(all(0, 1, 15), wrong()...)
	for step := 1; step < 40; step++ {
		for from := range step {
			var l []summary.Sum
			for i := from; i < len(every); i += step {
				l = append(l, every[(i*37)%len(every)])
			}
			least := summary.Least(l)
			for _, s := range l {
				if summary.Right(s) && !slices.ContainsFunc(least, func(x summary.Sum) bool { return summary.Leq(x, s) }) {
					t.Fatalf("%v is behind none of %v", s, least)
				}
			}
			for i, s := range least {
				ahead := func(x summary.Sum) bool { return x != s && summary.Leq(x, s) }
				if !slices.Contains(l, s) || slices.Contains(least[:i], s) || slices.ContainsFunc(least, ahead) {
					t.Fatalf("%v is in %v", s, least)
				}
			}
			if again := summary.Least(least); !slices.Equal(again, least) {
				t.Fatalf("Least of %v is %v", least, again)
			}
		}
	}
}
