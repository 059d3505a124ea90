package antichain_test

import (
	"slices"
	"testing"

	"tailrace/antichain"
	"tailrace/api"
	"tailrace/stamp"
)

func both(t *testing.T, a, b []api.Stamp) []api.Stamp {
	t.Helper()
	return madeOf(t, antichain.Both, a, b)
}

func either(t *testing.T, a, b []api.Stamp) []api.Stamp {
	t.Helper()
	return madeOf(t, antichain.Either, a, b)
}

func madeOf(t *testing.T, call func(a, b []api.Stamp) ([]api.Stamp, api.Errno), a, b []api.Stamp) []api.Stamp {
	t.Helper()
	f, e := call(a, b)
	if e != api.OK || !antichain.Right(f) {
		t.Fatalf("of %v and %v: %v, %d", a, b, f, e)
	}
	return f
}

// few are some of a world's frontiers, so that any three of them may be gone through.
func (w world) few() [][]api.Stamp {
	var some [][]api.Stamp
	for i := 0; i < len(w.frontiers); i += 1 + len(w.frontiers)/35 {
		some = append(some, w.frontiers[i])
	}
	return some
}

func TestPartialOrder(t *testing.T) {
	for _, w := range worlds() {
		some := w.few()
		for _, a := range some {
			if !antichain.Within(a, a) || !antichain.Same(a, a) {
				t.Fatalf("%v isn't within itself", a)
			}
			for _, b := range some {
				if antichain.Within(a, b) && antichain.Within(b, a) != antichain.Same(a, b) {
					t.Fatalf("%v and %v are within each other", a, b)
				}
				for _, c := range some {
					if antichain.Within(a, b) && antichain.Within(b, c) && !antichain.Within(a, c) {
						t.Fatalf("%v, %v, %v: the first isn't within the last", a, b, c)
					}
				}
			}
		}
	}
}

// TestGreatestAndLeast: Both is the greatest that is within both, Either the least that both are within.
func TestGreatestAndLeast(t *testing.T) {
	for _, w := range worlds() {
		some := w.few()
		for _, a := range some {
			for _, b := range some {
				in, out := both(t, a, b), either(t, a, b)
				if !antichain.Within(in, a) || !antichain.Within(in, b) || !antichain.Within(a, out) || !antichain.Within(b, out) {
					t.Fatalf("%v and %v: Both %v, Either %v", a, b, in, out)
				}
				for _, c := range some {
					if (antichain.Within(c, a) && antichain.Within(c, b)) != antichain.Within(c, in) {
						t.Fatalf("%v, of both %v and %v, isn't the greatest: %v", in, a, b, c)
					}
					if (antichain.Within(a, c) && antichain.Within(b, c)) != antichain.Within(out, c) {
						t.Fatalf("%v, of either %v or %v, isn't the least: %v", out, a, b, c)
					}
				}
			}
		}
	}
}

// TestAbsorbAndGoThrough: Both and Either absorb each other, and each goes through the other.
func TestAbsorbAndGoThrough(t *testing.T) {
	for _, w := range worlds() {
		some := w.few()
		for _, a := range some {
			for _, b := range some {
				if !antichain.Same(both(t, a, either(t, a, b)), a) || !antichain.Same(either(t, a, both(t, a, b)), a) {
					t.Fatalf("%v and %v don't absorb each other", a, b)
				}
				for _, c := range some {
					if !antichain.Same(both(t, a, either(t, b, c)), either(t, both(t, a, b), both(t, a, c))) {
						t.Fatalf("Both doesn't go through Either: %v, %v, %v", a, b, c)
					}
					if !antichain.Same(either(t, a, both(t, b, c)), both(t, either(t, a, b), either(t, a, c))) {
						t.Fatalf("Either doesn't go through Both: %v, %v, %v", a, b, c)
					}
				}
			}
		}
	}
}

// TestDownward: with a time, each that is at or ahead of it is in a frontier.
func TestDownward(t *testing.T) {
	for _, w := range worlds() {
		for _, f := range w.frontiers {
			for _, x := range w.all {
				for _, y := range w.all {
					if stamp.Leq(x, y) && antichain.Holds(f, y) && !antichain.Holds(f, x) {
						t.Fatalf("%v is in %v, and %v, which is at or ahead of it, isn't", y, f, x)
					}
				}
			}
		}
	}
}

// TestOneMore: with a time more a frontier is within what it was, and in it is just what was and isn't at that time or behind it.
func TestOneMore(t *testing.T) {
	for _, w := range worlds() {
		for _, f := range w.frontiers {
			for _, x := range w.all {
				more, e := antichain.Of(append(slices.Clone(f), x)...)
				if e != api.OK || !antichain.Within(more, f) || antichain.Holds(more, x) {
					t.Fatalf("%v with %v is %v, %d", f, x, more, e)
				}
				if antichain.Same(more, f) == antichain.Holds(f, x) {
					t.Fatalf("%v with %v is %v: it should be less just where that was in it", f, x, more)
				}
				for _, y := range w.all {
					if antichain.Holds(more, y) != (antichain.Holds(f, y) && !stamp.Leq(x, y)) {
						t.Fatalf("%v with %v is %v: %v is not where it should be", f, x, more, y)
					}
				}
			}
		}
	}
}
