package stamp_test

import (
	"bytes"
	"testing"

	"tailrace/api"
	"tailrace/stamp"
)

// few are some right times of each depth, close enough together to be unordered often, and at the bounds.
func few() [][]api.Stamp {
	var all [][]api.Stamp
	for _, depth := range []int{0, 1, 2, 3} {
		all = append(all, right(grid([]int{depth}, []int{0, 1, 999}, []int{0, 1, 15})))
	}
	return append(all, right(grid([]int{2}, []int{3, 4, 5, 6}, []int{3, 4, 5, 6})), right(grid([]int{0}, []int{0, 1, 2, 255, 256, 512, 998, 999}, []int{0})))
}

func joined(t *testing.T, a, b api.Stamp) api.Stamp {
	t.Helper()
	return madeOf(t, stamp.Join, a, b)
}

func met(t *testing.T, a, b api.Stamp) api.Stamp {
	t.Helper()
	return madeOf(t, stamp.Meet, a, b)
}

func madeOf(t *testing.T, call func(a, b api.Stamp) (api.Stamp, bool), a, b api.Stamp) api.Stamp {
	t.Helper()
	c, ok := call(a, b)
	if !ok {
		t.Fatalf("nothing is made of %v and %v", a, b)
	}
	return c
}

func TestPartialOrder(t *testing.T) {
	for _, all := range few() {
		for _, a := range all {
			if !stamp.Leq(a, a) {
				t.Fatalf("%v isn't at itself", a)
			}
			for _, b := range all {
				if stamp.Leq(a, b) && stamp.Leq(b, a) && a != b {
					t.Fatalf("%v and %v are each ahead of the other", a, b)
				}
				for _, c := range all {
					if stamp.Leq(a, b) && stamp.Leq(b, c) && !stamp.Leq(a, c) {
						t.Fatalf("%v, %v, %v: the first isn't at or ahead of the last", a, b, c)
					}
				}
			}
		}
	}
}

// TestCompareGoesOn: Compare has all times in one row, and those that Leq orders as it orders them.
func TestCompareGoesOn(t *testing.T) {
	var all []api.Stamp
	for _, some := range few() {
		all = append(all, some...)
	}
	for _, a := range all {
		for _, b := range all {
			order := stamp.Compare(a, b)
			if stamp.Leq(a, b) && order > 0 {
				t.Fatalf("%v is at or ahead of %v, and Compare tells %d", a, b, order)
			}
			if order != -stamp.Compare(b, a) || (order == 0) != (a == b) {
				t.Fatalf("Compare of %v and %v is %d, the other way round %d", a, b, order, stamp.Compare(b, a))
			}
			x, _ := stamp.Put(a)
			y, _ := stamp.Put(b)
			if bytes.Compare(x, y) != order {
				t.Fatalf("the bytes %v and %v of %v and %v don't stand as Compare has these", x, y, a, b)
			}
		}
	}
	for _, some := range few() {
		for _, a := range some {
			for _, b := range some {
				for _, c := range some {
					if stamp.Compare(a, b) <= 0 && stamp.Compare(b, c) <= 0 && stamp.Compare(a, c) > 0 {
						t.Fatalf("%v, %v, %v: they stand in no row", a, b, c)
					}
				}
			}
		}
	}
}

// TestLeastAndGreatest: Join is the least that both are at or ahead of, Meet the greatest that is at or ahead of both.
func TestLeastAndGreatest(t *testing.T) {
	for _, all := range few() {
		for _, a := range all {
			for _, b := range all {
				join, meet := joined(t, a, b), met(t, a, b)
				if !stamp.Leq(a, join) || !stamp.Leq(b, join) || !stamp.Leq(meet, a) || !stamp.Leq(meet, b) {
					t.Fatalf("%v and %v: Join %v, Meet %v", a, b, join, meet)
				}
				for _, c := range all {
					if (stamp.Leq(a, c) && stamp.Leq(b, c)) != stamp.Leq(join, c) {
						t.Fatalf("%v, the Join of %v and %v, isn't the least: %v", join, a, b, c)
					}
					if (stamp.Leq(c, a) && stamp.Leq(c, b)) != stamp.Leq(c, meet) {
						t.Fatalf("%v, the Meet of %v and %v, isn't the greatest: %v", meet, a, b, c)
					}
				}
			}
		}
	}
}

// TestAbsorbAndGoThrough: joins and meets absorb each other, and each goes through the other.
func TestAbsorbAndGoThrough(t *testing.T) {
	for _, all := range few() {
		for _, a := range all {
			for _, b := range all {
				if joined(t, a, met(t, a, b)) != a || met(t, a, joined(t, a, b)) != a {
					t.Fatalf("%v and %v don't absorb each other", a, b)
				}
				for _, c := range all {
					if joined(t, a, met(t, b, c)) != met(t, joined(t, a, b), joined(t, a, c)) {
						t.Fatalf("Join doesn't go through Meet: %v, %v, %v", a, b, c)
					}
					if met(t, a, joined(t, b, c)) != joined(t, met(t, a, b), met(t, a, c)) {
						t.Fatalf("Meet doesn't go through Join: %v, %v, %v", a, b, c)
					}
				}
			}
		}
	}
}

// TestLoopsGoWithTheOrder: Out undoes Into; Into, Out and Step keep what is at or ahead there.
func TestLoopsGoWithTheOrder(t *testing.T) {
	for _, all := range few() {
		for _, a := range all {
			if in, ok := stamp.Into(a); ok {
				if back, ok := stamp.Out(in); back != a || !ok {
					t.Fatalf("Out of %v, which is Into of %v, is %v, %t", in, a, back, ok)
				}
			}
			if on, ok := stamp.Step(a); ok && (on == a || !stamp.Leq(a, on)) {
				t.Fatalf("%v isn't ahead of %v, its Step", a, on)
			}
			for _, b := range all {
				if stamp.Leq(a, b) {
					follows(t, a, b)
				}
			}
		}
	}
}

// follows: what becomes of b becomes of a, which is at or ahead of it, and is so then, too.
func follows(t *testing.T, a, b api.Stamp) {
	t.Helper()
	for i, call := range []func(api.Stamp) (api.Stamp, bool){stamp.Into, stamp.Out, stamp.Step} {
		y, is := call(b)
		if !is {
			continue
		}
		if x, ok := call(a); !ok || !stamp.Leq(x, y) {
			t.Fatalf("%d: %v is at or ahead of %v, but %v, %t not of %v", i, a, b, x, ok, y)
		}
	}
}
