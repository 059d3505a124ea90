package counts_test

import (
	"slices"
	"testing"

	"tailrace/antichain"
	"tailrace/api"
	"tailrace/counts"
)

// some are counts behind additions that make none an error.
func some(t *testing.T, depth int, added ...addition) *counts.Counts {
	t.Helper()
	c := counts.New(depth)
	for _, a := range added {
		if e := c.Add(a.t, a.n); e != 0 {
			t.Fatalf("Add(%v, %d) is %d", a.t, a.n, e)
		}
	}
	return c
}

// sameCounts: do both tell the same, of these times, too?
func sameCounts(a, b *counts.Counts, all []api.Stamp) bool {
	for _, x := range all {
		if a.Count(x) != b.Count(x) {
			return false
		}
	}
	return slices.Equal(a.Times(), b.Times()) && slices.Equal(a.Frontier(), b.Frontier())
}

// orders calls see with each order of some additions.
func orders(added []addition, from int, see func([]addition)) {
	if from == len(added) {
		see(added)
		return
	}
	for i := from; i < len(added); i++ {
		added[from], added[i] = added[i], added[from]
		orders(added, from+1, see)
		added[from], added[i] = added[i], added[from]
	}
}

// TestAnyOrder: in whatever order the same is added, the counts are the same.
func TestAnyOrder(t *testing.T) {
	for _, w := range worlds() {
		a, b, c, d := w.all[0], w.all[1], w.all[2], w.all[3]
		for _, added := range [][]addition{
			{{a, 1}, {a, -1}, {b, 2}, {b, -3}, {c, 1}, {d, 1}},
			{{a, -2}, {a, 3}, {a, -1}, {c, 5}, {d, -5}, {d, 6}},
			{{a, 1 << 39}, {a, 1 << 39}, {b, -1 << 40}, {b, 1 << 40}, {c, -7}, {d, 0}},
			{{d, 1}, {c, 1}, {b, 1}, {a, 1}, {a, -1}, {b, -1}},
		} {
			want := some(t, w.depth, added...)
			orders(added, 0, func(o []addition) {
				if !sameCounts(some(t, w.depth, o...), want, w.all) {
					t.Errorf("%v: in another order it is not the same", o)
				}
			})
		}
	}
}

// TestNeverBack: where more is added only at times that are not in the frontier, it is within each later one.
func TestNeverBack(t *testing.T) {
	for _, w := range worlds() {
		for i := range 256 { // each count from -1 to 2
			c := counts.New(w.depth)
			for j, x := range w.all {
				c.Add(x, int64(i>>(2*j)&3)-1)
			}
			goFarther(t, c, w.all, [][]api.Stamp{c.Frontier()}, 3)
		}
	}
}

// goFarther goes on from c in all ways by which the frontiers that were ahead may not go back.
func goFarther(t *testing.T, c *counts.Counts, all []api.Stamp, were [][]api.Stamp, more int) {
	t.Helper()
	f := c.Frontier()
	for _, was := range were {
		if !antichain.Within(was, f) {
			t.Fatalf("%v went back to %v", was, f)
		}
	}
	for _, x := range all {
		for _, n := range []int64{1, -1} {
			if more > 0 && (n < 0 || !antichain.Holds(f, x)) { // what takes away may do so anywhere
				d := c.Copy()
				d.Add(x, n)
				goFarther(t, d, all, append(slices.Clone(were), f), more-1)
			}
		}
	}
}

// TestBack: a time that is in the frontier, and comes to be there, is not in it any more.
func TestBack(t *testing.T) {
	for _, w := range worlds() {
		for _, x := range w.all {
			for _, y := range w.all {
				c := some(t, w.depth, addition{x, 1})
				was := c.Frontier()
				c.Add(y, 1)
				if is := c.Frontier(); antichain.Holds(is, y) || antichain.Holds(was, y) == antichain.Same(was, is) || !antichain.Within(is, was) {
					t.Errorf("%v with %v: %v", was, y, is)
				}
			}
		}
	}
}

// TestTogether: of two, added together, without any below 0, the frontier is what is in both of theirs.
func TestTogether(t *testing.T) {
	for _, w := range worlds() {
		for i := range 81 {
			for j := range 81 { // each count from 0 to 2
				a, b, sum := counts.New(w.depth), counts.New(w.depth), counts.New(w.depth)
				m, n := i, j
				for _, x := range w.all {
					a.Add(x, int64(m%3))
					b.Add(x, int64(n%3))
					m, n = m/3, n/3
				}
				for _, one := range []*counts.Counts{a, b} {
					for _, x := range one.Times() {
						sum.Add(x, one.Count(x))
					}
				}
				both, e := antichain.Both(a.Frontier(), b.Frontier())
				if e != 0 || !antichain.Same(sum.Frontier(), both) {
					t.Fatalf("%v and %v: %v, want %v", a.Times(), b.Times(), sum.Frontier(), both)
				}
			}
		}
	}
}
