package counts_test

import (
	"math"
	"slices"
	"testing"

	"tailrace/api"
	"tailrace/counts"
)

const most = 1 << 40

// TestExamples are the chapter's.
func TestExamples(t *testing.T) {
	c := counts.New(0)
	for i, x := range []struct {
		addition
		want            api.Errno
		count           int64
		frontier, times []api.Stamp
	}{
		{addition{at(3), 2}, 0, 2, list(at(3)), list(at(3))},
		{addition{at(5), 1}, 0, 1, list(at(3)), list(at(3), at(5))},
		{addition{at(3), -2}, 0, 0, list(at(5)), list(at(5))},
		{addition{at(4), -1}, 0, -1, list(at(5)), list(at(4), at(5))},
		{addition{at(5), 1 << 41}, 3, 1, list(at(5)), list(at(4), at(5))},
		{addition{at(1, 0), 1}, 50, 0, list(at(5)), list(at(4), at(5))},
	} {
		if e := c.Add(x.t, x.n); e != x.want {
			t.Errorf("%d: Add(%v, %d) is %d", i, x.t, x.n, e)
		}
		if n := c.Count(x.t); n != x.count {
			t.Errorf("%d: Count(%v) is %d", i, x.t, n)
		}
		if f := c.Frontier(); !slices.Equal(f, x.frontier) {
			t.Errorf("%d: Frontier is %v", i, f)
		}
		if l := c.Times(); !slices.Equal(l, x.times) {
			t.Errorf("%d: Times is %v", i, l)
		}
	}
}

// TestNew: counts there are of depths 0 to 3 alone, and each has the times of its own depth alone.
func TestNew(t *testing.T) {
	for _, depth := range []int{-1, 4, 5, math.MaxInt, math.MinInt, 256, 1 << 32, -1 << 32} {
		if counts.New(depth) != nil {
			t.Errorf("New(%d) is there", depth)
		}
	}
	zero := list(at(0), at(0, 0), at(0, 0, 0), at(0, 0, 0, 0))
	for depth := range 4 {
		c := counts.New(depth)
		if c == nil || c.Times() != nil || c.Frontier() != nil || c.Count(zero[depth]) != 0 {
			t.Fatalf("New(%d): %v, Times %v, Frontier %v", depth, c, c.Times(), c.Frontier())
		}
		for i, x := range zero {
			want := api.Errno(50)
			if i == depth {
				want = 0
			}
			if e := c.Add(x, 1); e != want {
				t.Errorf("New(%d): Add(%v, 1) is %d", depth, x, e)
			}
		}
		if c.Count(zero[depth]) != 1 || !slices.Equal(c.Times(), zero[depth:depth+1]) || !slices.Equal(c.Frontier(), zero[depth:depth+1]) {
			t.Errorf("New(%d): Times %v, Frontier %v", depth, c.Times(), c.Frontier())
		}
	}
}

// TestApart: one's counts are not another one's.
func TestApart(t *testing.T) {
	a, b := counts.New(1), counts.New(1)
	a.Add(at(1, 2), 3)
	b.Add(at(2, 1), 4)
	if !slices.Equal(a.Times(), list(at(1, 2))) || !slices.Equal(b.Times(), list(at(2, 1))) || a.Count(at(2, 1)) != 0 || b.Count(at(1, 2)) != 0 {
		t.Errorf("%v, %v", a.Times(), b.Times())
	}
}

func TestNil(t *testing.T) {
	var none *counts.Counts
	for _, x := range append(wrong(), at(0), at(1, 2)) {
		for _, n := range []int64{0, 1, -1, most + 1, math.MaxInt64, math.MinInt64} {
			if e := none.Add(x, n); e != 1 {
				t.Errorf("Add(%v, %d) of nil is %d", x, n, e)
			}
		}
		if n := none.Count(x); n != 0 {
			t.Errorf("Count(%v) of nil is %d", x, n)
		}
	}
	if none.Times() != nil || none.Frontier() != nil || none.Copy() != nil {
		t.Errorf("of nil: Times %v, Frontier %v, Copy %v", none.Times(), none.Frontier(), none.Copy())
	}
}

// TestZero: counts that New did not make are of depth 0, and are added to like others.
func TestZero(t *testing.T) {
	var c counts.Counts
	if c.Count(at(0)) != 0 || c.Times() != nil || c.Frontier() != nil {
		t.Errorf("ahead: %v, %v", c.Times(), c.Frontier())
	}
	d := c.Copy()
	for i, x := range []*counts.Counts{&c, d} {
		if e := x.Add(at(7), 0); e != 0 {
			t.Errorf("%d: of none: %d", i, e)
		}
		if e := x.Add(at(7, 0), 1); e != 50 {
			t.Errorf("%d: of depth 1: %d", i, e)
		}
		if e := x.Add(at(7), 2); e != 0 || x.Count(at(7)) != 2 || !slices.Equal(x.Times(), list(at(7))) || !slices.Equal(x.Frontier(), list(at(7))) {
			t.Errorf("%d: %d, %v, %v", i, e, x.Times(), x.Frontier())
		}
	}
}

// TestWrongTimes: of a time that may not be, or is of another depth, there is no count, and there comes none.
func TestWrongTimes(t *testing.T) {
	for _, w := range worlds() {
		c, was := counts.New(w.depth), &words{depth: w.depth}
		for i, x := range w.all {
			c.Add(x, int64(i)-1)
			was.add(x, int64(i)-1)
		}
		bad := wrong()
		for _, other := range worlds() {
			if other.depth != w.depth {
				bad = append(bad, other.all...)
			}
		}
		for _, x := range w.all { // the same but for what may not be
			deeper, less, beyond := x, x, x
			deeper.Depth++
			less.Depth--
			beyond.Loops[2]++
			if w.depth < 3 {
				bad = append(bad, beyond)
			}
			bad = append(bad, deeper, less)
		}
		for _, x := range bad {
			for _, n := range []int64{1, 0, -1, most, most + 1, -most - 1, math.MaxInt64, math.MinInt64} {
				if e := c.Add(x, n); e != 50 {
					t.Errorf("depth %d: Add(%v, %d) is %d", w.depth, x, n, e)
				}
			}
			if n := c.Count(x); n != 0 {
				t.Errorf("depth %d: Count(%v) is %d", w.depth, x, n)
			}
		}
		was.told(t, c, bad)
	}
}

// TestLimits: what is added, and what comes of it, are each from -2^40 to 2^40; what is beyond that changes nothing.
func TestLimits(t *testing.T) {
	for _, x := range []struct {
		first, n int64
		want     api.Errno
	}{
		{0, most, 0}, {0, -most, 0}, {0, most + 1, 3}, {0, -most - 1, 3}, {0, math.MaxInt64, 3}, {0, math.MinInt64, 3}, {0, 0, 0},
		{1, most, 3}, {1, most - 1, 0}, {-1, most, 0}, {-1, -most, 3}, {-1, -most + 1, 0}, {1, -most, 0}, {-1, -most - 1, 3},
		{most, 1, 3}, {most, 0, 0}, {most, -1, 0}, {most, -most, 0}, {most, most, 3}, {most, math.MaxInt64, 3}, {most, math.MinInt64, 3},
		{-most, -1, 3}, {-most, 0, 0}, {-most, 1, 0}, {-most, most, 0}, {-most, -most, 3}, {-most, math.MaxInt64, 3}, {-most, math.MinInt64, 3},
		{-most, most + 1, 3}, {-most, 2 * most, 3}, {most, -most - 1, 3}, {most, -2 * most, 3}, // together they would do
		{5, math.MaxInt64 - 4, 3}, {-5, math.MinInt64 + 4, 3}, {-most, math.MinInt64 + most, 3}, {most, math.MaxInt64 - most + 1, 3}, // together they wrap round
	} {
		c, w := counts.New(1), &words{depth: 1}
		for _, a := range []struct {
			addition
			want api.Errno
		}{{addition{at(4, 0), 1}, 0}, {addition{at(3, 2), x.first}, 0}, {addition{at(3, 2), x.n}, x.want}, {addition{at(3, 3), 2}, 0}} {
			if e, is := c.Add(a.t, a.n), w.add(a.t, a.n); e != a.want || is != a.want {
				t.Errorf("%d and %d: %d, %d", x.first, x.n, e, is)
			}
			w.told(t, c, nil)
		}
	}
}

// TestAllScripts goes through all additions of a few numbers at a few times, in all orders, each way on by a copy of its own.
func TestAllScripts(t *testing.T) {
	for _, w := range worlds() {
		all := append(list(at(1000)), w.all...)
		if !goOn(t, counts.New(w.depth), &words{depth: w.depth}, all, 4) {
			return
		}
	}
}

// goOn: is all told as it should be, here and behind each addition more?
func goOn(t *testing.T, c *counts.Counts, w *words, all []api.Stamp, more int) bool {
	t.Helper()
	if !w.told(t, c, all) {
		return false
	}
	for i := 0; more > 0 && i < 3*len(all); i++ {
		x, n := all[i/3], int64(i%3)-1
		if n == 0 {
			n = most
		}
		d, v := c.Copy(), w.copied()
		if e, is := d.Add(x, n), v.add(x, n); e != is {
			t.Errorf("behind %v: Add(%v, %d) is %d", w.added, x, n, e)
			return false
		}
		if !goOn(t, d, v, all, more-1) || !w.told(t, c, all) { // the copy's ways are its own
			return false
		}
	}
	return true
}

// TestLongScript adds very often, at many times of each depth, till none is there.
func TestLongScript(t *testing.T) {
	seed := uint32(1)
	next := func(n int) int {
		seed = seed*1664525 + 1013904223
		return int(seed>>8) % n
	}
	for depth := range 4 {
		c, w := counts.New(depth), map[api.Stamp]int64{}
		for range 20000 {
			x := api.Stamp{Depth: depth, Epoch: next(4)}
			for i := range depth {
				x.Loops[i] = next(3)
			}
			n := int64(next(9) - 4)
			if e := c.Add(x, n); e != 0 {
				t.Fatalf("Add(%v, %d) is %d", x, n, e)
			}
			w[x] += n
		}
		once := &words{depth: depth}
		for x, n := range w {
			once.add(x, n)
		}
		once.told(t, c, nil)
		for x, n := range w {
			c.Add(x, -n)
		}
		if c.Times() != nil || c.Frontier() != nil {
			t.Errorf("at the end: %v, %v", c.Times(), c.Frontier())
		}
	}
}

// TestBelow: what takes away may come ahead of what it takes away; till then the time is not there.
func TestBelow(t *testing.T) {
	c := counts.New(2)
	for i, x := range []struct {
		addition
		frontier []api.Stamp
	}{
		{addition{at(1, 0, 0), -2}, nil},
		{addition{at(2, 1, 1), 1}, list(at(2, 1, 1))},
		{addition{at(1, 0, 0), 2}, list(at(2, 1, 1))},
		{addition{at(1, 0, 0), 1}, list(at(1, 0, 0))},
		{addition{at(2, 1, 1), -3}, list(at(1, 0, 0))},
		{addition{at(1, 0, 0), -1}, nil},
		{addition{at(1, 2, 0), 1}, list(at(1, 2, 0))},
		{addition{at(1, 0, 2), 1}, list(at(1, 0, 2), at(1, 2, 0))},
		{addition{at(2, 1, 1), 2}, list(at(1, 0, 2), at(1, 2, 0))}, // back to 0
		{addition{at(2, 1, 1), 1}, list(at(1, 0, 2), at(1, 2, 0), at(2, 1, 1))},
	} {
		if e, f := c.Add(x.t, x.n), c.Frontier(); e != 0 || !slices.Equal(f, x.frontier) {
			t.Errorf("%d: %d, %v", i, e, f)
		}
	}
}

// TestVeryMany goes through as many times as have a few epochs and any counters.
func TestVeryMany(t *testing.T) {
	c := counts.New(3)
	var all, first []api.Stamp
	for epoch := 3; epoch >= 0; epoch-- {
		for i := range 4096 {
			all = append(all, at(996+epoch, i%16, i/16%16, i/256))
		}
	}
	for i, x := range all {
		if e := c.Add(x, int64(1+i%3)); e != 0 {
			t.Fatalf("Add(%v) is %d", x, e)
		}
	}
	if f := c.Frontier(); !slices.Equal(f, list(at(996, 0, 0, 0))) {
		t.Errorf("Frontier is %v", f)
	}
	for i, x := range all { // those of counters below 30 together go
		if sum := x.Loops[0] + x.Loops[1] + x.Loops[2]; sum < 30 {
			c.Add(x, -int64(1+i%3))
		} else if sum == 30 && x.Epoch == 996 {
			first = append(first, x)
		}
	}
	if f := c.Frontier(); len(f) != len(first) || slices.ContainsFunc(first, func(x api.Stamp) bool { return !slices.Contains(f, x) }) {
		t.Errorf("Frontier has %d, want %d", len(f), len(first))
	}
	times := c.Times()
	for i, x := range times {
		if x.Loops[0]+x.Loops[1]+x.Loops[2] < 30 || c.Count(x) <= 0 || i > 0 && !before(times[i-1], x) {
			t.Fatalf("%d: %v", i, x)
		}
	}
	if len(times) != 4*816 { // as many counters of 16 lie 15 or less from 15 15 15
		t.Errorf("%d times", len(times))
	}
}

// before: does a stand ahead of b, where both are of one depth?
func before(a, b api.Stamp) bool {
	return slices.Compare(append([]int{a.Epoch}, a.Loops[:]...), append([]int{b.Epoch}, b.Loops[:]...)) < 0
}

// TestCopy: what is done to one of both is not seen in the other one.
func TestCopy(t *testing.T) {
	for _, w := range worlds() {
		c, was := counts.New(w.depth), &words{depth: w.depth}
		same := &words{depth: w.depth}
		d := c.Copy() // of none yet
		for i, x := range w.all {
			c.Add(x, int64(2*i)-3)
			was.add(x, int64(2*i)-3)
		}
		same.told(t, d, w.all)
		e, then := c.Copy(), was.copied()
		then.told(t, e, w.all)
		for _, x := range w.all {
			e.Add(x, 1)
			then.add(x, 1)
			d.Add(x, -1)
			same.add(x, -1)
			was.told(t, c, w.all)
			then.told(t, e, w.all)
			same.told(t, d, w.all)
		}
		for _, x := range w.all {
			c.Add(x, -was.count(x))
		}
		then.told(t, e, w.all)
		then.told(t, e.Copy(), w.all)
		if c.Times() != nil || counts.New(w.depth).Copy().Times() != nil {
			t.Errorf("depth %d: %v", w.depth, c.Times())
		}
		if other := at(0, make([]int, (w.depth+1)%4)...); e.Copy().Add(other, 1) != 50 || d.Copy().Add(w.all[0], 1) != 0 {
			t.Errorf("depth %d: a copy of it is of another one", w.depth)
		}
	}
}

// TestMemory: an answer shares nothing with what is kept, nor with another answer.
func TestMemory(t *testing.T) {
	for _, w := range worlds() {
		c, was := counts.New(w.depth), &words{depth: w.depth}
		for i, x := range w.all {
			c.Add(x, int64(i%3)+1)
			was.add(x, int64(i%3)+1)
		}
		d := c.Copy()
		answers := [][]api.Stamp{c.Times(), c.Frontier(), d.Times(), d.Frontier(), c.Times(), c.Frontier()}
		var wants [][]api.Stamp
		for _, a := range answers {
			wants = append(wants, slices.Clone(a))
		}
		for i, a := range answers {
			if !slices.Equal(a, wants[i]) {
				t.Errorf("depth %d: %d is spoilt", w.depth, i)
			}
			a = a[:cap(a)]
			for j := range a {
				a[j] = at(-1, 9)
			}
			was.told(t, c, w.all)
			was.told(t, d, w.all)
		}
	}
}

// TestTellsOnly: what is asked changes nothing, and is told the same again, in whatever order a map is gone through.
func TestTellsOnly(t *testing.T) {
	for _, w := range worlds() {
		c, was := counts.New(w.depth), &words{depth: w.depth}
		for i, x := range w.all {
			c.Add(x, int64(3*(i%2))-1)
			was.add(x, int64(3*(i%2))-1)
		}
		for range 50 {
			was.told(t, c, w.all)
			was.told(t, c.Copy(), w.all)
		}
	}
}
