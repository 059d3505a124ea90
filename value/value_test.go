package value_test

import (
	"bytes"
	"math"
	"slices"
	"testing"

	"tailrace/api"
	"tailrace/value"
)

// list are records, each told by its Key and Val.
func list(numbers ...int64) []api.Record {
	var l []api.Record
	for i := 0; i < len(numbers); i += 2 {
		l = append(l, api.Record{Key: numbers[i], Val: numbers[i+1]})
	}
	return l
}

func TestCompare(t *testing.T) {
	var all []api.Record
	for _, k := range edges() {
		for _, v := range edges() {
			all = append(all, api.Record{Key: k, Val: v})
		}
	}
	for i, a := range all {
		for j, b := range all {
			want := 0 // the edges rise, so what stands behind is the greater one
			if i < j {
				want = -1
			} else if i > j {
				want = 1
			}
			if got := value.Compare(a, b); got != want || compareByWords(a, b) != want {
				t.Fatalf("Compare(%v, %v) is %d", a, b, got)
			}
		}
	}
}

func TestSorted(t *testing.T) {
	for i, x := range []struct{ l, want []api.Record }{
		{list(2, 1, 1, 5, 2, 0, 1, 5), list(1, 5, 1, 5, 2, 0, 2, 1)}, // the chapter's
		{nil, nil}, {list(), nil}, {list(7, 7), list(7, 7)}, {list(7, 7, 7, 7, 7, 7), list(7, 7, 7, 7, 7, 7)}, {list(1, 2, 3, 4), list(1, 2, 3, 4)},
		{list(1, -1, 1, 0, -1, 9, 0, 0), list(-1, 9, 0, 0, 1, -1, 1, 0)}, // as numbers, not as bytes
		{list(9, 0, 10, 0, 1, 0), list(1, 0, 9, 0, 10, 0)},
		{list(math.MaxInt64, 0, math.MinInt64, 0, 0, 0), list(math.MinInt64, 0, 0, 0, math.MaxInt64, 0)},
		{list(0, math.MaxInt64, 0, math.MinInt64, 0, 0), list(0, math.MinInt64, 0, 0, 0, math.MaxInt64)},
	} {
		if s := value.Sorted(x.l); !slices.Equal(s, x.want) {
			t.Errorf("%d: %v", i, s)
		}
	}
	for _, l := range rows(few(), 6) {
		if s := value.Sorted(l); !slices.Equal(s, sortedByWords(often(l))) {
			t.Fatalf("Sorted(%v) is %v", l, s)
		}
	}
	c := &chances{seed: 1}
	for _, n := range []int{11, 12, 13, 49, 50, 51, 1000, 20000} {
		for _, many := range []int{1, 2, 40, 60} {
			l := c.row(n, many, many)
			if s := value.Sorted(l); !slices.Equal(s, sortedByWords(often(l))) {
				t.Errorf("%d records out of %d by %d: not as they should be", n, many, many)
			}
		}
	}
}

func TestSame(t *testing.T) {
	for i, x := range []struct {
		a, b []api.Record
		want bool
	}{
		{list(1, 5, 2, 0), list(2, 0, 1, 5), true}, {list(1, 5), list(1, 5, 1, 5), false}, // the chapter's
		{nil, nil, true}, {nil, list(), true}, {nil, list(0, 0), false}, {list(1, 5), list(5, 1), false},
		{list(1, 5, 1, 5, 2, 0), list(1, 5, 2, 0, 2, 0), false}, // as many, and each in both, but not as often
		{list(1, 5, 2, 0), list(1, 0, 2, 5), false},             // the same Keys, the same Vals
		{list(1, 5), list(1, 5-1<<32), false}, {list(1, 5), list(1+math.MinInt64, 5), false},
	} {
		if got := value.Same(x.a, x.b); got != x.want || value.Same(x.b, x.a) != x.want || sameByWords(x.a, x.b) != x.want {
			t.Errorf("%d: Same(%v, %v) is %t", i, x.a, x.b, got)
		}
	}
}

func TestLess(t *testing.T) {
	for i, x := range []struct {
		a, b, want []api.Record
		ok         bool
	}{
		{list(1, 5, 1, 5, 2, 0), list(1, 5), list(1, 5, 2, 0), true}, {list(1, 5), list(2, 0), nil, false}, // the chapter's
		{nil, nil, nil, true}, {list(), nil, nil, true}, {nil, list(1, 5), nil, false}, {list(2, 1, 1, 5), nil, list(1, 5, 2, 1), true},
		{list(1, 5), list(1, 5), nil, true}, {list(1, 5), list(1, 5, 1, 5), nil, false}, {list(1, 5, 2, 0, 3, 0), list(2, 0), list(1, 5, 3, 0), true},
		{list(3, 0, 2, 0, 1, 0), list(2, 0, 3, 0), list(1, 0), true}, {list(3, 0, 2, 0, 1, 0), list(2, 0, 2, 0), nil, false},
		{list(2, 0, 2, 0), list(1, 0), nil, false}, {list(2, 0, 2, 0), list(3, 0), nil, false}, {list(2, 0, 2, 0), list(2, 1), nil, false},
		{list(1, 5, 2, 0), list(2, 0, 3, 0), nil, false}, // some of b are there, the last one isn't
	} {
		if l, ok := value.Less(x.a, x.b); !slices.Equal(l, x.want) || ok != x.ok {
			t.Errorf("%d: Less(%v, %v) is %v, %t", i, x.a, x.b, l, ok)
		}
	}
}

func TestAdd(t *testing.T) {
	if l := value.Add(); len(l) != 0 {
		t.Errorf("of no rows: %v", l)
	}
	for i, x := range []struct {
		rows [][]api.Record
		want []api.Record
	}{
		{nil, nil}, {[][]api.Record{nil}, nil}, {[][]api.Record{nil, {}, nil}, nil},
		{[][]api.Record{list(2, 1), nil, list(1, 5, 2, 0)}, list(1, 5, 2, 0, 2, 1)},
		{[][]api.Record{list(1, 5), list(1, 5), list(1, 5)}, list(1, 5, 1, 5, 1, 5)},
		{[][]api.Record{list(9, 0, 8, 0), list(7, 0, -7, 0)}, list(-7, 0, 7, 0, 8, 0, 9, 0)},
	} {
		if l := value.Add(x.rows...); !slices.Equal(l, x.want) {
			t.Errorf("%d: %v", i, l)
		}
	}
	many := make([][]api.Record, 3000)
	for i := range many {
		many[i] = list(int64(-i%7), int64(i%5))
	}
	if l := value.Add(many...); !slices.Equal(l, sortedByWords(often(slices.Concat(many...)))) {
		t.Errorf("of 3000 rows: %v", l)
	}
}

// TestPairs holds what is answered of any two of all short rows against the words.
func TestPairs(t *testing.T) {
	all := append(rows(few(), 4), rows(few()[1:3], 8)...)
	for _, a := range all {
		for _, b := range all {
			if got := value.Same(a, b); got != sameByWords(a, b) {
				t.Fatalf("Same(%v, %v) is %t", a, b, got)
			}
			want, is := lessByWords(a, b)
			if l, ok := value.Less(a, b); !slices.Equal(l, want) || ok != is {
				t.Fatalf("Less(%v, %v) is %v, %t", a, b, l, ok)
			}
			if l := value.Add(a, b); !slices.Equal(l, sortedByWords(often(slices.Concat(a, b)))) {
				t.Fatalf("Add(%v, %v) is %v", a, b, l)
			}
		}
	}
}

// TestLongPairs is the same of long rows: one, a part of it, and such a part with one record changed.
func TestLongPairs(t *testing.T) {
	c := &chances{seed: 2}
	there := 0
	for i := range 1000 {
		a := c.row(1+c.next(200), 35, 2+c.next(2))
		b := c.mixed(a)[:c.next(len(a)+1)]
		if i%2 == 1 && len(b) > 0 {
			b[c.next(len(b))] = c.row(1, 35, 3)[0]
		}
		want, is := lessByWords(a, b)
		if l, ok := value.Less(a, b); !slices.Equal(l, want) || ok != is {
			t.Fatalf("Less(%v, %v) is %v, %t", a, b, l, ok)
		}
		for _, x := range [][]api.Record{b, c.mixed(a)} {
			if got := value.Same(a, x); got != sameByWords(a, x) {
				t.Fatalf("Same(%v, %v) is %t", a, x, got)
			}
		}
		if is {
			there++
		}
	}
	if there < 550 || there > 950 {
		t.Errorf("%d of 1000 were there", there)
	}
}

func TestPut(t *testing.T) {
	for i, x := range []struct {
		l    []api.Record
		want []byte
	}{
		{nil, nil}, {list(), nil},
		{list(258, -1), []byte{0, 0, 0, 0, 0, 0, 1, 2, 255, 255, 255, 255, 255, 255, 255, 255}},
		{list(0x0102030405060708, 0x1112131415161718), []byte{1, 2, 3, 4, 5, 6, 7, 8, 0x11, 0x12, 0x13, 0x14, 0x15, 0x16, 0x17, 0x18}},
		{list(math.MinInt64, math.MaxInt64), []byte{128, 0, 0, 0, 0, 0, 0, 0, 127, 255, 255, 255, 255, 255, 255, 255}},
		{list(2, 1, 1, 5), []byte{0, 0, 0, 0, 0, 0, 0, 2, 0, 0, 0, 0, 0, 0, 0, 1, 0, 0, 0, 0, 0, 0, 0, 1, 0, 0, 0, 0, 0, 0, 0, 5}}, // in their order, not sorted
	} {
		if b := value.Put(x.l); !bytes.Equal(b, x.want) {
			t.Errorf("%d: Put(%v) is %v", i, x.l, b)
		}
		if l, e := value.Get(x.want); !slices.Equal(l, x.l) || e != api.OK {
			t.Errorf("%d: Get(%v) is %v, %d", i, x.want, l, e)
		}
	}
	c := &chances{seed: 3}
	for n := range 300 {
		l := c.row(n, 200, 200)
		b := value.Put(l)
		if !bytes.Equal(b, putByWords(l)) {
			t.Fatalf("Put(%v) is %v", l, b)
		}
		if got, e := value.Get(b); !slices.Equal(got, l) || e != api.OK {
			t.Fatalf("Get of the bytes of %v is %v, %d", l, got, e)
		}
	}
}

// TestGet: any bytes are records' bytes if they are as many as those of some records, and none but these.
func TestGet(t *testing.T) {
	c := &chances{seed: 4}
	for n := range 200 {
		b := make([]byte, n)
		for i := range b {
			b[i] = byte(c.next(256))
		}
		l, e := value.Get(b)
		if n%16 != 0 && (l != nil || e != 2) {
			t.Errorf("of %d bytes: %v, %d", n, l, e)
		}
		if n%16 == 0 && (len(l) != n/16 || e != api.OK || !bytes.Equal(putByWords(l), b)) {
			t.Errorf("of %v: %v, %d", b, l, e)
		}
	}
	for at := range 32 {
		for x := range 256 {
			b := make([]byte, 32)
			b[at] = byte(x)
			if l, e := value.Get(b); len(l) != 2 || e != api.OK || !bytes.Equal(putByWords(l), b) {
				t.Errorf("of %v: %v, %d", b, l, e)
			}
		}
	}
}
