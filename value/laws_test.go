package value_test

import (
	"bytes"
	"slices"
	"sync"
	"testing"

	"tailrace/api"
	"tailrace/value"
)

// These tests go through what follows, and is promised (P12.9), and through what is handed in and answered (P12.8).

// cut is l in pieces, some of them empty.
func (c *chances) cut(l []api.Record) [][]api.Record {
	var pieces [][]api.Record
	for len(l) > 0 {
		n := c.next(min(len(l), 9) + 1)
		pieces = append(pieces, l[:n])
		l = l[n:]
	}
	return pieces
}

// TestAnyOrder: Add is the same in whatever order, and however rows are cut.
func TestAnyOrder(t *testing.T) {
	c := &chances{seed: 10}
	for i := range 500 {
		l := c.row(c.next(100), 2+i%60, 40)
		want := value.Add(l)
		for range 5 {
			if got := value.Add(c.cut(c.mixed(l))...); !slices.Equal(got, want) {
				t.Fatalf("%v is put together as %v, and as %v", l, got, want)
			}
		}
		n := c.next(len(l) + 1)
		a, b := l[:n], l[n:]
		if !slices.Equal(value.Add(a, b), want) || !slices.Equal(value.Add(b, a), want) || !slices.Equal(value.Add(value.Add(a), value.Sorted(b), nil), want) {
			t.Fatalf("%v and %v are not put together as %v", a, b, want)
		}
	}
}

// TestUndone: Less undoes Add, and Add undoes Less.
func TestUndone(t *testing.T) {
	c := &chances{seed: 11}
	undone := 0
	for i := range 2000 {
		a, b := c.row(c.next(12), 1+i%4, 1+i%3), c.row(c.next(6), 1+i%4, 1+i%3)
		if l, ok := value.Less(value.Add(a, b), b); !ok || !slices.Equal(l, value.Sorted(a)) {
			t.Fatalf("%v and %v, less these: %v, %t", a, b, l, ok)
		}
		if l, ok := value.Less(a, b); ok {
			undone++
			if !value.Same(value.Add(l, b), a) {
				t.Fatalf("%v less %v is %v, and with these again %v", a, b, l, value.Add(l, b))
			}
		}
	}
	if undone < 300 {
		t.Errorf("only %d were there", undone)
	}
}

// TestAlike: rows that are the same are sorted alike, and others aren't.
func TestAlike(t *testing.T) {
	all := rows(few(), 4)
	for _, a := range all {
		for _, b := range all {
			if value.Same(a, b) != slices.Equal(value.Sorted(a), value.Sorted(b)) {
				t.Fatalf("%v and %v: same %t, sorted %v and %v", a, b, value.Same(a, b), value.Sorted(a), value.Sorted(b))
			}
		}
	}
}

// TestOnlyRead: what is handed in stays as it is, what lies behind its length too.
func TestOnlyRead(t *testing.T) {
	l := list(9, 9, 3, 1, 2, 2, 3, 0, 2, 2, 8, 8, 1, 1)
	was := slices.Clone(l)
	a, b := l[:3], l[3:5]
	rows := [][]api.Record{b, a, nil, l[1:2]}
	kept := slices.Clone(rows)
	bytesOf := append(value.Put(l), 1, 2, 3)
	putWas := bytes.Clone(bytesOf)
	value.Sorted(a)
	value.Same(a, l[2:5])
	value.Same(a, l[:3])
	value.Add(rows...)
	value.Add(rows[:2]...)
	value.Add(a, b)
	value.Less(l[:5], b)
	value.Less(b, a)
	value.Put(a)
	value.Get(bytesOf[:16])
	value.Get(bytesOf[:17])
	if !slices.Equal(l, was) || !bytes.Equal(bytesOf, putWas) {
		t.Errorf("changed: %v, %v", l, bytesOf)
	}
	for i := range rows {
		if !slices.Equal(rows[i], kept[i]) || len(rows[i]) > 0 && &rows[i][0] != &kept[i][0] {
			t.Errorf("row %d changed: %v", i, rows[i])
		}
	}
}

// answers are what the calls that answer records answer of a and b.
func answers(a, b []api.Record) [][]api.Record {
	all, _ := value.Less(a, nil)
	some, _ := value.Less(a, b)
	whole, _ := value.Less(value.Add(a, b), b)
	got, _ := value.Get(value.Put(a))
	return [][]api.Record{value.Sorted(a), value.Sorted(b), value.Add(a), value.Add(nil, a), value.Add(a, nil), value.Add(a, b), all, some, whole, got}
}

// TestNewMemory: what is answered hangs together neither with what was handed in nor with another answer.
func TestNewMemory(t *testing.T) {
	a, b := list(1, 1, 2, 2, 3, 3, 3, 3), list(2, 2, 3, 3)
	first := answers(a, b)
	want := answers(a, b)
	for i, l := range first {
		spoil(l)
		for j, other := range first {
			if j > i && !slices.Equal(other, want[j]) {
				t.Errorf("answer %d was spoilt with %d", j, i)
			}
		}
	}
	if !slices.Equal(a, list(1, 1, 2, 2, 3, 3, 3, 3)) || !slices.Equal(b, list(2, 2, 3, 3)) {
		t.Errorf("what was handed in was spoilt: %v, %v", a, b)
	}
	kept := answers(a, b)
	spoil(a)
	spoil(b)
	for i, l := range kept {
		if !slices.Equal(l, want[i]) {
			t.Errorf("answer %d was spoilt with what was handed in", i)
		}
	}
	p := value.Put(want[0])
	q := value.Put(want[0])
	l, _ := value.Get(p)
	clear(p[:cap(p)])
	if !slices.Equal(l, want[0]) || !bytes.Equal(q, putByWords(want[0])) {
		t.Errorf("bytes that were answered are kept: %v, %v", l, q)
	}
}

// spoil changes all there is of l, behind its length too.
func spoil(l []api.Record) {
	l = l[:cap(l)]
	for i := range l {
		l[i] = api.Record{Key: -77, Val: -77}
	}
}

// TestNothingThere: nil and empty rows are the same, and what is answered of them is empty.
func TestNothingThere(t *testing.T) {
	for _, a := range [][]api.Record{nil, {}, list(1, 5)[:0]} {
		for _, b := range [][]api.Record{nil, {}, list(2, 0)[:0]} {
			if l, ok := value.Less(a, b); len(l) != 0 || !ok {
				t.Errorf("Less: %v, %t", l, ok)
			}
			if l, ok := value.Less(a, list(0, 0)); len(l) != 0 || ok {
				t.Errorf("Less one: %v, %t", l, ok)
			}
			if !value.Same(a, b) || value.Same(a, list(0, 0)) || value.Same(list(0, 0), b) {
				t.Error("Same")
			}
			if l := value.Add(a, b); len(l) != 0 {
				t.Errorf("Add: %v", l)
			}
		}
		if l, b := value.Sorted(a), value.Put(a); len(l) != 0 || len(b) != 0 {
			t.Errorf("Sorted, Put: %v, %v", l, b)
		}
	}
	for _, b := range [][]byte{nil, {}} {
		if l, e := value.Get(b); len(l) != 0 || e != api.OK {
			t.Errorf("Get: %v, %d", l, e)
		}
	}
}

// TestAtOnce: calls at the same time of the same rows answer as one by one.
func TestAtOnce(t *testing.T) {
	c := &chances{seed: 12}
	a := c.row(500, 40, 40)
	b := c.mixed(a)[:200]
	want := answers(a, b)
	var w sync.WaitGroup
	for range 8 {
		w.Go(func() {
			for i, l := range answers(a, b) {
				if !slices.Equal(l, want[i]) {
					t.Errorf("answer %d is another one", i)
				}
			}
		})
	}
	w.Wait()
}
