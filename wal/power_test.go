package wal_test

import (
	"fmt"
	"math/rand"
	"slices"
	"strings"
	"testing"

	"tailrace/api"
	"tailrace/disk"
	"tailrace/wal"
)

// run is a log, and what was done to it: the records that came to the disk, by their numbers, also the one at which the power went.
type run struct {
	d      *disk.Disk
	l      *wal.Log
	handed map[int64]string
	last   int64 // the highest of their numbers
}

func newRun(t *testing.T) *run {
	t.Helper()
	d := disk.New(plenty)
	return &run{d: d, l: opened(t, d), handed: map[int64]string{}}
}

func (x *run) append(b string) api.Errno {
	used, next := x.d.Used(), x.l.Next()
	e := x.l.Append([]byte(b))
	if x.d.Used() > used { // else the power went at the Commit ahead of it, or long ago
		x.last = next
		x.handed[next] = b
	}
	return e
}

// script is what one who keeps a log does to it: each kind of Append, Commit and Drop is there.
func script() []func(x *run) api.Errno {
	put := func(b string) func(x *run) api.Errno { return func(x *run) api.Errno { return x.append(b) } }
	drop := func(below int64) func(x *run) api.Errno {
		return func(x *run) api.Errno { return x.l.Drop(below) }
	}
	commit := func(x *run) api.Errno { return x.l.Commit() }
	return []func(x *run) api.Errno{
		put("one"), put(""), put("three"), commit,
		put("four"), put(long("5")), put("six"), // the last one begins a segment, behind a Commit
		put("seven"), commit, put("eight"),
		drop(3), drop(6),
		put(long("9")), commit, put("ten"), put(long("e")), // a segment that is begun with all ahead of it sure
		put("twelve"), drop(100), // of two segments, ahead of one of which nothing is sure
		put("thirteen"), commit, drop(100), put(long("n")), put("fifteen"),
	}
}

// keeps are numbers by which more or less stays of what is unsure: each of the first bytes, some of those amid, each of the last ones, and all.
func keeps() []int {
	var all []int
	for n := range 70 {
		all = append(all, n, -n-1)
	}
	for n := 100; n < 2200; n += 293 {
		all = append(all, n)
	}
	return all
}

// failed does the script till the power goes at a deed (or behind all of them), so much of what is unsure staying. It tells whether the power went at one.
func failed(t *testing.T, at, keep int) (*run, bool) {
	t.Helper()
	x := newRun(t)
	x.d.Fail(at)
	went := false
	for _, do := range script() {
		e := do(x)
		went = went || e == api.ErrDisk
		want := api.OK
		if went {
			want = api.ErrDisk
		}
		told(t, "a call of the script", e, want)
	}
	x.d.Crash()
	x.d.On(slices.Repeat([]int{keep}, 8))
	return x, went
}

// finds finds fault with what an opening has found, when the power has gone: sure records that aren't there, and others than came to the disk.
func (x *run) finds(t *testing.T, what string, l *wal.Log) {
	t.Helper()
	for k := x.l.First(); k < x.l.Sure(); k++ {
		if b, ok := l.Record(k); !ok || string(b) != x.handed[k] {
			t.Errorf("%s: the record %d, which was sure, is %t, %q, and was %q", what, k, ok, b, x.handed[k])
		}
	}
	none := l.Segments() == 0 && x.l.First() == x.l.Sure()
	if !none && l.First() != x.l.First() || l.Next() > x.last+1 || l.Sure() != l.Next() {
		t.Errorf("%s: first %d, next %d, sure %d; it was first %d, and %d the last that came to the disk", what, l.First(), l.Next(), l.Sure(), x.l.First(), x.last)
	}
	for k := l.First(); k < l.Next(); k++ {
		if b, ok := l.Record(k); !ok || string(b) != x.handed[k] {
			t.Errorf("%s: the record %d is %t, %q, and was %q", what, k, ok, b, x.handed[k])
		}
	}
}

// again finds fault with an opening that finds something else than the one ahead of it.
func again(t *testing.T, what string, d *disk.Disk, l *wal.Log) {
	t.Helper()
	d.Fail(-1)
	before := files(t, d)
	for i, keep := range [][]int{nil, {0}, {-1, -1, -1, -1}} {
		if i > 0 {
			d.Crash()
			d.On(keep)
		}
		other := opened(t, d)
		if answers(other) != answers(l) {
			t.Errorf("%s: %s, and opened again %s", what, answers(l), answers(other))
		}
		if after := files(t, d); after != before {
			t.Errorf("%s: %s, and opened again %s", what, before, after)
		}
	}
}

// TestPowerGoes: wherever the power goes, and whatever stays, all that was sure is there, and a beginning of the rest.
func TestPowerGoes(t *testing.T) {
	for at := range 100 {
		next := map[int64]bool{}
		went := false
		for _, keep := range keeps() {
			var x *run
			x, went = failed(t, at, keep)
			what := fmt.Sprintf("the power goes at %d, keep %d", at, keep)
			l := opened(t, x.d)
			x.finds(t, what, l)
			again(t, what, x.d, l)
			next[l.Next()] = true
			if keep == 0 && l.Segments() > 0 && l.Next() != x.l.Sure() {
				t.Errorf("%s: next %d, though %d was the first that was not sure", what, l.Next(), x.l.Sure())
			}
			if keep == -1 && l.Next() != x.last+1 {
				t.Errorf("%s: next %d, though all stays of %d", what, l.Next(), x.last)
			}
			if keep == 0 {
				for k := x.l.Sure(); k <= x.last; k++ {
					next[k+1] = next[k+1] || false
				}
			}
		}
		for k, seen := range next {
			if !seen {
				t.Errorf("the power goes at %d: no opening has %d as its next number", at, k)
			}
		}
		if !went {
			return
		}
	}
	t.Error("the script has no end")
}

// TestPowerGoesAtOpenings: so it is when the power goes at openings, too, over and over.
func TestPowerGoesAtOpenings(t *testing.T) {
	for at := range 100 {
		went := false
		for _, keep := range []int{0, 1, 16, 17, 21, 22, 23, 40, 1500, -1, -2, -19, -30} {
			for _, then := range []int{0, 1, 20, 22, -1, -2} {
				var x *run
				x, went = failed(t, at, keep)
				what := fmt.Sprintf("the power goes at %d, keep %d, then %d", at, keep, then)
				for range 2 {
					x.d.Fail(0)
					l, e := wal.Open(x.d)
					if e == api.ErrDisk && l == nil {
						x.d.On([]int{then, then, then, then})
					} else if e != api.OK || len(x.d.Names()) > 0 {
						t.Errorf("%s: an opening at which it goes: %v, the error %d", what, l, e)
					}
				}
				x.d.Fail(-1)
				l := opened(t, x.d)
				x.finds(t, what, l)
				again(t, what, x.d, l)
			}
		}
		if !went {
			return
		}
	}
	t.Error("the script has no end")
}

// TestGoesOn: a log that was opened when the power had gone goes on as any other one.
func TestGoesOn(t *testing.T) {
	for at := range 100 {
		went := false
		for _, keep := range []int{0, 3, 18, 25, 2000, -1, -2} {
			var x *run
			x, went = failed(t, at, keep)
			what := fmt.Sprintf("the power goes at %d, keep %d", at, keep)
			l := opened(t, x.d)
			next := l.Next()
			var list []string
			for k := l.First(); k < next; k++ {
				b, _ := l.Record(k)
				list = append(list, string(b))
			}
			list = append(list, "behind it", long("b"), "behind that")
			appended(t, l, list[len(list)-3:]...)
			done(t, l.Commit())
			tells(t, what, opened(t, x.d), l.First(), next+3, l.Segments(), list...)
			done(t, l.Drop(next+3))
			tells(t, what+", and a Drop", opened(t, x.d), l.First(), next+3, l.Segments(), list[len(list)-int(next+3-l.First()):]...)
		}
		if !went {
			return
		}
	}
	t.Error("the script has no end")
}

// TestPowerOverAndOver: many lives of one log, each ended by the power, at random.
func TestPowerOverAndOver(t *testing.T) {
	noise := rand.New(rand.NewSource(4))
	for round := range 30 {
		x := newRun(t)
		for life := range 60 {
			x.d.Fail(noise.Intn(12))
			for step := 0; step < 40 && !x.d.Off(); step++ {
				switch noise.Intn(10) {
				default:
					x.append(strings.Repeat(string(rune('a'+noise.Intn(26))), noise.Intn(60)))
				case 0, 1:
					x.append(strings.Repeat("L", 1900+noise.Intn(300)))
				case 2, 3:
					x.l.Commit()
				case 4:
					x.l.Drop(x.l.Next() - int64(noise.Intn(8)))
				}
			}
			x.d.Crash()
			x.d.On([]int{noise.Int(), noise.Int(), noise.Int(), noise.Int()})
			for x.d.Fail(noise.Intn(3)); ; x.d.Fail(noise.Intn(3)) {
				if l, e := wal.Open(x.d); e == api.OK {
					x.finds(t, fmt.Sprint("round ", round, ", life ", life), l)
					again(t, fmt.Sprint("round ", round, ", life ", life), x.d, l)
					x.l, x.last = l, l.Next()-1
					break
				} else if e != api.ErrDisk {
					t.Fatalf("round %d, life %d: an opening: the error %d", round, life, e)
				}
				x.d.On([]int{noise.Int(), noise.Int(), noise.Int(), noise.Int()})
			}
		}
	}
}
