package wal_test

import (
	"encoding/binary"
	"fmt"
	"math/big"
	"math/rand"
	"regexp"
	"slices"
	"strings"
	"testing"

	"tailrace/api"
	"tailrace/disk"
	"tailrace/wal"
)

// paper is a log as the chapter's words have it: a list of records, gone through from its beginning on each time, on a disk of its own.
type paper struct {
	d                 *disk.Disk
	lines             []line
	segments          []int64
	first, next, sure int64
	broken            bool
}

// line is a record, and the number of the segment that it stands in.
type line struct {
	number, segment int64
	b               string
}

func segmentName(n int64) string { return fmt.Sprint("s.", n) }

func openPaper(d *disk.Disk) (*paper, api.Errno) {
	if d.Off() {
		return nil, api.ErrDisk
	}
	p := &paper{d: d, first: 1, next: 1, sure: 1}
	names := regexp.MustCompile(`^s\.[1-9][0-9]*$`)
	for _, name := range d.Names() {
		n, _ := new(big.Int).SetString(strings.TrimPrefix(name, "s."), 10)
		if names.MatchString(name) && n.Cmp(big.NewInt(1<<62)) <= 0 {
			p.segments = append(p.segments, n.Int64())
		}
	}
	slices.Sort(p.segments)
	size, left := 0, ""
	for i, n := range p.segments {
		if i == 0 {
			p.first, p.next = n, n
		}
		if left != "" || p.next != n {
			return nil, api.ErrWal
		}
		b, _ := d.Read(segmentName(n))
		size, left = len(b), p.readSegment(n, string(b))
	}
	p.sure = p.next
	if len(p.segments) > 0 {
		return p.settled(p.segments[len(p.segments)-1], size, len(left))
	}
	return p, api.OK
}

// readSegment takes records of the next numbers from the beginning of bytes, and tells what is left.
func (p *paper) readSegment(n int64, b string) string {
	for len(b) >= 17 {
		size := int(binary.BigEndian.Uint32([]byte(b[9:13])))
		if size > 262144 || len(b) < 17+size || b[:17+size] != row(p.next, b[13:13+size]) {
			break
		}
		p.lines = append(p.lines, line{p.next, n, b[13 : 13+size]})
		p.next++
		b = b[17+size:]
	}
	return b
}

func (p *paper) settled(n int64, size, behind int) (*paper, api.Errno) {
	e := api.OK
	if behind > 0 {
		e = p.d.Cut(segmentName(n), size-behind)
	}
	if behind == 0 {
		e = p.d.Sync(segmentName(n))
	}
	if e != api.OK {
		return nil, e
	}
	return p, api.OK
}

func (p *paper) meets(e api.Errno) api.Errno {
	p.broken = p.broken || e == api.ErrDisk
	return e
}

func (p *paper) append(b string) api.Errno {
	if p.broken {
		return api.ErrDisk
	}
	if len(b) > 262144 {
		return api.ErrLimit
	}
	segment, size := int64(0), 0
	if len(p.segments) > 0 {
		segment = p.segments[len(p.segments)-1]
	}
	for _, x := range p.lines {
		if x.segment == segment {
			size += 17 + len(x.b)
		}
	}
	if segment == 0 || size >= 2048 {
		segment = p.next
		if p.sure < p.next {
			if e := p.commit(); e != api.OK {
				return e
			}
		}
	}
	if e := p.meets(p.d.Append(segmentName(segment), []byte(row(p.next, b)))); e != api.OK {
		return e
	}
	if !slices.Contains(p.segments, segment) {
		p.segments = append(p.segments, segment)
	}
	p.lines = append(p.lines, line{p.next, segment, b})
	p.next++
	return api.OK
}

func (p *paper) commit() api.Errno {
	if p.broken {
		return api.ErrDisk
	}
	if p.sure == p.next {
		return api.OK
	}
	if e := p.meets(p.d.Sync(segmentName(p.segments[len(p.segments)-1]))); e != api.OK {
		return e
	}
	p.sure = p.next
	return api.OK
}

func (p *paper) drop(below int64) api.Errno {
	if p.broken {
		return api.ErrDisk
	}
	for len(p.segments) > 1 {
		n := p.segments[0]
		if slices.ContainsFunc(p.lines, func(x line) bool { return x.segment == n && x.number >= below }) {
			return api.OK
		}
		if e := p.meets(p.d.Remove(segmentName(n))); e != api.OK {
			return e
		}
		p.lines = slices.DeleteFunc(p.lines, func(x line) bool { return x.segment == n })
		p.segments = p.segments[1:]
		p.first = p.segments[0]
	}
	return api.OK
}

// tells is what answers tells of a log.
func (p *paper) tells() string {
	broken := 0
	if p.broken {
		broken = 30
	}
	all := fmt.Sprintf("first %d, next %d, sure %d, %d segments, broken %d", p.first, p.next, p.sure, len(p.segments), broken)
	for k := p.first - 2; k < p.next+3; k++ {
		i := slices.IndexFunc(p.lines, func(x line) bool { return x.number == k })
		b := ""
		if i >= 0 {
			b = p.lines[i].b
		}
		all += fmt.Sprintf(", %d %t %s", k, i >= 0, said(b))
	}
	return all
}

// pair is a log, what it is on paper, and a disk of each.
type pair struct {
	d, onPaper *disk.Disk
	l          *wal.Log
	p          *paper
}

func newPair(room int) *pair { return &pair{d: disk.New(room), onPaper: disk.New(room)} }

// both does one thing to both disks.
func (x *pair) both(do func(d *disk.Disk)) {
	do(x.d)
	do(x.onPaper)
}

func (x *pair) open() (got, want api.Errno) {
	x.l, got = wal.Open(x.d)
	x.p, want = openPaper(x.onPaper)
	return got, want
}

// same finds fault with a log that isn't what it is on paper.
func (x *pair) same(t *testing.T, what string) {
	t.Helper()
	if got, want := onDisk(t, x.d), onDisk(t, x.onPaper); got != want {
		t.Fatalf("%s: the disk is %s, want %s", what, got, want)
	}
	if (x.l == nil) != (x.p == nil) {
		t.Fatalf("%s: there is a log: %t, want %t", what, x.l != nil, x.p != nil)
	}
	if x.l != nil && answers(x.l) != x.p.tells() {
		t.Fatalf("%s: %s, want %s", what, answers(x.l), x.p.tells())
	}
}

func someRecord(noise *rand.Rand) string {
	n := noise.Intn(40)
	switch noise.Intn(8) {
	case 0:
		n = 1900 + noise.Intn(200)
	case 1:
		n = 600 + noise.Intn(100)
	case 2:
		n = 0
	}
	if noise.Intn(1500) == 0 {
		n = wal.MaxRecord + noise.Intn(2)
	}
	return strings.Repeat(string(rune('a'+noise.Intn(26))), n)
}

// walk does one thing to both, and tells the two errors.
func (x *pair) walk(noise *rand.Rand) (got, want api.Errno) {
	switch n := noise.Intn(100); {
	case x.d.Off() && n < 40:
		keep := []int{noise.Int(), noise.Int(), -noise.Intn(50), noise.Intn(50), -1, 0}
		noise.Shuffle(len(keep), func(i, j int) { keep[i], keep[j] = keep[j], keep[i] })
		x.both(func(d *disk.Disk) { d.On(keep) })
	case n < 5 || x.l == nil && n < 50:
		return x.open()
	case n < 10:
		fuse := noise.Intn(8) - 1
		x.both(func(d *disk.Disk) { d.Fail(fuse) })
	case n < 12:
		x.both(func(d *disk.Disk) { d.Crash() })
	case n < 14:
		return x.spoil(noise)
	case x.l == nil:
	case n < 30:
		return x.l.Commit(), x.p.commit()
	case n < 40:
		below := x.p.first + int64(noise.Intn(12)) - 2
		return x.l.Drop(below), x.p.drop(below)
	default:
		b := someRecord(noise)
		return x.l.Append([]byte(b)), x.p.append(b)
	}
	return api.OK, api.OK
}

// spoil does something to the files that is none of a log's business, and opens them.
func (x *pair) spoil(noise *rand.Rand) (got, want api.Errno) {
	names := append(x.d.Names(), segmentName(int64(noise.Intn(5)-1)), "other")
	if x.l != nil {
		names = append(names, segmentName(x.l.Next()))
	}
	name := names[noise.Intn(len(names))]
	next := int64(noise.Intn(3))
	if x.l != nil && noise.Intn(3) > 0 {
		next = x.l.Next()
	}
	b := row(next, someRecord(noise)) + strings.Repeat("x", noise.Intn(2))
	n := noise.Intn(len(b)+20) - 20
	kind := noise.Intn(4)
	x.both(func(d *disk.Disk) {
		switch kind {
		case 0:
			d.Remove(name)
		case 1:
			d.Append(name, []byte(b))
		case 2:
			d.Append(name, []byte(b[:max(n, 0)]))
		case 3:
			whole, _ := d.Read(name)
			if len(whole) > 0 {
				whole[max(len(whole)-1-max(n, 0), 0)] ^= byte(n | 1)
			}
			d.Remove(name)
			d.Append(name, whole)
		}
	})
	return x.open()
}

// TestWalk does many things at random to logs, and to what they are on paper.
func TestWalk(t *testing.T) {
	noise := rand.New(rand.NewSource(4))
	seen := map[api.Errno]int{}
	for round := range 150 {
		room := []int{plenty, 3000 + noise.Intn(9000), noise.Intn(200)}[noise.Intn(3)]
		x := newPair(room)
		x.open()
		for step := range 120 {
			what := fmt.Sprintf("round %d, step %d", round, step)
			got, want := x.walk(noise)
			if got != want {
				t.Fatalf("%s: the error %d, want %d", what, got, want)
			}
			x.same(t, what)
			seen[got]++
		}
	}
	for _, e := range []api.Errno{api.OK, api.ErrDisk, api.ErrFull, api.ErrWal, api.ErrLimit} {
		if seen[e] == 0 {
			t.Errorf("nothing in all walks answers the error %d", e)
		}
	}
}

// TestSameCalls: the same calls make the same logs, and the same files.
func TestSameCalls(t *testing.T) {
	for seed := range int64(20) {
		one, two := newPair(8000), newPair(8000)
		n, m := rand.New(rand.NewSource(seed)), rand.New(rand.NewSource(seed))
		for range 200 {
			a, _ := one.walk(n)
			b, _ := two.walk(m)
			if a != b {
				t.Fatalf("the same calls answer %d and %d", a, b)
			}
		}
		if onDisk(t, one.d) != onDisk(t, two.d) || (one.l == nil) != (two.l == nil) || one.l != nil && answers(one.l) != answers(two.l) {
			t.Fatalf("the same calls make %s and %s", onDisk(t, one.d), onDisk(t, two.d))
		}
	}
}

// TestLogsByThemselves: what is done to a log changes nothing of one of another disk.
func TestLogsByThemselves(t *testing.T) {
	d, l, _ := segmented(t)
	before, answered := onDisk(t, d), answers(l)
	other, m, _ := segmented(t)
	appended(t, m, "i", long("j"), "k")
	done(t, m.Commit())
	done(t, m.Drop(9))
	other.Crash()
	told(t, "the other one", m.Append([]byte("l")), api.ErrDisk)
	if onDisk(t, d) != before || answers(l) != answered {
		t.Errorf("it is %s, %s", onDisk(t, d), answers(l))
	}
	told(t, "it", l.Commit(), api.OK)
}
