package disk_test

import (
	"math/rand"
	"slices"
	"strings"
	"testing"

	"tailrace/api"
	"tailrace/disk"
)

// paper is a disk as the chapter's words have it: a list of files, sorted by their names, gone through from its beginning on each time.
type paper struct {
	room, steps int
	fail        int // below 0: none
	off         bool
	files       []page
}

type page struct {
	name, sure, unsure string
	made               bool
}

func (p *paper) used() int {
	n := 0
	for _, f := range p.files {
		n += len(f.sure) + len(f.unsure)
	}
	return n
}

func (p *paper) at(name string) int {
	return slices.IndexFunc(p.files, func(f page) bool { return f.name == name })
}

func (p *paper) put(f page) {
	p.files = append(p.files, f)
	slices.SortFunc(p.files, func(a, b page) int { return strings.Compare(a.name, b.name) })
}

func (p *paper) take(name string) page {
	i := p.at(name)
	f := p.files[i]
	p.files = slices.Delete(p.files, i, i+1)
	return f
}

func (p *paper) copy() *paper {
	c := *p
	c.files = slices.Clone(p.files)
	return &c
}

// goes counts a deed, and tells whether the power goes at it.
func (p *paper) goes() bool {
	p.steps++
	p.off = p.fail == 0
	p.fail--
	return p.off
}

func (p *paper) wrong(mustBe bool, names ...string) api.Errno {
	if p.off {
		return api.ErrDisk
	}
	for _, name := range names {
		if name == "" || len(name) > 128 {
			return api.ErrArg
		}
	}
	if mustBe && p.at(names[0]) < 0 {
		return api.ErrNone
	}
	return api.OK
}

func (p *paper) append(name, b string) api.Errno {
	if e := p.wrong(false, name); e != api.OK {
		return e
	}
	f := page{name: name}
	if p.at(name) >= 0 {
		f = p.files[p.at(name)]
	}
	if len(f.sure)+len(f.unsure)+len(b) > disk.MaxDisk {
		return api.ErrLimit
	}
	if p.used()+len(b) > p.room {
		return api.ErrFull
	}
	if p.at(name) >= 0 {
		p.take(name)
	}
	f.unsure += b
	p.put(f)
	if p.goes() {
		return api.ErrDisk
	}
	return api.OK
}

// change does a deed that leaves a file with n bytes, all sure, and a name; or takes it away, if there is no name.
func (p *paper) change(name, to string, n int) api.Errno {
	if p.goes() {
		return api.ErrDisk
	}
	f := p.take(name)
	if to == "" {
		return api.OK
	}
	if p.at(to) >= 0 {
		p.take(to)
	}
	p.put(page{name: to, sure: (f.sure + f.unsure)[:n], made: true})
	return api.OK
}

func (p *paper) length(name string) int {
	f := p.files[p.at(name)]
	return len(f.sure) + len(f.unsure)
}

func (p *paper) sync(name string) api.Errno {
	if e := p.wrong(true, name); e != api.OK {
		return e
	}
	return p.change(name, name, p.length(name))
}

func (p *paper) cut(name string, n int) api.Errno {
	if e := p.wrong(true, name); e != api.OK {
		return e
	}
	if n < 0 || n > p.length(name) {
		return api.ErrArg
	}
	return p.change(name, name, n)
}

func (p *paper) rename(from, to string) api.Errno {
	if e := p.wrong(true, from, to); e != api.OK {
		return e
	}
	return p.change(from, to, p.length(from))
}

func (p *paper) remove(name string) api.Errno {
	if e := p.wrong(true, name); e != api.OK {
		return e
	}
	return p.change(name, "", 0)
}

func (p *paper) on(keep []int) {
	p.fail = -1
	if !p.off {
		return
	}
	p.off = false
	var stay []page
	for i, f := range p.files {
		n := 0
		if i < len(keep) {
			n = remainder(keep[i], len(f.unsure)+1)
		}
		f.sure, f.unsure = f.sure+f.unsure[:n], ""
		if f.made || f.sure != "" {
			f.made = true
			stay = append(stay, f)
		}
	}
	p.files = stay
}

// pair is a disk, and what it is on paper.
type pair struct {
	d *disk.Disk
	p *paper
}

func (x pair) same(t *testing.T) bool {
	t.Helper()
	var names []string
	ok := true
	for _, f := range x.p.files {
		names = append(names, f.name)
		b, e := x.d.Read(f.name)
		if x.p.off {
			ok = ok && len(b) == 0 && e == api.ErrDisk
		} else {
			ok = ok && string(b) == f.sure+f.unsure && e == api.OK
		}
	}
	return ok && slices.Equal(x.d.Names(), names) && x.d.Used() == x.p.used() && x.d.Steps() == int64(x.p.steps) && x.d.Off() == x.p.off
}

func someBytes(noise *rand.Rand) string {
	b := make([]byte, noise.Intn(9))
	noise.Read(b)
	return string(b)
}

func someKeep(noise *rand.Rand) []int {
	keep := make([]int, noise.Intn(8))
	for i := range keep {
		keep[i] = noise.Intn(40) - 15
	}
	return keep
}

// walk does one thing to both, and tells the two errors.
func (x pair) walk(noise *rand.Rand) (got, want api.Errno) {
	names := []string{"a", "b", "c", "ab", "s.1", "s.10", "", strings.Repeat("x", 128), strings.Repeat("x", 129)}
	name, other := names[noise.Intn(len(names))], names[noise.Intn(len(names))]
	n := noise.Intn(14) - 2
	switch noise.Intn(20) {
	default:
		b := someBytes(noise)
		return x.d.Append(name, []byte(b)), x.p.append(name, b)
	case 0, 1, 2:
		return x.d.Sync(name), x.p.sync(name)
	case 3, 4:
		return x.d.Cut(name, n), x.p.cut(name, n)
	case 5, 6, 7:
		return x.d.Rename(name, other), x.p.rename(name, other)
	case 8:
		return x.d.Remove(name), x.p.remove(name)
	case 9:
		x.d.Fail(n)
		x.p.fail = n
	case 10:
		x.d.Crash()
		x.p.off, x.p.fail = true, -1
	case 11, 12:
		keep := someKeep(noise)
		x.d.On(keep)
		x.p.on(keep)
	}
	return api.OK, api.OK
}

// TestWalk does many things at random to disks, and to what they are on paper.
func TestWalk(t *testing.T) {
	noise := rand.New(rand.NewSource(3))
	for round := range 300 {
		room := noise.Intn(60)
		x := pair{disk.New(room), &paper{room: room, fail: -1}}
		var left pair
		for step := range 200 {
			got, want := x.walk(noise)
			if got != want {
				t.Fatalf("round %d, step %d: the error %d, want %d", round, step, got, want)
			}
			if !x.same(t) {
				t.Fatalf("round %d, step %d: the disk has %q, %s, off %t; on paper it is %+v", round, step, x.d.Names(), numbers(x.d), x.d.Off(), x.p)
			}
			if noise.Intn(20) == 0 {
				if left.d != nil && !left.same(t) {
					t.Fatalf("round %d, step %d: a copy was changed by what was done to the disk", round, step)
				}
				left = pair{x.d.Copy(), x.p.copy()}
				if noise.Intn(2) == 0 {
					x, left = left, x
				}
			}
		}
	}
}

// TestSameCalls: the same calls on two disks make the same disks.
func TestSameCalls(t *testing.T) {
	for seed := range int64(20) {
		one := pair{disk.New(40), &paper{room: 40, fail: -1}}
		two := pair{disk.New(40), &paper{room: 40, fail: -1}}
		n, m := rand.New(rand.NewSource(seed)), rand.New(rand.NewSource(seed))
		for range 300 {
			a, _ := one.walk(n)
			b, _ := two.walk(m)
			if a != b {
				t.Fatalf("the same calls answer %d and %d", a, b)
			}
		}
		if a, b := whole(t, one.d), whole(t, two.d); a != b {
			t.Fatalf("the same calls make %q and %q", a, b)
		}
	}
}

// log are deeds as one who keeps a log does them: two files, of which the one is written anew and gets the other's name.
func log() []func(d *disk.Disk) api.Errno {
	return []func(d *disk.Disk) api.Errno{
		func(d *disk.Disk) api.Errno { return d.Append("log", []byte("one")) },
		func(d *disk.Disk) api.Errno { return d.Sync("log") },
		func(d *disk.Disk) api.Errno { return d.Append("log", []byte("two")) },
		func(d *disk.Disk) api.Errno { return d.Append("log", []byte("three")) },
		func(d *disk.Disk) api.Errno { return d.Append("new", []byte("ONE")) },
		func(d *disk.Disk) api.Errno { return d.Append("new", []byte("TWO")) },
		func(d *disk.Disk) api.Errno { return d.Rename("new", "log") },
		func(d *disk.Disk) api.Errno { return d.Append("log", []byte("THREE")) },
		func(d *disk.Disk) api.Errno { return d.Append("new", []byte("again")) },
		func(d *disk.Disk) api.Errno { return d.Cut("log", 7) },
		func(d *disk.Disk) api.Errno { return d.Append("log", []byte("four")) },
	}
}

// TestSureStays: wherever the power goes, and whatever stays, of each file what was sure is there, and behind it a beginning of what was put behind.
func TestSureStays(t *testing.T) {
	for at := range log() {
		// What is sure of the file, and what is put behind it, when the power goes at this deed.
		sure := []string{"", "", "one", "one", "one", "one", "one", "ONETWO", "ONETWO", "ONETWO", "ONETWOT"}[at]
		all := []string{"one", "one", "onetwo", "onetwothree", "onetwothree", "onetwothree", "onetwothree", "ONETWOTHREE", "ONETWOTHREE", "ONETWOTHREE", "ONETWOTfour"}[at]
		seen := map[string]bool{}
		for keep := range 40 {
			d := disk.New(100)
			d.Fail(at)
			for i, deed := range log() {
				want := api.OK
				if i >= at {
					want = api.ErrDisk
				}
				told(t, "a deed", deed(d), want)
			}
			d.On([]int{keep, 5 * keep})
			b, _ := d.Read("log")
			seen[string(b)] = true
			if !strings.HasPrefix(string(b), sure) || !strings.HasPrefix(all, string(b)) {
				t.Errorf("the power goes at %d, keep %d: the file has %q, of which %q was sure, of %q", at, keep, b, sure, all)
			}
			if e := d.Sync("log"); sure != "" && e != api.OK {
				t.Errorf("the power goes at %d, keep %d: there is no file that was made", at, keep)
			}
			before := text(t, d)
			d.Crash()
			d.On(nil)
			holds(t, "when the power goes again", d, before)
		}
		if len(seen) != len(all)-len(sure)+1 {
			t.Errorf("the power goes at %d: %d beginnings stay, want %d", at, len(seen), len(all)-len(sure)+1)
		}
	}
}

// TestRenamedHasOneName: a file that was made has the one name or the other, and all of its bytes, wherever the power goes.
func TestRenamedHasOneName(t *testing.T) {
	for at := range 4 {
		for keep := range 8 {
			d := disk.New(100)
			done(t, d.Append("new", []byte("whole")))
			done(t, d.Sync("new"))
			done(t, d.Append("old", []byte("ahead")))
			done(t, d.Sync("old"))
			d.Fail(at)
			d.Append("x", []byte("xx"))
			e := d.Rename("new", "old")
			d.Append("y", []byte("yy"))
			d.Sync("y")
			d.Crash()
			d.On([]int{keep, keep, keep, keep})
			old, _ := d.Read("old")
			fresh, _ := d.Read("new")
			if got := string(fresh) + "," + string(old); e == api.OK && got != ",whole" || e != api.OK && got != "whole,ahead" {
				t.Errorf("the power goes at %d, keep %d: the Rename answers %d, and the files are %s", at, keep, e, got)
			}
		}
	}
}
