package disk_test

import (
	"math"
	"slices"
	"strconv"
	"strings"
	"testing"

	"tailrace/api"
	"tailrace/disk"
)

// remainder is what is left of a number divided by a greater one than 0, from 0 on, found without a division.
func remainder(n, m int) int {
	for step := math.MaxInt / m; step > 0; step /= 2 {
		for n >= step*m {
			n -= step * m
		}
		for n < 0 && n <= -step*m {
			n += step * m
		}
	}
	if n < 0 {
		n += m
	}
	return n
}

func TestKeep(t *testing.T) {
	keeps := []int{math.MinInt, math.MinInt + 1, math.MinInt32, math.MaxInt32, math.MaxInt - 1, math.MaxInt}
	for n := -20; n <= 20; n++ {
		keeps = append(keeps, n)
	}
	bytes := "0123456789"
	for sure := range 4 {
		for unsure := range 7 {
			for _, keep := range keeps {
				d := disk.New(100)
				done(t, d.Append("a", []byte(bytes[:sure])))
				done(t, d.Sync("a"))
				done(t, d.Append("a", []byte(bytes[sure:sure+unsure])))
				d.Crash()
				d.On([]int{keep})
				want := "a:" + bytes[:sure+remainder(keep, unsure+1)]
				holds(t, strconv.Itoa(sure)+" sure, "+strconv.Itoa(unsure)+" unsure bytes, keep "+strconv.Itoa(keep), d, want)
				if got := surely(t, d); got != want {
					t.Errorf("what stays is sure: %q, want %q", got, want)
				}
			}
		}
	}
}

// TestKeepOfWhich: the i-th number is that of the i-th name, also of one without unsure bytes, and of one that is gone then.
func TestKeepOfWhich(t *testing.T) {
	for _, x := range []struct {
		keep []int
		want string
	}{
		{nil, "b:bb d: e:"},
		{[]int{}, "b:bb d: e:"},
		{[]int{1}, "a:a b:bb d: e:"},
		{[]int{0, 1}, "b:bb d: e:"},
		{[]int{0, 0, 1}, "b:bb d: e:"},
		{[]int{0, 0, 0, 1}, "b:bb d:d e:"},
		{[]int{0, 0, 0, 0, 1}, "b:bb d: e:e"},
		{[]int{0, 0, 0, 0, 0, 1}, "b:bb d: e: f:f"},
		{[]int{0, 0, 0, 0, 0, 0, 1}, "b:bb d: e:"},
		{[]int{2, 7, 7, 2, 2, 2, 2, 2, 2}, "a:aa b:bb d:dd e:ee f:ff"},
		{[]int{-1, -1, -1, -1, -1, -1}, "a:aa b:bb d:dd e:ee f:ff"},
		{[]int{3, 3, 3, 4, 5, 3}, "b:bb d:d e:ee"},
	} {
		d := disk.New(100)
		for _, name := range []string{"f", "d", "a", "e"} { // the order in which they came is none
			done(t, d.Append(name, nil))
		}
		done(t, d.Append("b", []byte("bb")))
		done(t, d.Append("c", nil)) // unsure, and without a byte
		for _, name := range []string{"b", "d", "e"} {
			done(t, d.Sync(name))
		}
		for _, name := range []string{"e", "a", "f", "d"} {
			done(t, d.Append(name, []byte(name+name)))
		}
		d.Crash()
		keep := slices.Clone(x.keep)
		d.On(keep)
		holds(t, "behind what stays", d, x.want)
		if !slices.Equal(keep, x.keep) {
			t.Errorf("On changed %v to %v", x.keep, keep)
		}
	}
}

// TestMade: a file that was made sure of stays, also without a byte; another one is gone, if no byte of it stays.
func TestMade(t *testing.T) {
	empty := func(d *disk.Disk) { done(t, d.Append("a", nil)) }
	for what, x := range map[string]struct {
		make func(d *disk.Disk)
		want string
	}{
		"Append of nothing":         {func(d *disk.Disk) { empty(d) }, ""},
		"Append twice":              {func(d *disk.Disk) { empty(d); empty(d) }, ""},
		"Append of a byte":          {func(d *disk.Disk) { done(t, d.Append("a", []byte("1"))) }, ""},
		"Sync":                      {func(d *disk.Disk) { empty(d); done(t, d.Sync("a")) }, "a:"},
		"Sync, Append":              {func(d *disk.Disk) { empty(d); done(t, d.Sync("a")); empty(d) }, "a:"},
		"Sync, Append of a byte":    {func(d *disk.Disk) { empty(d); done(t, d.Sync("a")); done(t, d.Append("a", []byte("1"))) }, "a:"},
		"Cut":                       {func(d *disk.Disk) { empty(d); done(t, d.Cut("a", 0)) }, "a:"},
		"Cut to nothing":            {func(d *disk.Disk) { done(t, d.Append("a", []byte("1"))); done(t, d.Cut("a", 0)) }, "a:"},
		"Rename":                    {func(d *disk.Disk) { empty(d); done(t, d.Rename("a", "b")) }, "b:"},
		"Rename to itself":          {func(d *disk.Disk) { empty(d); done(t, d.Rename("a", "a")) }, "a:"},
		"Rename, Append anew":       {func(d *disk.Disk) { empty(d); done(t, d.Rename("a", "b")); empty(d) }, "b:"},
		"Sync, Remove, Append anew": {func(d *disk.Disk) { empty(d); done(t, d.Sync("a")); done(t, d.Remove("a")); empty(d) }, ""},
		"what has stayed": {func(d *disk.Disk) {
			done(t, d.Append("a", []byte("12")))
			d.Crash()
			d.On([]int{1})
			done(t, d.Append("a", []byte("3")))
		}, "a:1"},
		"a made file over another one": {func(d *disk.Disk) {
			empty(d)
			done(t, d.Append("b", nil))
			done(t, d.Sync("b"))
			done(t, d.Rename("a", "b"))
		}, "b:"},
	} {
		d := disk.New(100)
		x.make(d)
		d.Crash()
		d.On(nil)
		holds(t, what, d, x.want)
		d.Crash()
		d.On([]int{1, 1})
		holds(t, what+", and the power goes again", d, x.want)
	}
}

// deeds are those of each kind, none of them with an error but by the power.
func deeds() map[string]func(d *disk.Disk) api.Errno {
	return map[string]func(d *disk.Disk) api.Errno{
		"Append":                func(d *disk.Disk) api.Errno { return d.Append("a", []byte("3")) },
		"Append to a new file":  func(d *disk.Disk) api.Errno { return d.Append("c", []byte("3")) },
		"Append of nothing":     func(d *disk.Disk) api.Errno { return d.Append("a", nil) },
		"Append of a new file":  func(d *disk.Disk) api.Errno { return d.Append("c", nil) },
		"Sync":                  func(d *disk.Disk) api.Errno { return d.Sync("a") },
		"Cut":                   func(d *disk.Disk) api.Errno { return d.Cut("a", 1) },
		"Cut of nothing":        func(d *disk.Disk) api.Errno { return d.Cut("a", 2) },
		"Rename":                func(d *disk.Disk) api.Errno { return d.Rename("a", "c") },
		"Rename to another one": func(d *disk.Disk) api.Errno { return d.Rename("a", "b") },
		"Rename to itself":      func(d *disk.Disk) api.Errno { return d.Rename("a", "a") },
		"Remove":                func(d *disk.Disk) api.Errno { return d.Remove("a") },
	}
}

func two(t *testing.T) *disk.Disk {
	t.Helper()
	d := disk.New(100)
	done(t, d.Append("a", []byte("1")))
	done(t, d.Sync("a"))
	done(t, d.Append("a", []byte("2")))
	done(t, d.Append("b", []byte("4")))
	return d
}

// TestPowerGoesAt: of an Append at which it goes the bytes are there, unsure; of other deeds nothing is done.
func TestPowerGoesAt(t *testing.T) {
	for what, deed := range deeds() {
		d := two(t)
		d.Fail(0)
		told(t, what+", at which the power goes", deed(d), api.ErrDisk)
		if !d.Off() || d.Steps() != 5 {
			t.Errorf("%s: off %t, %s", what, d.Off(), numbers(d))
		}
		names, used := []string{"a", "b"}, 3
		all, none, behind := "a:12 b:4", "a:1", []int{1, 1}
		switch what {
		case "Append":
			used, all, behind = 4, "a:123 b:4", []int{2, 1}
		case "Append to a new file":
			names, used, all, behind = []string{"a", "b", "c"}, 4, "a:12 b:4 c:3", []int{1, 1, 1}
		case "Append of a new file":
			names = []string{"a", "b", "c"}
		}
		if !slices.Equal(d.Names(), names) || d.Used() != used {
			t.Errorf("%s: %q, %s, want %q, %d", what, d.Names(), numbers(d), names, used)
		}
		told(t, what+", on a disk that is off", deed(d), api.ErrDisk)
		if d.Steps() != 5 || d.Used() != used {
			t.Errorf("%s: a second time: %s", what, numbers(d))
		}
		c := d.Copy()
		c.On(behind)
		holds(t, what+", all stays", c, all)
		d.On(nil)
		holds(t, what+", nothing stays", d, none)
		told(t, what+", on again", d.Append("a", nil), api.OK)
	}
}

// TestFail: the power goes at the deed behind n more, of whatever kind these are.
func TestFail(t *testing.T) {
	for n := range 8 {
		for what, deed := range deeds() {
			d := two(t)
			d.Fail(n)
			for i := range n {
				told(t, "deed "+strconv.Itoa(i)+" of "+strconv.Itoa(n), d.Append("b", []byte("x")), api.OK)
			}
			c := d.Copy()
			told(t, what, deed(d), api.ErrDisk)
			told(t, what+", of a copy", deed(c), api.ErrDisk)
			if d.Steps() != int64(5+n) || c.Steps() != d.Steps() {
				t.Errorf("%s behind %d more: %d deeds", what, n, d.Steps())
			}
		}
	}
	for what, deed := range deeds() {
		d := two(t)
		d.Fail(1)
		told(t, what+", ahead of it", deed(d), api.OK)
		told(t, "behind "+what, d.Append("n", []byte("x")), api.ErrDisk)
	}
}

// TestFailAtNone: nothing was told, or a number below 0, or one that no deed comes to, or it counts no more.
func TestFailAtNone(t *testing.T) {
	for what, tell := range map[string]func(d *disk.Disk){
		"nothing":                      func(d *disk.Disk) {},
		"-1":                           func(d *disk.Disk) { d.Fail(-1) },
		"the least number":             func(d *disk.Disk) { d.Fail(math.MinInt) },
		"the greatest number":          func(d *disk.Disk) { d.Fail(math.MaxInt) },
		"0, then -1":                   func(d *disk.Disk) { d.Fail(0); d.Fail(-1) },
		"3, then the least number":     func(d *disk.Disk) { d.Fail(3); d.Fail(math.MinInt) },
		"0, then On":                   func(d *disk.Disk) { d.Fail(0); d.On(nil) },
		"3, then On":                   func(d *disk.Disk) { d.Fail(3); d.On([]int{1}) },
		"0, then Crash, On":            func(d *disk.Disk) { d.Fail(0); d.Crash(); d.On([]int{1, 1}) },
		"Crash, then 0, On":            func(d *disk.Disk) { d.Crash(); d.Fail(0); d.On([]int{1, 1}) },
		"the power has gone at it, On": func(d *disk.Disk) { d.Fail(0); d.Append("a", nil); d.On([]int{1, 1}) },
	} {
		d := two(t)
		tell(d)
		if d.Off() {
			t.Errorf("%s: it is off", what)
		}
		holds(t, what, d, "a:12 b:4")
		for range 20 {
			told(t, what, d.Append("b", []byte("x")), api.OK)
			told(t, what, d.Sync("a"), api.OK)
		}
	}
}

func TestFailToldAgain(t *testing.T) {
	d := two(t)
	d.Fail(0)
	d.Fail(2)
	told(t, "the first one", d.Sync("a"), api.OK)
	d.Fail(1)
	told(t, "the second one", d.Sync("a"), api.OK)
	told(t, "the third one", d.Sync("a"), api.ErrDisk)
	d.On(nil)
	told(t, "on again", d.Sync("a"), api.OK)
}

// TestNoDeeds: what is no deed is not counted, and the power doesn't go at it.
func TestNoDeeds(t *testing.T) {
	d := two(t)
	d.Fail(0)
	d.Names()
	d.Used()
	d.Steps()
	d.Off()
	d.Copy()
	for range 3 {
		if _, e := d.Read("a"); e != api.OK {
			t.Errorf("Read: the error %d", e)
		}
		errors(d)
	}
	if d.Off() || d.Steps() != 4 {
		t.Errorf("off %t, %d deeds", d.Off(), d.Steps())
	}
	told(t, "a deed", d.Sync("a"), api.ErrDisk)
	d.On(nil)
	d.Crash()
	d.Crash()
	d.On(nil)
	d.On(nil)
	if d.Steps() != 5 {
		t.Errorf("%d deeds", d.Steps())
	}
}

// TestOnOfOn: a disk that is on loses nothing by On, and nothing is made sure by it.
func TestOnOfOn(t *testing.T) {
	d := two(t)
	done(t, d.Append("c", nil))
	before := whole(t, d)
	d.On(nil)
	d.On([]int{1, 0, 7})
	if after := whole(t, d); after != before {
		t.Errorf("On made %q of %q", after, before)
	}
}

func TestOff(t *testing.T) {
	d := two(t)
	if d.Off() {
		t.Error("it is off")
	}
	d.Crash()
	if !d.Off() {
		t.Error("it is on behind Crash")
	}
	if l := d.Names(); !slices.Equal(l, []string{"a", "b"}) || d.Used() != 3 || d.Steps() != 4 {
		t.Errorf("off: %q, %s", l, numbers(d))
	}
	d.Crash()
	if !d.Off() || d.Used() != 3 {
		t.Error("a second Crash")
	}
	d.On([]int{1})
	if l := d.Names(); d.Off() || !slices.Equal(l, []string{"a"}) || d.Used() != 2 || d.Steps() != 4 {
		t.Errorf("on: %q, %s", l, numbers(d))
	}
}

// TestCopy: a copy is the same in all, whatever the disk has come to.
func TestCopy(t *testing.T) {
	for what, d := range map[string]*disk.Disk{
		"new":              disk.New(7),
		"nothing done":     {},
		"two files":        two(t),
		"armed":            mixed(t),
		"off":              func() *disk.Disk { d := mixed(t); d.Crash(); return d }(),
		"off by a deed":    func() *disk.Disk { d := mixed(t); d.Fail(0); d.Append("n", []byte("n")); return d }(),
		"on again":         func() *disk.Disk { d := mixed(t); d.Crash(); d.On([]int{0, 2}); return d }(),
		"armed, while off": func() *disk.Disk { d := mixed(t); d.Crash(); d.Fail(2); return d }(),
	} {
		c := d.Copy()
		if got, want := whole(t, c), whole(t, d); got != want {
			t.Errorf("%s: the copy is %q, the disk %q", what, got, want)
		}
		if c.Off() {
			c.On([]int{1, 1, 1, 1})
			d.On([]int{1, 1, 1, 1})
		}
		if got, want := whole(t, c), whole(t, d); got != want {
			t.Errorf("%s, on: the copy is %q, the disk %q", what, got, want)
		}
		for n := range 30 {
			if one, two := c.Append("n", make([]byte, n)), d.Append("n", make([]byte, n)); one != two {
				t.Errorf("%s: %d bytes more: the copy answers %d, the disk %d", what, n, one, two)
			}
		}
	}
}

// TestCopyGoesItsOwnWay: nothing that is done to the one is seen in the other.
func TestCopyGoesItsOwnWay(t *testing.T) {
	ways := map[string]func(d *disk.Disk) api.Errno{
		"Fail":  func(d *disk.Disk) api.Errno { d.Fail(0); return api.OK },
		"Crash": func(d *disk.Disk) api.Errno { d.Crash(); return api.OK },
		"On":    func(d *disk.Disk) api.Errno { d.Crash(); d.On(nil); return api.OK },
		"Append, cut short": func(d *disk.Disk) api.Errno {
			d.Cut("a", 0)
			return d.Append("a", []byte("xyz"))
		},
	}
	for what, deed := range deeds() {
		ways[what] = deed
	}
	for what, do := range ways {
		d := two(t)
		done(t, d.Append("a", []byte("long enough to have memory behind it")))
		done(t, d.Cut("a", 2))
		c := d.Copy()
		before := whole(t, d)
		done(t, do(c))
		if after := whole(t, d); after != before {
			t.Errorf("%s of the copy made %q of %q", what, after, before)
		}
		c = d.Copy()
		done(t, do(d))
		if after := whole(t, c); after != before {
			t.Errorf("%s of the disk made %q of its copy %q", what, after, before)
		}
	}
	d := two(t)
	c := d.Copy()
	done(t, d.Append("a", []byte("DISK")))
	done(t, c.Append("a", []byte("copy")))
	holds(t, "the disk", d, "a:12DISK b:4")
	holds(t, "the copy", c, "a:12copy b:4")
}

func TestManyFiles(t *testing.T) {
	d := disk.New(1 << 20)
	var names []string
	for n := range 2000 {
		name := "s." + strconv.Itoa(n*7919%2000)
		names = append(names, name)
		done(t, d.Append(name, []byte(strings.Repeat("x", n%5))))
	}
	slices.Sort(names)
	if !slices.Equal(d.Names(), names) || d.Used() != 4000 || d.Steps() != 2000 {
		t.Errorf("%d names, %s", len(d.Names()), numbers(d))
	}
}
