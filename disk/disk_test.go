package disk_test

import (
	"bytes"
	"math"
	"slices"
	"strconv"
	"strings"
	"testing"
	"unsafe"

	"tailrace/api"
	"tailrace/disk"
)

// done finds fault with a call that was to go well.
func done(t *testing.T, e api.Errno) {
	t.Helper()
	if e != api.OK {
		t.Fatalf("the error %d, want none", e)
	}
}

// told finds fault with a call that was to answer an error.
func told(t *testing.T, what string, got, want api.Errno) {
	t.Helper()
	if got != want {
		t.Errorf("%s: the error %d, want %d", what, got, want)
	}
}

// text is all that is on a disk that is on: names, and the bytes behind each.
func text(t *testing.T, d *disk.Disk) string {
	t.Helper()
	var all []string
	for _, name := range d.Names() {
		b, e := d.Read(name)
		if e != api.OK {
			t.Errorf("Read of %q, one of the Names: the error %d", name, e)
		}
		all = append(all, name+":"+string(b))
	}
	return strings.Join(all, " ")
}

// holds finds fault with a disk that has other files, or bytes, than these.
func holds(t *testing.T, what string, d *disk.Disk, want string) {
	t.Helper()
	if got := text(t, d); got != want {
		t.Errorf("%s: the disk has %q, want %q", what, got, want)
	}
}

// surely is what a disk would have if the power went now, and nothing stayed of what is unsure.
func surely(t *testing.T, d *disk.Disk) string {
	t.Helper()
	c := d.Copy()
	c.Crash()
	c.On(nil)
	return text(t, c)
}

// whole is a disk's answers, all of them, and how far it is armed: by them two disks are the same, or are not.
func whole(t *testing.T, d *disk.Disk) string {
	t.Helper()
	if d.Off() {
		c := d.Copy()
		c.On(nil)
		return "off " + strings.Join(d.Names(), " ") + " " + text(t, c) + " " + numbers(d)
	}
	c := d.Copy()
	left := 0
	for c.Append("z", nil) == api.OK && left < 100 {
		left++
	}
	return text(t, d) + " | " + surely(t, d) + " | " + numbers(d) + " | " + strconv.Itoa(left)
}

func numbers(d *disk.Disk) string {
	return strconv.Itoa(d.Used()) + " bytes, " + strconv.FormatInt(d.Steps(), 10) + " deeds"
}

func TestExamples(t *testing.T) {
	d := disk.New(100)
	done(t, d.Append("a", []byte{1, 2}))
	done(t, d.Sync("a"))
	done(t, d.Append("a", []byte{3, 4}))
	d.Crash()
	d.On([]int{1})
	holds(t, "the first one", d, "a:\x01\x02\x03")

	d = disk.New(100)
	done(t, d.Append("a", []byte{1}))
	d.Crash()
	d.On(nil)
	if l := d.Names(); len(l) != 0 {
		t.Errorf("the second one: %q", l)
	}

	d = disk.New(100)
	done(t, d.Append("a", []byte{1, 2}))
	d.Fail(0)
	told(t, "the third one", d.Append("a", []byte{3}), api.ErrDisk)
	d.On([]int{6})
	holds(t, "the third one", d, "a:\x01\x02")

	d = disk.New(100)
	done(t, d.Append("a", []byte{1}))
	done(t, d.Append("b", []byte{2}))
	done(t, d.Rename("a", "b"))
	d.Crash()
	d.On(nil)
	holds(t, "the fourth one", d, "b:\x01")
}

func TestNilDisk(t *testing.T) {
	var d *disk.Disk
	told(t, "Append", d.Append("a", []byte{1}), api.ErrNil)
	told(t, "Append of no name", d.Append("", nil), api.ErrNil)
	told(t, "Sync", d.Sync("a"), api.ErrNil)
	told(t, "Cut", d.Cut("a", -1), api.ErrNil)
	told(t, "Rename", d.Rename("", ""), api.ErrNil)
	told(t, "Remove", d.Remove(""), api.ErrNil)
	b, e := d.Read("a")
	told(t, "Read", e, api.ErrNil)
	d.Fail(0)
	d.Fail(-1)
	d.Crash()
	d.On([]int{1})
	if len(b) != 0 || len(d.Names()) != 0 || d.Used() != 0 || d.Steps() != 0 || !d.Off() || d.Copy() != nil {
		t.Errorf("%X, %q, %s, off %t, copy %v", b, d.Names(), numbers(d), d.Off(), d.Copy())
	}
}

// TestNoRoom: quotas below 0 are 0, and so is that of a disk nothing was done to.
func TestNoRoom(t *testing.T) {
	for i, d := range []*disk.Disk{disk.New(0), disk.New(-1), disk.New(math.MinInt), {}} {
		if len(d.Names()) != 0 || d.Used() != 0 || d.Steps() != 0 || d.Off() {
			t.Errorf("%d: %q, %s, off %t", i, d.Names(), numbers(d), d.Off())
		}
		told(t, "Sync of a new disk", d.Sync("a"), api.ErrNone)
		told(t, "Append of a byte", d.Append("a", []byte{1}), api.ErrFull)
		holds(t, "behind a byte that had no room", d, "")
		told(t, "Append of nothing", d.Append("a", nil), api.OK)
		told(t, "Append of nothing", d.Append("a", []byte{}), api.OK)
		told(t, "Append of a byte", d.Append("a", []byte{1}), api.ErrFull)
		told(t, "Rename", d.Rename("a", "b"), api.OK)
		holds(t, "behind its Rename", d.Copy(), "b:")
		if d.Used() != 0 || d.Steps() != 3 {
			t.Errorf("%d: %s", i, numbers(d))
		}
	}
	for _, n := range []int{1, 2, math.MaxInt} {
		d := disk.New(n)
		told(t, "Append of a byte", d.Append("a", []byte{1}), api.OK)
		told(t, "Append of another one", d.Append("b", []byte{1}), map[bool]api.Errno{true: api.ErrFull}[n == 1])
	}
}

// calls are all calls that have a name, each with the name at each of its places; all other names are right, and those of files.
func calls(d *disk.Disk, name string) map[string]api.Errno {
	_, read := d.Copy().Read(name)
	return map[string]api.Errno{
		"Append":      d.Copy().Append(name, []byte{1}),
		"Sync":        d.Copy().Sync(name),
		"Cut":         d.Copy().Cut(name, 0),
		"Rename from": d.Copy().Rename(name, "to"),
		"Rename to":   d.Copy().Rename("a", name),
		"Remove":      d.Copy().Remove(name),
		"Read":        read,
	}
}

func TestNames(t *testing.T) {
	for _, name := range []string{"x", "\x00", "\xFF\xFE", " ", "/", "é", strings.Repeat("x", 127), strings.Repeat("x", 128)} {
		d := disk.New(100)
		done(t, d.Append("a", []byte("A")))
		for call, e := range calls(d, name) {
			want := api.ErrNone
			if call == "Append" || call == "Rename to" {
				want = api.OK
			}
			told(t, call+" of "+name+", of which there is no file", e, want)
		}
		done(t, d.Append(name, []byte("X")))
		for call, e := range calls(d, name) {
			told(t, call+" of "+name, e, api.OK)
		}
		if l := d.Names(); !slices.Equal(l, slices.Sorted(slices.Values([]string{"a", name}))) {
			t.Errorf("the names %q", l)
		}
	}
	for _, name := range []string{"", strings.Repeat("x", 129), strings.Repeat("x", 1000)} {
		d := disk.New(100)
		done(t, d.Append("a", []byte("A")))
		for call, e := range calls(d, name) {
			told(t, call+" of a name of "+strconv.Itoa(len(name))+" bytes", e, api.ErrArg)
		}
	}
}

func TestNamesAreSorted(t *testing.T) {
	d := disk.New(100)
	names := []string{"b", "a", "\xFF", "ab", "\x00", "B", "a\x00", "é", "aa"}
	for _, name := range names {
		done(t, d.Append(name, []byte{1}))
	}
	slices.Sort(names)
	for range 20 {
		if l := d.Names(); !slices.Equal(l, names) {
			t.Fatalf("the names %q, want %q", l, names)
		}
	}
}

// errors are calls that answer an error, each with what stands against it first, and what would be told if that did not.
func errors(d *disk.Disk) []struct {
	call      string
	got, want api.Errno
} {
	long := strings.Repeat("n", 129)
	_, readLong := d.Read(long)
	_, readNone := d.Read("none")
	return []struct {
		call      string
		got, want api.Errno
	}{
		{"Append: the name, ahead of the limit and the room", d.Append("", make([]byte, disk.MaxDisk+1)), api.ErrArg},
		{"Append: the limit, ahead of the room", d.Append("none", make([]byte, disk.MaxDisk+1)), api.ErrLimit},
		{"Append: the limit of a file that has bytes", d.Append("a", make([]byte, disk.MaxDisk-1)), api.ErrLimit},
		{"Append: the room", d.Append("none", make([]byte, disk.MaxDisk)), api.ErrFull},
		{"Sync: the name, ahead of the file", d.Sync(long), api.ErrArg},
		{"Sync: the file", d.Sync("none"), api.ErrNone},
		{"Cut: the name, ahead of the file", d.Cut("", 0), api.ErrArg},
		{"Cut: the file, ahead of the number", d.Cut("none", -1), api.ErrNone},
		{"Cut: the number", d.Cut("a", -1), api.ErrArg},
		{"Cut: the number", d.Cut("a", 3), api.ErrArg},
		{"Rename: the first name", d.Rename(long, "b"), api.ErrArg},
		{"Rename: the second name", d.Rename("a", long), api.ErrArg},
		{"Rename: the second name, ahead of the file", d.Rename("none", ""), api.ErrArg},
		{"Rename: the file", d.Rename("none", "a"), api.ErrNone},
		{"Rename: the file", d.Rename("none", "none"), api.ErrNone},
		{"Remove: the name, ahead of the file", d.Remove(long), api.ErrArg},
		{"Remove: the file", d.Remove("none"), api.ErrNone},
		{"Read: the name, ahead of the file", readLong, api.ErrArg},
		{"Read: the file", readNone, api.ErrNone},
	}
}

// mixed is a disk with sure files, unsure ones, and some of both, on which the power goes at the fourth deed from now.
func mixed(t *testing.T) *disk.Disk {
	t.Helper()
	d := disk.New(20)
	done(t, d.Append("a", []byte("a")))
	done(t, d.Sync("a"))
	done(t, d.Append("a", []byte("A")))
	done(t, d.Append("b", []byte("bbb")))
	done(t, d.Append("c", nil))
	done(t, d.Append("d", []byte("dd")))
	done(t, d.Sync("d"))
	d.Fail(3)
	return d
}

func TestErrors(t *testing.T) {
	d := mixed(t)
	before := whole(t, d)
	for _, x := range errors(d) {
		told(t, x.call, x.got, x.want)
	}
	if after := whole(t, d); after != before {
		t.Errorf("calls with errors made %q of %q", after, before)
	}
	for i := range 4 {
		want := api.OK
		if i == 3 {
			want = api.ErrDisk
		}
		told(t, "the deed behind "+strconv.Itoa(i), d.Sync("a"), want)
	}
}

// TestErrorsOfOff: that a disk is off stands ahead of all.
func TestErrorsOfOff(t *testing.T) {
	d := mixed(t)
	d.Crash()
	before := whole(t, d)
	for _, x := range errors(d) {
		told(t, "off, "+x.call, x.got, api.ErrDisk)
	}
	for call, e := range calls(d, "a") {
		told(t, "off, "+call, e, api.ErrDisk)
	}
	if b, _ := d.Read("a"); len(b) != 0 {
		t.Errorf("off, Read tells %q", b)
	}
	if after := whole(t, d); after != before {
		t.Errorf("calls of a disk that is off made %q of %q", after, before)
	}
}

func TestReadWithError(t *testing.T) {
	d := mixed(t)
	for _, name := range []string{"", "none", strings.Repeat("n", 129)} {
		if b, e := d.Read(name); len(b) != 0 || e == api.OK {
			t.Errorf("Read of %q: %q, the error %d", name, b, e)
		}
	}
	if b, e := d.Read("c"); len(b) != 0 || e != api.OK {
		t.Errorf("Read of a file without bytes: %q, the error %d", b, e)
	}
}

func TestAppend(t *testing.T) {
	d := disk.New(100)
	done(t, d.Append("a", []byte("12")))
	done(t, d.Append("a", nil))
	done(t, d.Append("b", []byte("x")))
	done(t, d.Append("a", []byte("345")))
	holds(t, "by Appends", d, "a:12345 b:x")
	if got := surely(t, d); got != "" {
		t.Errorf("what was appended is sure: %q", got)
	}
	done(t, d.Sync("a"))
	done(t, d.Append("a", []byte("6")))
	holds(t, "behind a Sync", d, "a:123456 b:x")
	if got := surely(t, d); got != "a:12345" {
		t.Errorf("behind a Sync, and one byte more, sure: %q", got)
	}
}

// TestRoom: the room is just met, passed by one, and given back by whatever takes bytes away.
func TestRoom(t *testing.T) {
	full := func() *disk.Disk {
		d := disk.New(10)
		done(t, d.Append("a", []byte("12345")))
		told(t, "Append of one too many", d.Append("b", []byte("678901")), api.ErrFull)
		holds(t, "behind it", d, "a:12345")
		done(t, d.Append("b", []byte("67890")))
		told(t, "Append of one too many", d.Append("a", []byte("x")), api.ErrFull)
		told(t, "Append of one too many, to a new file", d.Append("c", []byte("x")), api.ErrFull)
		done(t, d.Append("a", nil))
		return d
	}
	for what, x := range map[string]struct {
		free func(d *disk.Disk)
		room int
	}{
		"Cut":                    {func(d *disk.Disk) { done(t, d.Cut("a", 3)) }, 2},
		"Cut of nothing":         {func(d *disk.Disk) { done(t, d.Cut("a", 5)) }, 0},
		"Remove":                 {func(d *disk.Disk) { done(t, d.Remove("b")) }, 5},
		"Rename to another one":  {func(d *disk.Disk) { done(t, d.Rename("a", "b")) }, 5},
		"Rename to a new one":    {func(d *disk.Disk) { done(t, d.Rename("a", "c")) }, 0},
		"Rename to itself":       {func(d *disk.Disk) { done(t, d.Rename("a", "a")) }, 0},
		"Sync":                   {func(d *disk.Disk) { done(t, d.Sync("a")) }, 0},
		"Remove of all":          {func(d *disk.Disk) { done(t, d.Remove("a")); done(t, d.Remove("b")) }, 10},
		"Crash":                  {func(d *disk.Disk) { d.Crash(); d.On([]int{2, 4}) }, 4},
		"Crash, nothing stays":   {func(d *disk.Disk) { d.Crash(); d.On(nil) }, 10},
		"Crash, everything does": {func(d *disk.Disk) { d.Crash(); d.On([]int{5, 5}) }, 0},
	} {
		d := full()
		x.free(d)
		if d.Used() != 10-x.room {
			t.Errorf("behind %s: %d bytes, want %d", what, d.Used(), 10-x.room)
		}
		told(t, "one too many, behind "+what, d.Append("n", make([]byte, x.room+1)), api.ErrFull)
		told(t, "just enough, behind "+what, d.Append("n", make([]byte, x.room)), api.OK)
		if d.Used() != 10 {
			t.Errorf("behind %s, filled up: %d bytes", what, d.Used())
		}
	}
}

func TestMaxDisk(t *testing.T) {
	d := disk.New(math.MaxInt)
	told(t, "one too many", d.Append("a", make([]byte, disk.MaxDisk+1)), api.ErrLimit)
	holds(t, "behind it", d, "")
	told(t, "just enough", d.Append("a", make([]byte, disk.MaxDisk)), api.OK)
	told(t, "nothing more", d.Append("a", nil), api.OK)
	told(t, "one more", d.Append("a", []byte{1}), api.ErrLimit)
	told(t, "of another file", d.Append("b", []byte{1}), api.OK)
	done(t, d.Cut("a", disk.MaxDisk-2))
	told(t, "three more", d.Append("a", []byte{1, 2, 3}), api.ErrLimit)
	told(t, "two more", d.Append("a", []byte{1, 2}), api.OK)
	if b, e := d.Read("a"); e != api.OK || len(b) != disk.MaxDisk || !bytes.Equal(b[disk.MaxDisk-3:], []byte{0, 1, 2}) {
		t.Errorf("%d bytes, the error %d", len(b), e)
	}
	if d.Used() != 8388608+1 {
		t.Errorf("%d bytes", d.Used())
	}
}

func TestCut(t *testing.T) {
	for _, n := range []int{math.MinInt, -4, -1, 4, 5, math.MaxInt} {
		d := disk.New(100)
		done(t, d.Append("a", []byte("123")))
		before := whole(t, d)
		told(t, "Cut to "+strconv.Itoa(n), d.Cut("a", n), api.ErrArg)
		if after := whole(t, d); after != before {
			t.Errorf("Cut to %d made %q of %q", n, after, before)
		}
	}
	for n, want := range []string{"", "1", "12", "123"} {
		for sure := range 4 {
			d := disk.New(100)
			done(t, d.Append("a", []byte("123")[:sure]))
			done(t, d.Sync("a"))
			done(t, d.Append("a", []byte("123")[sure:]))
			told(t, "Cut to "+strconv.Itoa(n), d.Cut("a", n), api.OK)
			holds(t, "behind it", d, "a:"+want)
			if got := surely(t, d); got != "a:"+want {
				t.Errorf("%d bytes, %d of them sure, cut to %d: %q is sure", 3, sure, n, got)
			}
			done(t, d.Append("a", []byte("x")))
			holds(t, "with a byte more", d, "a:"+want+"x")
			if got := surely(t, d); got != "a:"+want {
				t.Errorf("cut to %d, and a byte more: %q is sure", n, got)
			}
		}
	}
	d := disk.New(100)
	done(t, d.Append("a", nil))
	told(t, "Cut of an empty file to 1", d.Cut("a", 1), api.ErrArg)
	told(t, "Cut of an empty file to 0", d.Cut("a", 0), api.OK)
}

func TestRename(t *testing.T) {
	for _, x := range []struct{ from, to, want, sure string }{
		{"a", "c", "b:78 c:123456", "c:123456"},
		{"a", "b", "b:123456", "b:123456"},
		{"b", "a", "a:78", "a:78"},
		{"a", "a", "a:123456 b:78", "a:123456"},
		{"b", "b", "a:123456 b:78", "a:123 b:78"},
	} {
		d := disk.New(100)
		done(t, d.Append("a", []byte("123")))
		done(t, d.Sync("a"))
		done(t, d.Append("a", []byte("456")))
		done(t, d.Append("b", []byte("78")))
		told(t, "Rename "+x.from+" "+x.to, d.Rename(x.from, x.to), api.OK)
		holds(t, "Rename "+x.from+" "+x.to, d, x.want)
		if got := surely(t, d); got != x.sure {
			t.Errorf("Rename %s %s: %q is sure, want %q", x.from, x.to, got, x.sure)
		}
		if d.Steps() != 5 {
			t.Errorf("Rename %s %s: %d deeds", x.from, x.to, d.Steps())
		}
		done(t, d.Append(x.to, []byte("9")))
		if got := surely(t, d); got != x.sure {
			t.Errorf("Rename %s %s, and a byte more: %q is sure, want %q", x.from, x.to, got, x.sure)
		}
	}
}

func TestRemove(t *testing.T) {
	d := disk.New(100)
	done(t, d.Append("a", []byte("123")))
	done(t, d.Append("b", []byte("4")))
	done(t, d.Sync("a"))
	done(t, d.Remove("a"))
	holds(t, "behind a Remove", d, "b:4")
	told(t, "a second Remove", d.Remove("a"), api.ErrNone)
	done(t, d.Append("a", []byte("5")))
	holds(t, "anew", d, "a:5 b:4")
	if got := surely(t, d); got != "" {
		t.Errorf("a file that was removed, anew: %q is sure", got)
	}
	done(t, d.Remove("b"))
	done(t, d.Remove("a"))
	if len(d.Names()) != 0 || d.Used() != 0 || d.Steps() != 7 {
		t.Errorf("%q, %s", d.Names(), numbers(d))
	}
}

// spoil changes all the memory that a list reaches, behind its length, too.
func spoil(b []byte) {
	for i := range b[:cap(b)] {
		b[:cap(b)][i] ^= 0xFF
	}
}

func TestAppendCopies(t *testing.T) {
	for _, length := range []int{0, 1, 5, 64, 1000} {
		memory := bytes.Repeat([]byte("m"), length+64)
		handed := memory[:length]
		d := disk.New(10000)
		done(t, d.Append("a", handed))
		spoil(handed)
		done(t, d.Append("a", []byte("more")))
		if b, _ := d.Read("a"); !bytes.Equal(b, append(bytes.Repeat([]byte("m"), length), "more"...)) {
			t.Errorf("%d bytes that were others later on: %q", length, b)
		}
		if !bytes.Equal(memory, bytes.Repeat([]byte{'m' ^ 0xFF}, length+64)) {
			t.Errorf("the disk changed what was handed in, or what lies behind it: %q", memory)
		}
	}
}

func TestAnswersAreNewMemory(t *testing.T) {
	d := disk.New(100)
	done(t, d.Append("a", []byte("123")))
	done(t, d.Append("b", []byte("4")))
	one, _ := d.Read("a")
	two, _ := d.Read("a")
	spoil(one)
	if string(two) != "123" {
		t.Errorf("an answer shares memory with another one: %q", two)
	}
	spoil(two)
	names, others := d.Names(), d.Names()
	clear(names[:cap(names)])
	if !slices.Equal(others, []string{"a", "b"}) {
		t.Errorf("the names %q share memory with other ones", others)
	}
	clear(others[:cap(others)])
	holds(t, "behind answers that were changed", d, "a:123 b:4")
	three, _ := d.Read("a")
	done(t, d.Append("a", []byte("5")))
	done(t, d.Cut("a", 1))
	done(t, d.Append("a", []byte("6789")))
	if string(three) != "123" {
		t.Errorf("an answer changed by what was done later: %q", three)
	}
}

// TestNamesAreCopied hands in names whose memory is another text later on.
func TestNamesAreCopied(t *testing.T) {
	memory := []byte("from to")
	from, to := unsafe.String(&memory[0], 4), unsafe.String(&memory[5], 2)
	d := disk.New(100)
	done(t, d.Append(from, []byte("1")))
	done(t, d.Append("a", []byte("2")))
	done(t, d.Rename("a", to))
	copy(memory, "XXXXXXX")
	holds(t, "by names that were others later on", d, "from:1 to:2")
}
