package wal_test

import (
	"encoding/binary"
	"fmt"
	"hash/crc32"
	"maps"
	"slices"
	"strings"
	"testing"

	"tailrace/api"
	"tailrace/disk"
	"tailrace/wal"
)

// checked are bytes with their check behind them, whatever they say.
func checked(b string) string {
	return string(binary.BigEndian.AppendUint32([]byte(b), crc32.ChecksumIEEE([]byte(b))))
}

// turned are bytes of which one bit is turned.
func turned(b string, bit int) string {
	other := []byte(b)
	other[bit/8] ^= 1 << (bit % 8)
	return string(other)
}

// noRecords are bytes that are no record of the number, though some look like one.
func noRecords(number int64) map[string]string {
	body := "what it has"
	right := row(number, body)
	reversed := []byte(right[len(right)-4:])
	slices.Reverse(reversed)
	long := strings.Repeat("L", wal.MaxRecord+1)
	all := map[string]string{
		"a byte 0":                       "\x00",
		"an R":                           "R",
		"noughts":                        strings.Repeat("\x00", 100),
		"other text":                     "no record at all, but longer than one",
		"a record of the number 0":       row(0, body),
		"of the number behind":           row(number+1, body),
		"of the number ahead":            row(number-1, body),
		"of a number of other high bits": row(number+1<<32, body),
		"of a negative number":           row(-number, body),
		"of another mark":                checked("r" + right[1:len(right)-4]),
		"of one byte more than it tells": checked("R" + right[1:12] + "\x0a" + body),
		"of one less than it tells":      checked("R" + right[1:12] + "\x0c" + body),
		"of 2^32 - 1 bytes, as it tells": checked("R" + right[1:9] + "\xFF\xFF\xFF\xFF" + body),
		"of 2^31 bytes, as it tells":     checked("R" + right[1:9] + "\x80\x00\x00\x00" + body),
		"with a byte ahead":              "\x00" + right,
		"without its check":              right[:len(right)-4],
		"of the check's bytes reversed":  right[:len(right)-4] + string(reversed),
		"of the check of its bytes":      right[:len(right)-4] + checked(body)[len(body):],
		"of a check of noughts":          right[:len(right)-4] + "\x00\x00\x00\x00",
		"of MaxRecord + 1 bytes":         row(number, long),
	}
	for n := 1; n < len(right); n++ {
		all[fmt.Sprint("cut short behind ", n, " bytes")] = right[:n]
	}
	for bit := range 8 * len(right) {
		all[fmt.Sprint("of which the bit ", bit, " is turned")] = turned(right, bit)
	}
	return all
}

// TestNoRecordBehind: what is no record ends the last segment, and is cut off with all that stands behind it.
func TestNoRecordBehind(t *testing.T) {
	for _, list := range [][]string{{}, {"a"}, {"a", "", "c"}} {
		next := int64(5 + len(list))
		for what, none := range noRecords(next) {
			for _, behind := range []string{"", row(next, "behind"), row(next+1, "behind"), "x"} {
				if row(next, "what it has") == none+behind {
					t.Fatalf("%s is one", what)
				}
				d := disk.New(plenty)
				put(t, d, "s.5", rows(5, list...)+none+behind)
				l := opened(t, d)
				what := fmt.Sprintf("behind %d records: one %s, and %d bytes more", len(list), what, len(behind))
				tells(t, what, l, 5, next, 1, list...)
				if got, want := files(t, surely(d)), "s.5:"+said(rows(5, list...)); got != want {
					t.Errorf("%s: sure is %s, want %s", what, got, want)
				}
				appended(t, l, "new")
				tells(t, what+", and a new one", opened(t, d), 5, next+1, 1, append(list[:len(list):len(list)], "new")...)
			}
		}
	}
}

// TestCheckOfNoughts: a check that is 0 must be there, too.
func TestCheckOfNoughts(t *testing.T) {
	const b = "\x8C#v1"
	whole := row(1, b)
	if whole[len(whole)-4:] != "\x00\x00\x00\x00" {
		t.Fatalf("its check is %X", whole[len(whole)-4:])
	}
	for n := range len(whole) + 1 {
		d := disk.New(plenty)
		put(t, d, "s.1", whole[:n])
		l := opened(t, d)
		if n == len(whole) {
			tells(t, "the whole", l, 1, 2, 1, b)
			continue
		}
		tells(t, fmt.Sprint(n, " bytes of it"), l, 1, 1, 1)
	}
}

// TestNoRecordAhead: what is no record, behind the records of another segment than the last one, makes the files no log.
func TestNoRecordAhead(t *testing.T) {
	for what, none := range noRecords(7) {
		for _, next := range []string{"s.7", "s.8", "s.9"} {
			d := disk.New(plenty)
			put(t, d, "s.5", rows(5, "a", "b")+none)
			put(t, d, next, rows(7, "c", "d")+"x")
			refused(t, "ahead of "+next+" one "+what, d, api.ErrWal)
			put(t, d, "s.4", row(4, "ahead"))
			refused(t, "amid, one "+what, d, api.ErrWal)
		}
	}
}

// TestWrongNumbers: segments follow on one another.
func TestWrongNumbers(t *testing.T) {
	a, b, c := rows(1, "a", "aa"), rows(3, "b"), rows(4, "c", "cc")
	for what, x := range map[string]struct {
		files map[string]string
		want  api.Errno
	}{
		"all":                       {map[string]string{"s.1": a, "s.3": b, "s.4": c}, api.OK},
		"all but the first one":     {map[string]string{"s.3": b, "s.4": c}, api.OK},
		"all but the last one":      {map[string]string{"s.1": a, "s.3": b}, api.OK},
		"all, and an empty one":     {map[string]string{"s.1": a, "s.3": b, "s.4": c, "s.6": ""}, api.OK},
		"one missing between two":   {map[string]string{"s.1": a, "s.4": c}, api.ErrWal},
		"one number missing":        {map[string]string{"s.1": a, "s.4": rows(4, "b"), "s.5": rows(5, "c")}, api.ErrWal},
		"one number twice":          {map[string]string{"s.1": a, "s.2": rows(2, "b", "bb")}, api.ErrWal},
		"an empty one too far":      {map[string]string{"s.1": a, "s.4": ""}, api.ErrWal},
		"an empty one too near":     {map[string]string{"s.1": a, "s.2": ""}, api.ErrWal},
		"an empty one first":        {map[string]string{"s.1": "", "s.3": b}, api.ErrWal},
		"an empty one between":      {map[string]string{"s.1": a, "s.3": "", "s.4": c}, api.ErrWal},
		"records of other numbers":  {map[string]string{"s.1": rows(2, "a", "aa"), "s.3": b}, api.ErrWal},
		"a name far away":           {map[string]string{"s.1": a, "s.4611686018427387904": ""}, api.ErrWal},
		"a name that is no segment": {map[string]string{"s.1": a, "s.4611686018427387905": "x", "s.04": "x"}, api.OK},
	} {
		d := disk.New(plenty)
		for _, name := range slices.Sorted(maps.Keys(x.files)) {
			done(t, d.Append(name, []byte(x.files[name])))
		}
		if x.want != api.OK {
			refused(t, what, d, x.want)
			d.Fail(0)
			refused(t, what+", and the power would go", d, x.want)
			continue
		}
		told(t, what, opened(t, d).Broken(), x.want)
	}
}

// TestOtherNumbersInLast: records of other numbers than the segment's name are none.
func TestOtherNumbersInLast(t *testing.T) {
	d := disk.New(plenty)
	put(t, d, "s.1", rows(2, "a", "b"))
	l := opened(t, d)
	tells(t, "it", l, 1, 1, 1)
	if got := files(t, d); got != `s.1:""` {
		t.Errorf("the disk has %s", got)
	}
	d = disk.New(plenty)
	put(t, d, "s.1", row(1, "a")+row(1, "again")+row(2, "b"))
	tells(t, "a number twice", opened(t, d), 1, 2, 1, "a")
}

// TestPowerAtOpening: the power that goes at an opening's deed is its error, and leaves no log.
func TestPowerAtOpening(t *testing.T) {
	for what, behind := range map[string]string{"Sync": "", "Cut": "x"} {
		d := disk.New(plenty)
		put(t, d, "s.1", rows(1, "a", "b"))
		put(t, d, "s.3", row(3, "c")+behind)
		d.Fail(0)
		l, e := wal.Open(d)
		told(t, "at its "+what, e, api.ErrDisk)
		if l != nil || !d.Off() || d.Steps() != 5 {
			t.Errorf("at its %s: %v, off %t, %d deeds", what, l, d.Off(), d.Steps())
		}
		d.On(nil)
		tells(t, "opened again", opened(t, d), 1, 4, 2, "a", "b", "c")
	}
}

// TestFull: a disk that is full refuses a record, and all else is as it was; what is less finds room.
func TestFull(t *testing.T) {
	for _, room := range []int{19, 20, 35, 36, 37, 38, 100} {
		d := disk.New(room)
		l := opened(t, d)
		appended(t, l, "ab")
		before, answered := onDisk(t, d), answers(l)
		told(t, "one byte too many", l.Append(make([]byte, max(room-19-17, -1)+1)), api.ErrFull)
		told(t, "many too many", l.Append(make([]byte, wal.MaxRecord)), api.ErrFull)
		if onDisk(t, d) != before || answers(l) != answered {
			t.Errorf("with room for %d an Append, refused, makes %s, %s", room, onDisk(t, d), answers(l))
		}
		want := []string{"ab"}
		if room >= 36 {
			want = append(want, strings.Repeat("c", room-36))
			appended(t, l, want[1])
		}
		done(t, l.Commit())
		tells(t, "behind it", l, 1, int64(1+len(want)), 1, want...)
		tells(t, "opened again", opened(t, d), 1, int64(1+len(want)), 1, want...)
	}
}

// TestFullAtFirst: a first segment that finds no room is none.
func TestFullAtFirst(t *testing.T) {
	d := disk.New(16)
	l := opened(t, d)
	told(t, "a record of no byte", l.Append(nil), api.ErrFull)
	tells(t, "it", l, 1, 1, 0)
	if len(d.Names()) != 0 || d.Steps() != 0 {
		t.Errorf("the files %q, %d deeds", d.Names(), d.Steps())
	}
	told(t, "its Commit", l.Commit(), api.OK)
	told(t, "it", l.Broken(), api.OK)
}

// TestFullAtNew: a segment that finds no room is not begun, but what is ahead of it is sure by then.
func TestFullAtNew(t *testing.T) {
	d := disk.New(19 + wal.Segment + 30)
	l := opened(t, d)
	appended(t, l, "ab", long("c"))
	told(t, "a record of 14 bytes", l.Append(make([]byte, 14)), api.ErrFull)
	told(t, "it", l.Broken(), api.OK)
	tells(t, "it", l, 1, 3, 1, "ab", long("c"))
	if names := surely(d).Names(); !slices.Equal(names, []string{"s.1"}) || d.Steps() != 3 {
		t.Errorf("sure are %q, %d deeds", names, d.Steps())
	}
	told(t, "again", l.Append(make([]byte, 14)), api.ErrFull)
	if d.Steps() != 3 {
		t.Errorf("again: %d deeds", d.Steps())
	}
	appended(t, l, "thirteenbytes")
	tells(t, "with less", l, 1, 3, 2, "ab", long("c"), "thirteenbytes")
	told(t, "one more", l.Append(nil), api.ErrFull)
	done(t, l.Drop(3))
	appended(t, l, "there is room again")
	tells(t, "behind a Drop", l, 3, 3, 1, "thirteenbytes", "there is room again")
}

// TestOtherErrors: what the disk answers, when somebody else has taken a file, or filled it, is handed on, and does not break the log.
func TestOtherErrors(t *testing.T) {
	d, l, list := segmented(t)
	done(t, d.Remove("s.7"))
	told(t, "Commit of a file that is gone", l.Commit(), api.ErrNone)
	tells(t, "behind it", l, 1, 7, 4, list...)
	done(t, d.Remove("s.4"))
	told(t, "Drop of a file that is gone", l.Drop(100), api.ErrNone)
	tells(t, "behind it", l, 4, 7, 3, list[3:]...)
	told(t, "again", l.Drop(100), api.ErrNone)
	tells(t, "behind it", l, 4, 7, 3, list[3:]...)
	done(t, d.Append("s.7", make([]byte, disk.MaxDisk-17)))
	told(t, "Append to a file that is full", l.Append([]byte("x")), api.ErrLimit)
	told(t, "it", l.Broken(), api.OK)
	tells(t, "behind it", l, 4, 7, 3, list[3:]...)
	appended(t, l, "")
	tells(t, "of no byte", l, 4, 7, 3, append(list[3:], "")...)
	done(t, l.Commit())
	tells(t, "behind a Commit", l, 4, 10, 3, append(list[3:], "")...)

	l = opened(t, disk.New(plenty))
	told(t, "a new one", l.Broken(), api.OK)
}

// TestOtherErrorAtNew: the Commit ahead of a new segment answers its own error, and nothing is begun.
func TestOtherErrorAtNew(t *testing.T) {
	d := disk.New(plenty)
	l := opened(t, d)
	appended(t, l, long("a"))
	done(t, d.Remove("s.1"))
	told(t, "Append to a new one", l.Append([]byte("b")), api.ErrNone)
	tells(t, "behind it", l, 1, 1, 1, long("a"))
	if len(d.Names()) != 0 {
		t.Errorf("the files %q", d.Names())
	}
	told(t, "it", l.Broken(), api.OK)
}

// TestOffUnmet: a log whose disk is off is not broken ahead of a call that meets it.
func TestOffUnmet(t *testing.T) {
	d := disk.New(plenty)
	l := opened(t, d)
	appended(t, l, "a", long("b"), "c")
	done(t, l.Commit())
	d.Crash()
	told(t, "Commit of what is sure", l.Commit(), api.OK)
	told(t, "Drop of nothing", l.Drop(2), api.OK)
	told(t, "it", l.Broken(), api.OK)
	tells(t, "it", l, 1, 4, 2, "a", long("b"), "c")
	told(t, "it", l.Broken(), api.OK)
	told(t, "Drop of something", l.Drop(3), api.ErrDisk)
	told(t, "it", l.Broken(), api.ErrDisk)
	told(t, "Commit of what is sure", l.Commit(), api.ErrDisk)
	tells(t, "it", l, 1, 4, 2, "a", long("b"), "c")
}

// broken finds fault with a log that is not, and with one whose calls then do anything.
func broken(t *testing.T, what string, d *disk.Disk, l *wal.Log) {
	t.Helper()
	before := answers(l)
	ask := func(how string) {
		t.Helper()
		disks := onDisk(t, d)
		told(t, what+how+", Broken", l.Broken(), api.ErrDisk)
		told(t, what+how+", Append", l.Append([]byte("x")), api.ErrDisk)
		told(t, what+how+", Append of too much", l.Append(make([]byte, wal.MaxRecord+1)), api.ErrDisk)
		told(t, what+how+", Commit", l.Commit(), api.ErrDisk)
		told(t, what+how+", Drop of nothing", l.Drop(0), api.ErrDisk)
		told(t, what+how+", Drop of all", l.Drop(1000), api.ErrDisk)
		if after := answers(l); after != before {
			t.Errorf("%s%s: %s, of which was made %s", what, how, before, after)
		}
		if after := onDisk(t, d); after != disks {
			t.Errorf("%s%s: of a disk of %s was made %s", what, how, disks, after)
		}
	}
	ask("")
	d.On(nil)
	ask(", the disk being on again")
}

// TestBroken: what a log tells that was broken by this call or that one: what there was, and what the call had done by then.
func TestBroken(t *testing.T) {
	c, e, f := long("c"), long("e"), long("f")
	all := []string{"a", "b", c, "d", e, f, "g", "h"}
	for what, x := range map[string]struct {
		fail        int // how many deeds are done ahead of that at which the power goes
		do          func(l *wal.Log) api.Errno
		first, sure int64
		segments    int
		list        []string
	}{
		"Append":                  {0, func(l *wal.Log) api.Errno { return l.Append([]byte("i")) }, 1, 7, 4, all},
		"Commit":                  {0, func(l *wal.Log) api.Errno { return l.Commit() }, 1, 7, 4, all},
		"Drop at the first one":   {0, func(l *wal.Log) api.Errno { return l.Drop(100) }, 1, 7, 4, all},
		"Drop at the second one":  {1, func(l *wal.Log) api.Errno { return l.Drop(100) }, 4, 7, 3, all[3:]},
		"Drop at the third one":   {2, func(l *wal.Log) api.Errno { return l.Drop(100) }, 6, 7, 2, all[5:]},
		"Append, then Commit":     {1, func(l *wal.Log) api.Errno { l.Append([]byte("i")); return l.Commit() }, 1, 7, 4, append(all[:8:8], "i")},
		"Commit, then Append":     {1, func(l *wal.Log) api.Errno { l.Commit(); return l.Append([]byte("i")) }, 1, 9, 4, all},
		"Drop, then Append":       {1, func(l *wal.Log) api.Errno { l.Drop(5); return l.Append([]byte("i")) }, 4, 7, 3, all[3:]},
		"Append to a new one":     {2, func(l *wal.Log) api.Errno { l.Append([]byte(long("i"))); return l.Append([]byte("j")) }, 1, 10, 4, append(all[:8:8], long("i"))},
		"the Commit ahead of one": {1, func(l *wal.Log) api.Errno { l.Append([]byte(long("i"))); return l.Append([]byte("j")) }, 1, 7, 4, append(all[:8:8], long("i"))},
	} {
		d, l, _ := segmented(t)
		d.Fail(x.fail)
		told(t, what, x.do(l), api.ErrDisk)
		tells(t, what, l, x.first, x.sure, x.segments, x.list...)
		broken(t, what, d, l)
		tells(t, what+", afterwards", l, x.first, x.sure, x.segments, x.list...)
	}
}

// TestBrokenAtFirst: so it is of the very first record.
func TestBrokenAtFirst(t *testing.T) {
	d := disk.New(plenty)
	l := opened(t, d)
	d.Fail(0)
	told(t, "the first Append", l.Append([]byte("a")), api.ErrDisk)
	tells(t, "it", l, 1, 1, 0)
	broken(t, "it", d, l)

	d = disk.New(plenty)
	l = opened(t, d)
	d.Crash()
	told(t, "the first Append to a disk that is off", l.Append([]byte("a")), api.ErrDisk)
	tells(t, "it", l, 1, 1, 0)
	broken(t, "it", d, l)
}

// TestBrokenAlone: a log that is broken breaks no other one of the same disk.
func TestBrokenAlone(t *testing.T) {
	d := disk.New(plenty)
	l := opened(t, d)
	appended(t, l, "a")
	done(t, l.Commit())
	d.Fail(0)
	told(t, "Append", l.Append([]byte("b")), api.ErrDisk)
	d.On([]int{-1})
	other := opened(t, d)
	told(t, "the other one", other.Broken(), api.OK)
	tells(t, "the other one", other, 1, 3, 1, "a", "b")
	appended(t, other, "c")
	tells(t, "the broken one", l, 1, 2, 1, "a")
	told(t, "the broken one", l.Broken(), api.ErrDisk)
}

// spoil makes other bytes of these; done twice, it does not make the same ones again.
func spoil(b []byte) {
	b = b[:cap(b)]
	for i := range b {
		b[i]++
	}
}

// TestAppendCopies: what was handed in is only read, and is the caller's own again.
func TestAppendCopies(t *testing.T) {
	for _, n := range []int{0, 1, 100, wal.Segment, wal.MaxRecord} {
		d := disk.New(plenty)
		l := opened(t, d)
		var list []string
		for i := range 4 {
			memory := []byte(strings.Repeat(string(rune('a'+i)), n+300))
			done(t, l.Append(memory[:n]))
			if string(memory) != strings.Repeat(string(rune('a'+i)), n+300) {
				t.Errorf("an Append of %d bytes changed them, or what lies behind them", n)
			}
			list = append(list, string(memory[:n]))
			spoil(memory)
		}
		done(t, l.Commit())
		tells(t, fmt.Sprint(n, " bytes"), l, 1, 5, l.Segments(), list...)
		tells(t, fmt.Sprint(n, " bytes, opened again"), opened(t, d), 1, 5, l.Segments(), list...)
		list = append(list, "e")
		memory := []byte("big")
		told(t, "one too long", l.Append(append(make([]byte, wal.MaxRecord, 2*wal.MaxRecord), memory...)), api.ErrLimit)
		appended(t, l, "e")
		tells(t, "and one more", l, 1, l.Sure(), l.Segments(), list...)
	}
}

// TestAnswersAreNewMemory: whoever has an answer may do with it what he likes.
func TestAnswersAreNewMemory(t *testing.T) {
	list := []string{"a", "", strings.Repeat("b", 1000), long("c"), "d"}
	d := disk.New(plenty)
	l := opened(t, d)
	appended(t, l, list...)
	done(t, l.Commit())
	for i, l := range []*wal.Log{l, opened(t, d)} {
		disks := onDisk(t, d)
		var kept [][]byte
		for range 2 {
			for k := l.First(); k < l.Next(); k++ {
				b, _ := l.Record(k)
				kept = append(kept, b)
				other, _ := l.Record(k)
				spoil(other)
			}
		}
		for j, b := range kept {
			if string(b) != list[j%len(list)] {
				t.Errorf("%d: an answer was changed by what was done to another one: %q", i, b)
			}
		}
		for _, b := range kept {
			spoil(b)
		}
		tells(t, "behind it", l, 1, 6, 2, list...)
		if onDisk(t, d) != disks {
			t.Errorf("%d: the disk was changed by what was done to answers", i)
		}
	}
}

// TestAnswersStay: an answer is not changed by what is done to the log later.
func TestAnswersStay(t *testing.T) {
	d, l, list := segmented(t)
	var kept [][]byte
	for k := l.First(); k < l.Next(); k++ {
		b, _ := l.Record(k)
		kept = append(kept, b)
	}
	appended(t, l, "i", long("j"), "k")
	done(t, l.Drop(9))
	d.Crash()
	l.Append([]byte("l"))
	for i, b := range kept {
		if string(b) != list[i] {
			t.Errorf("the record %d was %q and is %q", i+1, list[i], b)
		}
	}
}
