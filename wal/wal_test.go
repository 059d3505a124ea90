package wal_test

import (
	"bytes"
	"crypto/sha256"
	"encoding/binary"
	"fmt"
	"hash/crc32"
	"math"
	"slices"
	"strconv"
	"strings"
	"testing"

	"tailrace/api"
	"tailrace/disk"
	"tailrace/wal"
)

// plenty is more room than any of these tests needs.
const plenty = 1 << 30

// done finds fault with a call that was to go well.
func done(t *testing.T, e api.Errno) {
	t.Helper()
	if e != api.OK {
		t.Fatalf("the error %d, want none", e)
	}
}

// told finds fault with a call that was to answer an error.
func told(t *testing.T, what string, got, want api.Errno) {
	t.Helper()
	if got != want {
		t.Errorf("%s: the error %d, want %d", what, got, want)
	}
}

func opened(t *testing.T, d *disk.Disk) *wal.Log {
	t.Helper()
	l, e := wal.Open(d)
	if e != api.OK || l == nil {
		t.Fatalf("an opening: %v, the error %d", l, e)
	}
	return l
}

// refused is an opening that answers an error, and changes nothing.
func refused(t *testing.T, what string, d *disk.Disk, want api.Errno) {
	t.Helper()
	before := onDisk(t, d)
	l, e := wal.Open(d)
	told(t, what, e, want)
	if l != nil {
		t.Errorf("%s: there is a log beside the error", what)
	}
	if after := onDisk(t, d); after != before {
		t.Errorf("%s: made %q of %q", what, after, before)
	}
}

// row is a record's bytes as the chapter's words say them.
func row(number int64, b string) string {
	var w bytes.Buffer
	w.WriteByte(82)
	binary.Write(&w, binary.BigEndian, number)
	binary.Write(&w, binary.BigEndian, uint32(len(b)))
	w.WriteString(b)
	binary.Write(&w, binary.BigEndian, crc32.ChecksumIEEE(w.Bytes()))
	return w.String()
}

// rows are those of records, the first of which has the number.
func rows(number int64, list ...string) string {
	all := ""
	for i, b := range list {
		all += row(number+int64(i), b)
	}
	return all
}

// put lays bytes into a file, behind those that it has.
func put(t *testing.T, d *disk.Disk, name, b string) {
	t.Helper()
	done(t, d.Append(name, []byte(b)))
	done(t, d.Sync(name))
}

// surely is what a disk would have if the power went now, and nothing stayed of what is unsure.
func surely(d *disk.Disk) *disk.Disk {
	c := d.Copy()
	c.Crash()
	c.On(nil)
	return c
}

// said are bytes as a fault tells them: long ones by their sum alone.
func said(b string) string {
	if len(b) <= 100 {
		return strconv.Quote(b)
	}
	return fmt.Sprintf("%d bytes %x", len(b), sha256.Sum256([]byte(b)))
}

func files(t *testing.T, d *disk.Disk) string {
	t.Helper()
	var all []string
	for _, name := range d.Names() {
		b, e := d.Read(name)
		done(t, e)
		all = append(all, name+":"+said(string(b)))
	}
	return strings.Join(all, " ")
}

// onDisk is all that is on a disk, what of it is sure, and how many deeds there were.
func onDisk(t *testing.T, d *disk.Disk) string {
	t.Helper()
	on := d.Copy()
	on.On(slices.Repeat([]int{-1}, len(on.Names())))
	return fmt.Sprintf("off %t, %s, of which sure %s, %d deeds", d.Off(), files(t, on), files(t, surely(d)), d.Steps())
}

// answers are all that a log tells.
func answers(l *wal.Log) string {
	all := fmt.Sprintf("first %d, next %d, sure %d, %d segments, broken %d", l.First(), l.Next(), l.Sure(), l.Segments(), l.Broken())
	for k := l.First() - 2; k < l.Next()+3; k++ {
		b, ok := l.Record(k)
		all += fmt.Sprintf(", %d %t %s", k, ok, said(string(b)))
	}
	return all
}

// tells finds fault with a log that has other numbers, or other records, than these.
func tells(t *testing.T, what string, l *wal.Log, first, sure int64, segments int, list ...string) {
	t.Helper()
	next := first + int64(len(list))
	if l.First() != first || l.Next() != next || l.Sure() != sure || l.Segments() != segments {
		t.Errorf("%s: first %d, next %d, sure %d, %d segments; want %d, %d, %d, %d", what, l.First(), l.Next(), l.Sure(), l.Segments(), first, next, sure, segments)
	}
	for i, want := range list {
		if b, ok := l.Record(first + int64(i)); !ok || string(b) != want {
			t.Errorf("%s: the record %d is %t, of %d bytes; want one of %d", what, first+int64(i), ok, len(b), len(want))
		}
	}
	for _, k := range []int64{first - 1, next, 0, -1, -first, math.MinInt64, math.MaxInt64} {
		if b, ok := l.Record(k); ok || len(b) != 0 {
			t.Errorf("%s: there is a record %d: %t, of %d bytes", what, k, ok, len(b))
		}
	}
}

func appended(t *testing.T, l *wal.Log, list ...string) {
	t.Helper()
	for _, b := range list {
		done(t, l.Append([]byte(b)))
	}
}

// long is a record with which a segment is as long as it need be ahead of a next one, and no longer; it has its own letter.
func long(letter string) string { return strings.Repeat(letter, wal.Segment-17) }

func TestFirstExample(t *testing.T) {
	d := disk.New(plenty)
	l := opened(t, d)
	appended(t, l, "ab")
	if d.Used() != 19 {
		t.Errorf("ab has %d bytes", d.Used())
	}
	done(t, l.Commit())
	appended(t, l, "cd")
	d.Crash()
	d.On([]int{5})
	if d.Used() != 24 {
		t.Errorf("%d bytes stay", d.Used())
	}
	tells(t, "the opening", opened(t, d), 1, 2, 1, "ab")
	if got := files(t, d); got != "s.1:"+said(row(1, "ab")) {
		t.Errorf("the disk has %s", got)
	}
}

func TestSecondExample(t *testing.T) {
	d := disk.New(plenty)
	l := opened(t, d)
	appended(t, l, "ab")
	big := strings.Repeat("b", 2100)
	appended(t, l, big)
	if names := d.Names(); !slices.Equal(names, []string{"s.1"}) {
		t.Errorf("behind the long one: %q", names)
	}
	appended(t, l, "x")
	tells(t, "behind x", l, 1, 3, 2, "ab", big, "x")
	done(t, l.Drop(3))
	tells(t, "behind the Drop", l, 3, 3, 1, "x")
	if got := files(t, d); got != "s.3:"+said(row(3, "x")) {
		t.Errorf("the disk has %s", got)
	}
}

func TestNilLog(t *testing.T) {
	var l *wal.Log
	for _, b := range [][]byte{nil, []byte("ab"), make([]byte, wal.MaxRecord+1)} {
		told(t, "Append", l.Append(b), api.ErrNil)
	}
	told(t, "Commit", l.Commit(), api.ErrNil)
	told(t, "Broken", l.Broken(), api.ErrNil)
	for _, k := range []int64{math.MinInt64, -1, 0, 1, 2, math.MaxInt64} {
		told(t, "Drop", l.Drop(k), api.ErrNil)
		if b, ok := l.Record(k); ok || len(b) != 0 {
			t.Errorf("Record(%d): %q, %t", k, b, ok)
		}
	}
	if l.First() != 0 || l.Next() != 0 || l.Sure() != 0 || l.Segments() != 0 {
		t.Errorf("first %d, next %d, sure %d, %d segments", l.First(), l.Next(), l.Sure(), l.Segments())
	}
}

// TestLogOfNoDisk: one that no opening has made has no disk, and must not panic for all that.
func TestLogOfNoDisk(t *testing.T) {
	var l wal.Log
	told(t, "Append", l.Append([]byte("ab")), api.ErrNil)
	told(t, "Append of too much", l.Append(make([]byte, wal.MaxRecord+1)), api.ErrLimit)
	told(t, "Commit", l.Commit(), api.OK)
	told(t, "Drop", l.Drop(math.MaxInt64), api.OK)
	told(t, "Broken", l.Broken(), api.OK)
	tells(t, "it", &l, 1, 1, 0)
}

func TestOpenOfNoDisk(t *testing.T) {
	l, e := wal.Open(nil)
	told(t, "of nil", e, api.ErrNil)
	if l != nil {
		t.Error("there is a log of nil")
	}
}

// TestOpenOfOff: that the disk is off stands ahead of what is on it.
func TestOpenOfOff(t *testing.T) {
	for what, lay := range map[string]func(d *disk.Disk){
		"nothing":      func(d *disk.Disk) {},
		"a segment":    func(d *disk.Disk) { put(t, d, "s.1", rows(1, "a", "b")) },
		"one too many": func(d *disk.Disk) { put(t, d, "s.1", row(1, "a")); put(t, d, "s.9", row(9, "b")) },
		"bytes behind": func(d *disk.Disk) { put(t, d, "s.1", row(1, "a")+"x") },
	} {
		d := disk.New(plenty)
		lay(d)
		d.Crash()
		refused(t, what, d, api.ErrDisk)
	}
}

// TestOpenOfNothing: without a segment there is no record, and nothing to settle.
func TestOpenOfNothing(t *testing.T) {
	d := disk.New(plenty)
	d.Fail(0)
	l := opened(t, d)
	tells(t, "it", l, 1, 1, 0)
	told(t, "it", l.Broken(), api.OK)
	told(t, "its Commit", l.Commit(), api.OK)
	told(t, "its Drop", l.Drop(math.MaxInt64), api.OK)
	if d.Steps() != 0 || len(d.Names()) != 0 {
		t.Errorf("%d deeds, files %q", d.Steps(), d.Names())
	}
	told(t, "its Append, at which the power goes", l.Append(nil), api.ErrDisk)
}

// others are names that are no segment's.
func others() []string {
	return []string{
		"s", "s.", "s.0", "s.00", "s.01", "s.001", "s.+1", "s.-1", "s.-0", "S.1", "s.1 ", "s. 1", " s.1", "s.1a", "s.1.0", "s.1e0", "s.0x1", "s.1_0", "s.s.1", "xs.1", "s:1", "s1", "1", "x", ".1",
		"s.\u0661", "s.1\x00", "s.00000000000000000001", "s.04611686018427387904",
		"s.4611686018427387905", "s.9223372036854775807", "s.9223372036854775808", "s.18446744073709551617", "s.36893488147419103233",
		"s.1" + strings.Repeat("0", 100), "s." + strings.Repeat("0", 100) + "1",
	}
}

func TestOtherNames(t *testing.T) {
	for _, name := range others() {
		d := disk.New(plenty)
		done(t, d.Append(name, []byte(row(1, "of another file")+"x")))
		l := opened(t, d)
		tells(t, "beside "+name, l, 1, 1, 0)
		if d.Steps() != 1 {
			t.Errorf("beside %s: the opening does %d deeds", name, d.Steps()-1)
		}
		appended(t, l, "a", long("b"), "c")
		done(t, l.Commit())
		done(t, l.Drop(3))
		tells(t, "beside "+name, opened(t, d), 3, 4, 1, "c")
		if b, _ := d.Read(name); string(b) != row(1, "of another file")+"x" {
			t.Errorf("the file %s has %q", name, b)
		}
		if got := surely(d).Names(); !slices.Equal(got, []string{"s.3"}) {
			t.Errorf("beside %s: of the files, made are %q", name, got)
		}
	}
}

// TestHighestName: 2^62 is the last number of which there is a segment.
func TestHighestName(t *testing.T) {
	const top = 1 << 62
	d := disk.New(plenty)
	put(t, d, "s.4611686018427387904", rows(top, "a", "b"))
	tells(t, "of 2^62", opened(t, d), top, top+2, 1, "a", "b")

	d = disk.New(plenty)
	put(t, d, "s.4611686018427387902", rows(top-2, "a", "b"))
	put(t, d, "s.4611686018427387904", row(top, "c"))
	put(t, d, "s.4611686018427387905", row(top+1, "d"))
	l := opened(t, d)
	tells(t, "up to 2^62", l, top-2, top+1, 2, "a", "b", "c")
	done(t, l.Drop(top))
	tells(t, "behind a Drop", l, top, top+1, 1, "c")
}

// TestByNumbers: segments stand by their numbers, not by their names' bytes.
func TestByNumbers(t *testing.T) {
	d := disk.New(plenty)
	want := []string{}
	for k := 7; k < 120; k++ {
		put(t, d, fmt.Sprint("s.", k), row(int64(k), fmt.Sprint("record ", k)))
		want = append(want, fmt.Sprint("record ", k))
	}
	l := opened(t, d)
	tells(t, "it", l, 7, 120, 113, want...)
	for _, below := range []int64{8, 10, 11, 99, 100, 101, 119, 120} {
		done(t, l.Drop(below))
		first := min(below, 119)
		tells(t, fmt.Sprint("behind Drop ", below), l, first, 120, int(120-first), want[first-7:]...)
	}
}

// TestBytes: what stands in the files is what the chapter's words say.
func TestBytes(t *testing.T) {
	d := disk.New(plenty)
	l := opened(t, d)
	list := []string{"ab", "", "\x00", "R", row(4, "x"), strings.Repeat("y", 300), strings.Repeat("\xFF", 70000)}
	appended(t, l, list...)
	if got, want := files(t, d), "s.1:"+said(rows(1, list...)); got != want {
		t.Errorf("the disk has %s, want %s", got, want)
	}
	for range 300 {
		appended(t, l, "z")
	}
	want := map[string]string{"s.1": rows(1, list...)}
	for k := int64(8); k < l.Next(); k += 2048/18 + 1 {
		want[fmt.Sprint("s.", k)] = rows(k, strings.Split(strings.Repeat("z", int(min(l.Next()-k, 2048/18+1))), "")...)
	}
	if got := d.Names(); len(got) != len(want) {
		t.Errorf("the files %q", got)
	}
	for name, b := range want {
		if got, e := d.Read(name); e != api.OK || string(got) != b {
			t.Errorf("%s, the error %d, has %q", name, e, got)
		}
	}
}

// TestOpenOfBytes: what stands in files as the chapter's words say is found.
func TestOpenOfBytes(t *testing.T) {
	for what, list := range map[string][]string{
		"small ones":         {"ab", "c", "", "\x00", ""},
		"none":               {},
		"one of no byte":     {""},
		"one of many bytes":  {strings.Repeat("\xA5", wal.MaxRecord)},
		"some of many bytes": {strings.Repeat("x", wal.MaxRecord-1), "", strings.Repeat("y", wal.MaxRecord), "z"},
		"rows in rows":       {row(1, "x"), row(2, row(3, "y")), "R"},
		"a great many":       strings.Split(strings.Repeat("abc.", 1000), "."),
	} {
		for _, first := range []int64{1, 2, 255, 256, 65536, 1<<32 - 1, 1 << 32, 1<<56 + 3} {
			d := disk.New(plenty)
			put(t, d, fmt.Sprint("s.", first), rows(first, list...))
			l := opened(t, d)
			tells(t, what, l, first, first+int64(len(list)), 1, list...)
			told(t, what, l.Broken(), api.OK)
		}
	}
}

// TestAppendOpened: what was appended is there, and there again when it is opened anew.
func TestAppendOpened(t *testing.T) {
	d := disk.New(plenty)
	l := opened(t, d)
	var list []string
	for i := range 400 {
		list = append(list, strings.Repeat(string(rune('a'+i%26)), i*i%700))
		appended(t, l, list[i])
		if i%50 == 0 {
			done(t, l.Commit())
		}
		if got := int(l.Next()); got != i+2 {
			t.Fatalf("behind %d: next %d", i+1, got)
		}
	}
	if l.Sure() > l.Next() || l.Sure() <= 351 {
		t.Errorf("sure %d", l.Sure())
	}
	tells(t, "it", l, 1, l.Sure(), len(d.Names()), list...)
	again := opened(t, d)
	tells(t, "opened again", again, 1, 401, len(d.Names()), list...)
	if again.Segments() < 30 {
		t.Errorf("%d segments", again.Segments())
	}
}

// TestRecordBounds: a record has from 0 to MaxRecord bytes.
func TestRecordBounds(t *testing.T) {
	for _, n := range []int{0, 1, 63, 64, 65, wal.MaxRecord - 1, wal.MaxRecord} {
		d := disk.New(plenty)
		l := opened(t, d)
		b := strings.Repeat("\xB7", n)
		appended(t, l, b, "behind", b)
		done(t, l.Commit())
		list := []string{b, "behind", b}
		tells(t, fmt.Sprint(n, " bytes"), l, 1, 4, l.Segments(), list...)
		tells(t, fmt.Sprint(n, " bytes, opened again"), opened(t, d), 1, 4, l.Segments(), list...)
	}
	for _, n := range []int{wal.MaxRecord + 1, wal.MaxRecord + 2, 2 * wal.MaxRecord, disk.MaxDisk + 1} {
		d := disk.New(plenty)
		l := opened(t, d)
		told(t, "as the first one", l.Append(make([]byte, n)), api.ErrLimit)
		appended(t, l, "a")
		told(t, "as a second one", l.Append(make([]byte, n)), api.ErrLimit)
		appended(t, l, long("b"))
		before, answered := onDisk(t, d), answers(l)
		told(t, "as the first one of a segment", l.Append(make([]byte, n)), api.ErrLimit)
		if onDisk(t, d) != before || answers(l) != answered {
			t.Errorf("an Append of %d bytes, refused, makes %s, %s", n, onDisk(t, d), answers(l))
		}
	}
}

// TestLimitAheadOfDisk: a record that is too long is none, whatever the disk would say.
func TestLimitAheadOfDisk(t *testing.T) {
	d := disk.New(0)
	l := opened(t, d)
	told(t, "on a full disk", l.Append(make([]byte, wal.MaxRecord+1)), api.ErrLimit)
	told(t, "on a full disk", l.Append(make([]byte, wal.MaxRecord)), api.ErrFull)
	d.Crash()
	told(t, "on a disk that is off", l.Append(make([]byte, wal.MaxRecord+1)), api.ErrLimit)
	told(t, "on a disk that is off", l.Broken(), api.OK)
	told(t, "on a disk that is off", l.Append(make([]byte, wal.MaxRecord)), api.ErrDisk)
	told(t, "of a broken log", l.Append(make([]byte, wal.MaxRecord+1)), api.ErrDisk)
}

// TestSegmentBounds: a next one is begun when the last one has at least Segment bytes, and not ahead of it.
func TestSegmentBounds(t *testing.T) {
	for _, size := range []int{17, 100, 2030, 2031, 2046, 2047, 2048, 2049, 2065, 4000, 4096} {
		for _, parts := range []int{1, 2, 5} {
			if size < 17*parts {
				continue
			}
			list := make([]string, parts)
			for i := range list {
				list[i] = "x"
			}
			list[0], list[parts-1] = "", strings.Repeat("y", size-17*parts-max(parts-2, 0))
			for _, again := range []bool{false, true} {
				segmentOf(t, size, list, again)
			}
		}
	}
}

// segmentOf finds fault with where the record behind these goes, which have so many bytes in all.
func segmentOf(t *testing.T, size int, list []string, again bool) {
	t.Helper()
	d := disk.New(plenty)
	l := opened(t, d)
	appended(t, l, list...)
	if d.Used() != size {
		t.Fatalf("%d bytes, want %d", d.Used(), size)
	}
	if again {
		l = opened(t, d)
	}
	appended(t, l, "z")
	next := int64(len(list) + 1)
	want := []string{"s.1"}
	if size >= 2048 {
		want = []string{"s.1", fmt.Sprint("s.", next)}
	}
	if got := d.Names(); !slices.Equal(got, want) {
		t.Errorf("behind %d bytes: the files %q, want %q", size, got, want)
	}
	sure := int64(1)
	if size >= 2048 || again {
		sure = next
	}
	tells(t, fmt.Sprint("behind ", size, " bytes"), l, 1, sure, len(want), append(list, "z")...)
}

// TestSegmentOfCut: what an opening cuts off counts no more among a segment's bytes.
func TestSegmentOfCut(t *testing.T) {
	for _, size := range []int{2047, 2048} {
		d := disk.New(plenty)
		b := strings.Repeat("x", size-17)
		put(t, d, "s.1", row(1, b)+strings.Repeat("y", 500))
		l := opened(t, d)
		appended(t, l, "z")
		tells(t, fmt.Sprint("behind ", size), l, 1, 2, size-2046, b, "z")
	}
}

// TestEmptySegment: one without a record is one; a record goes to it.
func TestEmptySegment(t *testing.T) {
	for _, first := range []int64{1, 2, 77} {
		d := disk.New(plenty)
		done(t, d.Append(fmt.Sprint("s.", first), nil))
		l := opened(t, d)
		tells(t, "it", l, first, first, 1)
		done(t, l.Drop(math.MaxInt64))
		tells(t, "behind a Drop", l, first, first, 1)
		appended(t, l, "a")
		tells(t, "behind a record", l, first, first, 1, "a")
		if got := files(t, d); got != fmt.Sprint("s.", first)+":"+said(row(first, "a")) {
			t.Errorf("the disk has %s", got)
		}
	}
	d := disk.New(plenty)
	put(t, d, "s.5", rows(5, "a", "b"))
	put(t, d, "s.7", "")
	l := opened(t, d)
	tells(t, "behind another one", l, 5, 7, 2, "a", "b")
	done(t, l.Drop(6))
	tells(t, "behind a Drop below 6", l, 5, 7, 2, "a", "b")
	done(t, l.Drop(7))
	tells(t, "behind a Drop below 7", l, 7, 7, 1)
	appended(t, l, "c")
	tells(t, "behind a record", l, 7, 7, 1, "c")
}

// TestDeeds: each call does the deeds that the chapter names, and no other ones.
func TestDeeds(t *testing.T) {
	d := disk.New(plenty)
	l := opened(t, d)
	steps := int64(0)
	does := func(what string, e api.Errno, n int64, sure int64) {
		t.Helper()
		told(t, what, e, api.OK)
		if d.Steps() != steps+n || l.Sure() != sure {
			t.Errorf("%s: %d deeds, want %d; sure %d, want %d", what, d.Steps()-steps, n, l.Sure(), sure)
		}
		steps = d.Steps()
	}
	does("Commit of nothing", l.Commit(), 0, 1)
	does("Append", l.Append([]byte("a")), 1, 1)
	does("Append", l.Append([]byte("b")), 1, 1)
	does("Commit", l.Commit(), 1, 3)
	does("Commit of what is sure", l.Commit(), 0, 3)
	does("Append", l.Append([]byte(long("c"))), 1, 3)
	does("Append to a new one, what is ahead not sure", l.Append([]byte(long("d"))), 2, 4)
	does("Commit", l.Commit(), 1, 5)
	does("Append to a new one, what is ahead sure", l.Append([]byte("e")), 1, 5)
	does("Drop of nothing", l.Drop(3), 0, 5)
	does("Drop of two", l.Drop(5), 2, 5)
	does("Drop of nothing", l.Drop(5), 0, 5)
	does("Commit", l.Commit(), 1, 6)
	l, e := wal.Open(d)
	does("an opening", e, 1, 6)
	does("Commit behind an opening", l.Commit(), 0, 6)
	done(t, d.Append("s.5", []byte("x")))
	steps++
	l, e = wal.Open(d)
	does("an opening that cuts", e, 1, 6)
	does("Commit behind an opening that cuts", l.Commit(), 0, 6)
	l.Record(5)
	does("what tells only", l.Broken(), 0, 6)
}

// TestSettled: what an opening finds is sure, and what it does not find is gone for good.
func TestSettled(t *testing.T) {
	for what, behind := range map[string]string{"nothing behind": "", "a byte behind": "x", "half of one behind": row(3, "half")[:12]} {
		d := disk.New(plenty)
		done(t, d.Append("s.1", []byte(rows(1, "a", "b")+behind)))
		if len(surely(d).Names()) != 0 {
			t.Fatal("it is sure ahead of the opening")
		}
		tells(t, what, opened(t, d), 1, 3, 1, "a", "b")
		want := "s.1:" + said(rows(1, "a", "b"))
		if got := files(t, d); got != want {
			t.Errorf("%s: the disk has %s", what, got)
		}
		if got := files(t, surely(d)); got != want {
			t.Errorf("%s: sure is %s", what, got)
		}
	}
}

// segmented has four segments: of 1 to 3, of 4 and 5, of 6, and of 7 and 8.
func segmented(t *testing.T) (*disk.Disk, *wal.Log, []string) {
	t.Helper()
	list := []string{"a", "b", long("c"), "d", long("e"), long("f"), "g", "h"}
	d := disk.New(plenty)
	l := opened(t, d)
	appended(t, l, list...)
	if got := d.Names(); !slices.Equal(got, []string{"s.1", "s.4", "s.6", "s.7"}) {
		t.Fatalf("the files %q", got)
	}
	return d, l, list
}

func TestDrop(t *testing.T) {
	for _, x := range []struct {
		below, first int64
		names        string
	}{
		{math.MinInt64, 1, "s.1 s.4 s.6 s.7"}, {-1, 1, "s.1 s.4 s.6 s.7"}, {0, 1, "s.1 s.4 s.6 s.7"},
		{1, 1, "s.1 s.4 s.6 s.7"}, {2, 1, "s.1 s.4 s.6 s.7"}, {3, 1, "s.1 s.4 s.6 s.7"},
		{4, 4, "s.4 s.6 s.7"}, {5, 4, "s.4 s.6 s.7"},
		{6, 6, "s.6 s.7"},
		{7, 7, "s.7"}, {8, 7, "s.7"}, {9, 7, "s.7"}, {10, 7, "s.7"}, {1000, 7, "s.7"}, {math.MaxInt64, 7, "s.7"},
	} {
		for _, again := range []bool{false, true} {
			d, l, list := segmented(t)
			sure := int64(7)
			if again {
				l, sure = opened(t, d), 9
			}
			what := fmt.Sprint("Drop ", x.below)
			told(t, what, l.Drop(x.below), api.OK)
			told(t, what, l.Broken(), api.OK)
			names := strings.Join(d.Names(), " ")
			if names != x.names {
				t.Errorf("%s: the files %s, want %s", what, names, x.names)
			}
			segments := len(strings.Fields(x.names))
			tells(t, what, l, x.first, sure, segments, list[x.first-1:]...)
			tells(t, what+", opened", opened(t, d.Copy()), x.first, 9, segments, list[x.first-1:]...)
			appended(t, l, "i")
			tells(t, what+", and one more", l, x.first, sure, segments, append(list[x.first-1:], "i")...)
		}
	}
}

// TestDropByAndBy: Drops, one behind the other, do what the last one would have done by itself.
func TestDropByAndBy(t *testing.T) {
	d, l, _ := segmented(t)
	for below := int64(-2); below < 12; below++ {
		done(t, l.Drop(below))
		one, alone, _ := segmented(t)
		done(t, alone.Drop(below))
		if files(t, d) != files(t, one) || answers(l) != answers(alone) {
			t.Errorf("Drops up to %d: %s, %s; the last one: %s, %s", below, files(t, d), answers(l), files(t, one), answers(alone))
		}
		done(t, l.Drop(below-2))
		if answers(l) != answers(alone) {
			t.Errorf("a Drop of what is gone makes %s", answers(l))
		}
	}
	appended(t, l, long("i"), "j")
	done(t, l.Drop(10))
	tells(t, "behind more", l, 10, 10, 1, "j")
}
