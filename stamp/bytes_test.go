package stamp_test

import (
	"bytes"
	"testing"

	"tailrace/api"
	"tailrace/stamp"
)

func TestPut(t *testing.T) {
	for i, x := range []struct {
		t    api.Stamp
		want []byte
		e    api.Errno
	}{
		{at(258, 7), []byte{1, 1, 2, 7}, 0}, // the chapter's
		{at(0), []byte{0, 0, 0}, 0}, {at(1), []byte{0, 0, 1}, 0}, {at(255), []byte{0, 0, 255}, 0}, {at(256), []byte{0, 1, 0}, 0}, {at(999), []byte{0, 3, 231}, 0},
		{at(0, 0), []byte{1, 0, 0, 0}, 0}, {at(3, 15, 0), []byte{2, 0, 3, 15, 0}, 0}, {at(515, 1, 2, 3), []byte{3, 2, 3, 1, 2, 3}, 0},
		{at(1000), nil, 50}, {at(-1), nil, 50}, {at(0, 16), nil, 50}, {at(0, -1), nil, 50}, {at(0, 1, 256), nil, 50}, {at(65536), nil, 50},
		{api.Stamp{Depth: -1}, nil, 50}, {api.Stamp{Depth: 4}, nil, 50}, {api.Stamp{Depth: 256}, nil, 50}, {api.Stamp{Loops: [3]int{1}}, nil, 50}, {api.Stamp{Depth: 2, Loops: [3]int{0, 0, 1}}, nil, 50},
	} {
		if b, e := stamp.Put(x.t); !bytes.Equal(b, x.want) || e != x.e || e != api.OK && b != nil {
			t.Errorf("%d: Put(%v) is %v, %d", i, x.t, b, e)
		}
	}
}

func TestPutIsNewMemory(t *testing.T) {
	for _, x := range []api.Stamp{at(0), at(258), at(258, 7), at(1, 2, 3), at(999, 15, 14, 13)} {
		first, _ := stamp.Put(x)
		second, _ := stamp.Put(x)
		want := bytes.Clone(first)
		spoil(first)
		if third, _ := stamp.Put(x); !bytes.Equal(second, want) || !bytes.Equal(third, want) {
			t.Errorf("%v: an answer shares memory with another one", x)
		}
	}
}

// spoil changes all the memory that a list reaches, behind its length, too.
func spoil(b []byte) {
	for i := range b[:cap(b)] {
		b[:cap(b)][i] ^= 0xFF
	}
}

func TestGet(t *testing.T) {
	for i, x := range []struct {
		b      []byte
		want   api.Stamp
		behind []byte
	}{
		{[]byte{1, 1, 2, 7}, at(258, 7), nil},
		{[]byte{1, 1, 2, 7, 9}, at(258, 7), []byte{9}},
		{[]byte{0, 0, 0}, at(0), nil},
		{[]byte{0, 0, 0, 0, 0, 0}, at(0), []byte{0, 0, 0}},
		{[]byte{0, 3, 231, 255}, at(999), []byte{255}},
		{[]byte{3, 0, 5, 15, 14, 13, 12}, at(5, 15, 14, 13), []byte{12}},
		{[]byte{2, 0, 5, 1, 0, 16}, at(5, 1, 0), []byte{16}},
	} {
		got, behind, e := stamp.Get(x.b)
		if got != x.want || !bytes.Equal(behind, x.behind) || e != api.OK {
			t.Errorf("%d: Get(%v) is %v, %v, %d", i, x.b, got, behind, e)
		}
	}
	for i, b := range [][]byte{
		nil, {}, {0}, {0, 0}, {3, 0}, {1, 0, 0}, {2, 0, 0, 1}, {3, 0, 0, 1, 2}, {0, 3, 232}, {0, 4, 0}, {0, 255, 255}, {0, 128, 0, 0, 0, 0},
		{1, 0, 0, 16}, {1, 0, 0, 255}, {2, 0, 0, 16, 0, 0}, {2, 0, 0, 0, 16, 0}, {3, 0, 0, 0, 0, 16}, {3, 0, 0, 0, 0, 128, 0}, {3, 3, 232, 0, 0, 0},
		{4, 0, 0, 0, 0, 0}, {4, 0, 0, 0, 0, 0, 0}, {4, 0, 0, 0, 0, 0, 0, 0}, {128, 0, 0, 0, 0, 0, 0}, {255, 0, 0, 0, 0, 0, 0}, plenty(4), plenty(128), plenty(255),
	} {
		if got, behind, e := stamp.Get(b); got != none || behind != nil || e != 50 {
			t.Errorf("wrong bytes, %d: Get(%v) is %v, %v, %d", i, b, got, behind, e)
		}
	}
}

// plenty are bytes of a depth, with as many counters as any byte could ask for.
func plenty(depth byte) []byte { return append([]byte{depth}, make([]byte, 300)...) }

// TestGetOfAnyBytes holds Get against the words: of all depths and epochs, of all counters, cut short everywhere.
func TestGetOfAnyBytes(t *testing.T) {
	long := make([]byte, 300)
	for depth := range 256 {
		for epoch := range 65536 {
			if depth > 5 && depth != 128 && depth != 255 && epoch%257 != 0 {
				continue
			}
			long[0], long[1], long[2] = byte(depth), byte(epoch>>8), byte(epoch)
			gets(t, long[:7])
		}
		gets(t, append([]byte{byte(depth), 0, 1}, long[3:]...))
	}
	for depth := range byte(5) {
		for place := range 4 {
			for counter := range 256 {
				b := []byte{depth, 1, 2, 3, 4, 5, 6, 7}
				b[3+place] = byte(counter)
				for n := range len(b) + 1 {
					gets(t, b[:n])
				}
			}
		}
	}
}

func gets(t *testing.T, b []byte) {
	t.Helper()
	got, behind, e := stamp.Get(b)
	if want, left, is := getByWords(b); got != want || !bytes.Equal(behind, left) || e != is {
		t.Fatalf("Get(%v) is %v, %v, %d, want %v, %v, %d", b, got, behind, e, want, left, is)
	}
}

// TestGetTellsAPart: what is behind is a part of what was handed in, up to its end, and reaches nothing behind that.
func TestGetTellsAPart(t *testing.T) {
	for _, x := range []api.Stamp{at(3), at(258, 7), at(1, 2, 3), at(999, 15, 14, 13)} {
		for behind := range 5 {
			b, _ := stamp.Put(x)
			begin := len(b)
			memory := append(b, 101, 102, 103, 104, 105, 106, 107, 108, 109)
			kept := bytes.Clone(memory)
			handed := memory[:begin+behind]
			got, rest, e := stamp.Get(handed)
			if got != x || e != api.OK || !bytes.Equal(rest, kept[begin:begin+behind]) {
				t.Fatalf("%v with %d behind: %v, %v, %d", x, behind, got, rest, e)
			}
			if !bytes.Equal(memory, kept) {
				t.Errorf("%v with %d behind: Get changed it", x, behind)
			}
			if behind > 0 && &rest[0] != &memory[begin] {
				t.Errorf("%v with %d behind: they are no part of it", x, behind)
			}
			if _ = append(rest, 1, 2, 3); !bytes.Equal(memory, kept) {
				t.Errorf("%v with %d behind: what is appended is written behind it", x, behind)
			}
		}
	}
	broken := []byte{1, 0, 0, 16, 5, 6}
	stamp.Get(broken)
	if !bytes.Equal(broken, []byte{1, 0, 0, 16, 5, 6}) {
		t.Errorf("Get changed bytes that are no time: %v", broken)
	}
}

// TestGetOneAfterTheOther: times stand behind one another, and are read as they were put.
func TestGetOneAfterTheOther(t *testing.T) {
	all := []api.Stamp{at(0), at(1, 2, 3), at(999, 15), at(999, 15, 15, 15), at(0, 0, 0, 0), at(256)}
	var b []byte
	for _, x := range all {
		one, _ := stamp.Put(x)
		b = append(b, one...)
	}
	for i, x := range all {
		got, behind, e := stamp.Get(b)
		if got != x || e != api.OK {
			t.Fatalf("%d: %v, %d, want %v", i, got, e, x)
		}
		b = behind
	}
	if len(b) != 0 {
		t.Errorf("%v is left", b)
	}
}

// TestEveryTime: each time that is right is got as it was put, and their bytes rise as Compare has the times.
func TestEveryTime(t *testing.T) {
	var ahead api.Stamp
	var bytesAhead []byte
	count := 0
	for depth := range 4 {
		for n := range 1000 << (4 * depth) {
			x := api.Stamp{Depth: depth, Epoch: n >> (4 * depth)}
			for i := range depth {
				x.Loops[i] = n >> (4 * (depth - 1 - i)) & 15
			}
			b, e := stamp.Put(x)
			got, behind, back := stamp.Get(b)
			if e != api.OK || back != api.OK || got != x || len(behind) != 0 || len(b) != 3+depth {
				t.Fatalf("%v is put as %v, %d, and got as %v, %v, %d", x, b, e, got, behind, back)
			}
			if count > 0 && (bytes.Compare(bytesAhead, b) != -1 || stamp.Compare(ahead, x) != -1) {
				t.Fatalf("%v ahead of %v: their bytes %v and %v, Compare %d", ahead, x, bytesAhead, b, stamp.Compare(ahead, x))
			}
			ahead, bytesAhead = x, b
			count++
		}
	}
	if count != 1000*(1+16+256+4096) {
		t.Errorf("%d times", count)
	}
}
