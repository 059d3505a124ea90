package fields_test

import (
	"bytes"
	"encoding/binary"
	"math"
	"math/rand"
	"sync"
	"testing"

	"tailrace/fields"
)

func TestWriterExample(t *testing.T) {
	var w fields.Writer
	w.Byte(1)
	w.Short(2)
	w.Word(0xFF)
	w.Raw([]byte{7})
	if got, want := w.Out(), []byte{1, 0, 2, 0, 0, 0, 0xFF, 7}; !bytes.Equal(got, want) {
		t.Errorf("%X, want %X", got, want)
	}
}

func TestReaderExample(t *testing.T) {
	r := fields.Open([]byte{1, 2, 3})
	if got := r.Short(); got != 0x0102 {
		t.Errorf("the first Short: %X, want 102", got)
	}
	if got := r.Short(); got != 0 {
		t.Errorf("the second Short, of one byte: %X, want 0", got)
	}
	if got := r.Byte(); got != 0 {
		t.Errorf("a Byte of a spoilt reader: %X, want 0", got)
	}
	if !r.Bad() {
		t.Error("a spoilt reader is not bad")
	}
}

// numbers are those at the edges of all widths, and some between.
func numbers() []uint64 {
	all := []uint64{0, 1, 2, 0x0102030405060708, 0xFEDCBA9876543210, math.MaxUint64}
	for i := range 64 {
		all = append(all, 1<<i, 1<<i-1, math.MaxUint64<<i)
	}
	return all
}

func TestNumbersAreWritten(t *testing.T) {
	for _, n := range numbers() {
		for _, x := range []struct {
			name string
			put  func(w *fields.Writer)
			want []byte
		}{
			{"Byte", func(w *fields.Writer) { w.Byte(uint8(n)) }, []byte{uint8(n)}},
			{"Short", func(w *fields.Writer) { w.Short(uint16(n)) }, binary.BigEndian.AppendUint16(nil, uint16(n))},
			{"Word", func(w *fields.Writer) { w.Word(uint32(n)) }, binary.BigEndian.AppendUint32(nil, uint32(n))},
			{"Long", func(w *fields.Writer) { w.Long(n) }, binary.BigEndian.AppendUint64(nil, n)},
		} {
			var w fields.Writer
			x.put(&w)
			if got := w.Out(); !bytes.Equal(got, x.want) {
				t.Errorf("%s of %X: %X, want %X", x.name, n, got, x.want)
			}
		}
	}
}

func TestNumbersAreRead(t *testing.T) {
	for _, n := range numbers() {
		b := binary.BigEndian.AppendUint64(nil, n)
		if got, want := fields.Open(b).Byte(), b[0]; got != want {
			t.Errorf("Byte of %X: %X, want %X", b, got, want)
		}
		if got, want := fields.Open(b).Short(), binary.BigEndian.Uint16(b); got != want {
			t.Errorf("Short of %X: %X, want %X", b, got, want)
		}
		if got, want := fields.Open(b).Word(), binary.BigEndian.Uint32(b); got != want {
			t.Errorf("Word of %X: %X, want %X", b, got, want)
		}
		if got := fields.Open(b).Long(); got != n {
			t.Errorf("Long of %X: %X, want %X", b, got, n)
		}
	}
}

func TestWriterOfNothing(t *testing.T) {
	var zero fields.Writer
	if got := zero.Out(); len(got) != 0 {
		t.Errorf("a Writer nothing was done to has written %X", got)
	}
	zero.Raw(nil)
	zero.Raw([]byte{})
	if got := zero.Out(); len(got) != 0 {
		t.Errorf("a Writer of no bytes has written %X", got)
	}
	zero.Byte(5)
	zero.Raw(nil)
	if got := zero.Out(); !bytes.Equal(got, []byte{5}) {
		t.Errorf("a Writer of 05 and no bytes has written %X", got)
	}
	var none *fields.Writer
	none.Byte(1)
	none.Short(2)
	none.Word(3)
	none.Long(4)
	none.Raw([]byte{5})
	none.Raw(nil)
	if got := none.Out(); len(got) != 0 {
		t.Errorf("a nil Writer has written %X", got)
	}
}

func TestRawOfAnyLength(t *testing.T) {
	noise := rand.New(rand.NewSource(1))
	for ahead := range 70 {
		for length := range 200 {
			b := make([]byte, ahead+length)
			noise.Read(b)
			var w fields.Writer
			w.Raw(b[:ahead])
			w.Raw(b[ahead:])
			if got := w.Out(); !bytes.Equal(got, b) {
				t.Fatalf("%d bytes behind %d: %X, want %X", length, ahead, got, b)
			}
			r := fields.Open(b)
			if one, two := r.Raw(ahead), r.Raw(length); !bytes.Equal(one, b[:ahead]) || !bytes.Equal(two, b[ahead:]) {
				t.Fatalf("%d bytes behind %d are read as %X and %X, want %X", length, ahead, one, two, b)
			}
		}
	}
}

func TestManyBytes(t *testing.T) {
	const count = 1 << 20
	var w fields.Writer
	for i := range count {
		w.Byte(byte(i >> 8))
	}
	all := w.Out()
	if len(all) != count {
		t.Fatalf("%d bytes, want %d", len(all), count)
	}
	r := fields.Open(all)
	for i := range count {
		if got := r.Byte(); got != byte(i>>8) {
			t.Fatalf("the byte %d: %X, want %X", i, got, byte(i>>8))
		}
	}
	if r.Left() != 0 || r.Bad() {
		t.Errorf("%d left, bad %t", r.Left(), r.Bad())
	}
}

func TestRawIsCopied(t *testing.T) {
	for _, length := range []int{0, 1, 3, 63, 64, 65, 200} {
		memory := bytes.Repeat([]byte{0xAA}, length+64)
		handed := memory[:length]
		want := bytes.Repeat([]byte{0xAA}, length)
		var w fields.Writer
		w.Raw(handed)
		for i := range handed {
			handed[i] = 0x55
		}
		w.Long(math.MaxUint64)
		w.Raw(bytes.Repeat([]byte{1}, 64))
		if got := w.Out()[:length]; !bytes.Equal(got, want) {
			t.Errorf("%d bytes that were others later on: %X", length, got)
		}
		for i, c := range memory {
			if i < length && c != 0x55 || i >= length && c != 0xAA {
				t.Errorf("of %d bytes, the writer changed the one at %d", length, i)
			}
		}
	}
}

func TestOutIsNewMemory(t *testing.T) {
	for _, length := range []int{1, 8, 63, 64, 65, 128, 200} {
		b := bytes.Repeat([]byte{3}, length)
		var w fields.Writer
		w.Raw(b)
		first, second := w.Out(), w.Out()
		spoil(first)
		if !bytes.Equal(second, b) || !bytes.Equal(w.Out(), b) {
			t.Errorf("%d bytes: an answer shares memory with another one, or the writer", length)
		}
		w.Raw(bytes.Repeat([]byte{9}, 100))
		if !bytes.Equal(second, b) {
			t.Errorf("%d bytes: an answer changed by what was written later", length)
		}
		spoil(second)
		if got, want := w.Out(), append(bytes.Clone(b), bytes.Repeat([]byte{9}, 100)...); !bytes.Equal(got, want) {
			t.Errorf("%d bytes, then 100: %X", length, got)
		}
	}
}

// spoil changes all the memory that a list reaches, behind its length, too.
func spoil(b []byte) {
	for i := range b[:cap(b)] {
		b[:cap(b)][i] ^= 0xFF
	}
}

// TestCopiedWriters: two Writers of which one was assigned the other go on by themselves, however long they were by then.
func TestCopiedWriters(t *testing.T) {
	for length := range 200 {
		var one fields.Writer
		for i := range length {
			one.Byte(byte(i))
		}
		written := one.Out()
		two := one
		three := two
		for i := range 100 {
			one.Byte(byte(i))
			two.Byte(byte(100 + i))
		}
		for i, w := range []*fields.Writer{&one, &two} {
			got := w.Out()
			if len(got) != length+100 || !bytes.Equal(got[:length], written) || got[length] != byte(100*i) || got[length+99] != byte(100*i+99) {
				t.Fatalf("the copy %d of a Writer of %d bytes: %X", i, length, got)
			}
		}
		if got := three.Out(); !bytes.Equal(got, written) {
			t.Fatalf("a copy to which nothing was done, of %d bytes: %X", length, got)
		}
	}
}

func TestCopiedWritersTogether(t *testing.T) {
	var one fields.Writer
	one.Raw(bytes.Repeat([]byte{7}, 100))
	var all sync.WaitGroup
	for k := range 8 {
		w := one
		all.Go(func() {
			for range 1000 {
				w.Byte(byte(k))
			}
			if got := w.Out(); !bytes.Equal(got[100:], bytes.Repeat([]byte{byte(k)}, 1000)) {
				t.Errorf("the copy %d has another one's bytes", k)
			}
		})
	}
	all.Wait()
}

func TestOpenCopies(t *testing.T) {
	for _, length := range []int{1, 4, 8, 100} {
		memory := bytes.Repeat([]byte{0xAA}, length+64)
		handed := memory[:length]
		r := fields.Open(handed)
		for i := range handed {
			handed[i] = 0x55
		}
		if got := r.Raw(length); !bytes.Equal(got, bytes.Repeat([]byte{0xAA}, length)) {
			t.Errorf("%d bytes that were others later on: %X", length, got)
		}
		if r.Byte(); !r.Bad() {
			t.Errorf("%d bytes: what lies behind their length is read", length)
		}
		for i, c := range memory {
			if i < length && c != 0x55 || i >= length && c != 0xAA {
				t.Errorf("of %d bytes, the reader changed the one at %d", length, i)
			}
		}
	}
}

func TestRawAnswersNewMemory(t *testing.T) {
	r := fields.Open([]byte{1, 2, 3, 4, 5, 6, 7, 8})
	same := *r
	first := r.Raw(3)
	spoil(first)
	if got := r.Raw(3); !bytes.Equal(got, []byte{4, 5, 6}) {
		t.Errorf("behind bytes that were changed: %X", got)
	}
	if got := same.Long(); got != 0x0102030405060708 {
		t.Errorf("a copy of the reader, behind bytes that were changed: %X", got)
	}
	if got := r.Short(); got != 0x0708 || r.Left() != 0 || r.Bad() {
		t.Errorf("the last ones: %X, %d left, bad %t", got, r.Left(), r.Bad())
	}
}

func TestReadToTheEnd(t *testing.T) {
	for _, b := range [][]byte{nil, {}, {1}, {1, 2}, {1, 2, 3, 4}} {
		r := fields.Open(b)
		if r.Left() != len(b) || r.Bad() {
			t.Errorf("%X: %d left, bad %t", b, r.Left(), r.Bad())
		}
		if got := r.Raw(len(b)); !bytes.Equal(got, b) {
			t.Errorf("%X is read as %X", b, got)
		}
		if got := r.Raw(0); len(got) != 0 || r.Left() != 0 || r.Bad() {
			t.Errorf("%X: no bytes, at the end: %X, %d left, bad %t", b, got, r.Left(), r.Bad())
		}
		if got := r.Byte(); got != 0 || !r.Bad() {
			t.Errorf("%X: a Byte at the end: %X, bad %t", b, got, r.Bad())
		}
	}
}

// asks are calls that read, by the number of bytes that they ask for.
func asks(r *fields.Reader) map[int]func() uint64 {
	return map[int]func() uint64{
		1: func() uint64 { return uint64(r.Byte()) },
		2: func() uint64 { return uint64(r.Short()) },
		4: func() uint64 { return uint64(r.Word()) },
		8: r.Long,
	}
}

// spoilt finds fault with a reader that is spoilt, or nil, but answers.
func spoilt(t *testing.T, what string, r *fields.Reader) {
	t.Helper()
	for range 2 {
		if !r.Bad() || r.Left() != 0 {
			t.Errorf("%s: bad %t, %d left", what, r.Bad(), r.Left())
		}
		for width, ask := range asks(r) {
			if got := ask(); got != 0 {
				t.Errorf("%s: a number of %d bytes: %X", what, width, got)
			}
		}
		for _, n := range []int{0, 1, 5, -1, math.MinInt, math.MaxInt} {
			if got := r.Raw(n); len(got) != 0 {
				t.Errorf("%s: %d bytes: %X", what, n, got)
			}
		}
	}
}

func TestNilReader(t *testing.T) {
	spoilt(t, "nil", nil)
}

func TestSpoiltByNumbers(t *testing.T) {
	for _, width := range []int{1, 2, 4, 8} {
		for length := range width {
			r := fields.Open(bytes.Repeat([]byte{0xEE}, length))
			if got := asks(r)[width](); got != 0 {
				t.Errorf("a number of %d bytes, of %d: %X", width, length, got)
			}
			spoilt(t, "by a number", r)
		}
	}
}

func TestSpoiltByRaw(t *testing.T) {
	for length := range 10 {
		for _, n := range []int{length + 1, length + 2, math.MaxInt32, math.MaxInt, -1, -length - 1, math.MinInt32, math.MinInt} {
			r := fields.Open(bytes.Repeat([]byte{0xEE}, length))
			if got := r.Raw(n); len(got) != 0 {
				t.Errorf("%d bytes, of %d: %X", n, length, got)
			}
			spoilt(t, "by bytes", r)
		}
	}
}

func TestSpoiltAmid(t *testing.T) {
	r := fields.Open([]byte{1, 2, 3, 4, 5})
	if got := r.Word(); got != 0x01020304 || r.Left() != 1 || r.Bad() {
		t.Fatalf("%X, %d left, bad %t", got, r.Left(), r.Bad())
	}
	if got := r.Short(); got != 0 {
		t.Errorf("a Short of one byte: %X", got)
	}
	spoilt(t, "amid", r)
}

// deed is one thing to write, and to read again.
type deed struct {
	width int // 0: bytes
	n     uint64
	raw   []byte
}

func deeds(noise *rand.Rand) []deed {
	list := make([]deed, noise.Intn(60))
	for i := range list {
		d := deed{width: []int{0, 1, 2, 4, 8}[noise.Intn(5)]}
		if d.width == 0 {
			d.raw = make([]byte, noise.Intn(90))
			noise.Read(d.raw)
		} else {
			d.n = noise.Uint64() >> (64 - 8*d.width)
		}
		list[i] = d
	}
	return list
}

func write(w *fields.Writer, list []deed) {
	for _, d := range list {
		switch d.width {
		case 0:
			w.Raw(d.raw)
		case 1:
			w.Byte(uint8(d.n))
		case 2:
			w.Short(uint16(d.n))
		case 4:
			w.Word(uint32(d.n))
		case 8:
			w.Long(d.n)
		}
	}
}

func size(list []deed) int {
	n := 0
	for _, d := range list {
		n += d.width + len(d.raw)
	}
	return n
}

// read finds fault with a reader of which what was written is not read, and tells whether it found none.
func read(t *testing.T, r *fields.Reader, list []deed) bool {
	t.Helper()
	left := r.Left()
	for i, d := range list {
		left -= d.width + len(d.raw)
		if d.width == 0 {
			if got := r.Raw(len(d.raw)); !bytes.Equal(got, d.raw) {
				t.Errorf("%d: %X, want %X", i, got, d.raw)
			}
		} else if got := asks(r)[d.width](); got != d.n {
			t.Errorf("%d: %X, want %X", i, got, d.n)
		}
		if r.Left() != left || r.Bad() {
			t.Errorf("%d: %d left, want %d; bad %t", i, r.Left(), left, r.Bad())
		}
	}
	return !t.Failed()
}

func TestReadAsWritten(t *testing.T) {
	noise := rand.New(rand.NewSource(2))
	for range 500 {
		first, second := deeds(noise), deeds(noise)
		var one, two, both fields.Writer
		write(&one, first)
		write(&two, second)
		write(&both, first)
		write(&both, second)
		joined := append(one.Out(), two.Out()...)
		if len(joined) != size(first)+size(second) || !bytes.Equal(joined, both.Out()) {
			t.Fatalf("two Writers: %X; one: %X", joined, both.Out())
		}
		r := fields.Open(joined)
		if !read(t, r, first) || !read(t, r, second) {
			t.Fatalf("%X is not read as it was written", joined)
		}
		if r.Left() != 0 || r.Bad() {
			t.Fatalf("at the end: %d left, bad %t", r.Left(), r.Bad())
		}
		r.Byte()
		spoilt(t, "behind all", r)
	}
}

func TestWhatIsNotReadChangesNothing(t *testing.T) {
	noise := rand.New(rand.NewSource(3))
	for range 200 {
		list := deeds(noise)
		var w fields.Writer
		write(&w, list)
		for _, behind := range [][]byte{{0}, {0xFF}, bytes.Repeat([]byte{0xFF}, 9), make([]byte, 100)} {
			r := fields.Open(append(w.Out(), behind...))
			if !read(t, r, list) {
				t.Fatalf("%X behind it changes what is read", behind)
			}
			if got := r.Raw(len(behind)); !bytes.Equal(got, behind) {
				t.Fatalf("what stood behind: %X, want %X", got, behind)
			}
		}
	}
}

func TestReadersByThemselves(t *testing.T) {
	b := []byte{1, 2, 3, 4}
	one, two := fields.Open(b), fields.Open(b)
	one.Long()
	copied := *two
	copied.Short()
	if got := two.Word(); got != 0x01020304 || two.Bad() {
		t.Errorf("beside a spoilt reader, and a copy that went on: %X, bad %t", got, two.Bad())
	}
	if got := copied.Short(); got != 0x0304 {
		t.Errorf("a copy that went on: %X", got)
	}
	spoilt(t, "by itself", one)
}
