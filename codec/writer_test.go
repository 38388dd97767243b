package codec

import (
	"bytes"
	"math"
	"strings"
	"testing"
)

// written is what Done tells of a Writer that must not be bad.
func written(t *testing.T, w *Writer) []byte {
	t.Helper()
	b, ok := w.Done()
	if !ok {
		t.Error("the Writer is bad")
	}
	return b
}

func isBad(t *testing.T, what string, w *Writer) {
	t.Helper()
	if b, ok := w.Done(); b != nil || ok {
		t.Errorf("%s: %x and %v, want none and false", what, b, ok)
	}
}

func TestP3_1ZeroWriter(t *testing.T) {
	var w Writer
	same(t, "nothing", written(t, &w), nil)
	same(t, "still nothing", written(t, &w), nil)
	same(t, "and then one", written(t, w.Num(1)), []byte{1, 0, 0, 0})
}

func TestP3_1Num(t *testing.T) {
	same(t, "the example", written(t, new(Writer).Num(258)), []byte{2, 1, 0, 0})
	for _, n := range []int{0, 1, 2, 127, 128, 255, 256, 65535, 65536, 0x01020304, 1<<24 - 1, 1 << 24, 1 << 30, 1<<31 - 2, 1<<31 - 1} {
		same(t, "Num", written(t, new(Writer).Num(n)), numOf(n))
	}
}

func TestP3_1NumOfAnother(t *testing.T) {
	for _, n := range []int{-1, -2, -258, math.MinInt32, math.MinInt, 1 << 31, 1<<31 + 1, 1 << 32, 1<<32 + 258, math.MaxInt} {
		w := new(Writer)
		if w.Num(n) != w {
			t.Errorf("Num of %d tells another Writer", n)
		}
		isBad(t, "first", w)
		isBad(t, "behind others", new(Writer).Num(5).Text("ab").Num(n))
	}
}

func TestP3_1ABadWriterStaysBad(t *testing.T) {
	var w Writer
	w.Num(7).Bytes(text(600)).Num(-1)
	for name, write := range map[string]func() *Writer{
		"Num":         func() *Writer { return w.Num(5) },
		"another Num": func() *Writer { return w.Num(1 << 31) },
		"Word":        func() *Writer { return w.Word(5) },
		"Bytes":       func() *Writer { return w.Bytes(text(600)) },
		"no Bytes":    func() *Writer { return w.Bytes(nil) },
		"Text":        func() *Writer { return w.Text("ab") },
	} {
		if write() != &w {
			t.Errorf("%s tells another Writer", name)
		}
		isBad(t, name, &w)
	}
	if w != (Writer{bad: true}) {
		t.Error("a bad Writer keeps what nothing tells any more")
	}
}

func TestP3_1Word(t *testing.T) {
	for _, n := range []uint64{0, 1, 258, 1<<31 - 1, 1 << 31, 1<<32 - 1, 1 << 32, 0x0102030405060708, 1 << 63, math.MaxUint64} {
		same(t, "Word", written(t, new(Writer).Word(n)), wordOf(n))
	}
	same(t, "by hand", written(t, new(Writer).Word(0x0102030405060708)), []byte{8, 7, 6, 5, 4, 3, 2, 1})
}

func TestP3_1BytesAndText(t *testing.T) {
	for n := range 3*chunkSize + 2 {
		b := text(n)
		same(t, "Bytes", written(t, new(Writer).Bytes(b)), countedOf(b))
		same(t, "Text", written(t, new(Writer).Text(string(b))), countedOf(b))
	}
	same(t, "Bytes(nil)", written(t, new(Writer).Bytes(nil)), make([]byte, 4))
	same(t, "no Text", written(t, new(Writer).Text("")), make([]byte, 4))
	same(t, "a text that is no UTF-8", written(t, new(Writer).Text("\xff\x00ä")), []byte{4, 0, 0, 0, 0xff, 0, 0xc3, 0xa4})
	long := strings.Repeat("long", 70000)
	same(t, "a long one", written(t, new(Writer).Text(long)), countedOf([]byte(long)))
}

func TestP3_1EachTellsTheWriter(t *testing.T) {
	var w Writer
	for range 100 {
		if w.Num(1) != &w || w.Word(2) != &w || w.Bytes(text(5)) != &w || w.Text("ab") != &w || w.Bytes(nil) != &w {
			t.Fatal("another Writer is told")
		}
	}
}

func TestP3_1DoneIsNoEnd(t *testing.T) {
	var w Writer
	var want []byte
	for i := range 200 {
		w.Num(i)
		want = append(want, numOf(i)...)
		same(t, "told", written(t, &w), want)
		same(t, "told again", written(t, &w), want)
	}
	isBad(t, "behind all that", w.Num(-1))
}

func TestP3_1NilWriter(t *testing.T) {
	var none *Writer
	if none.Num(1) != nil || none.Num(-1) != nil || none.Word(1) != nil || none.Bytes(text(3)) != nil || none.Bytes(nil) != nil || none.Text("ab") != nil || none.Text("") != nil {
		t.Error("nil tells a Writer")
	}
	isBad(t, "nil", none)
	isBad(t, "a chain of calls on nil", none.Num(1).Word(1).Bytes(text(1)).Text("a"))
}

// A Writer is a value: one that was copied must not write into what the other has.
func TestCopiedWritersGoOnByThemselves(t *testing.T) {
	for _, at := range []int{0, 1, chunkSize - 5, chunkSize - 4, chunkSize, 3*chunkSize + 7} {
		var w Writer
		w.Bytes(text(at))
		start := written(t, &w)
		first, second, third := w, w, w
		first.Word(1).Bytes(text(500))
		second.Word(2).Num(3)
		third.Num(-1)
		same(t, "one", written(t, &first), append(append(bytes.Clone(start), wordOf(1)...), countedOf(text(500))...))
		same(t, "another", written(t, &second), append(append(bytes.Clone(start), wordOf(2)...), numOf(3)...))
		isBad(t, "a third", &third)
		same(t, "what they were copied of", written(t, &w), start)
	}
}

func TestNoMoreIsKeptThanWaits(t *testing.T) {
	var w Writer
	for i := range 200 {
		w.Word(math.MaxUint64 - uint64(i))
		for _, left := range w.waiting[w.waits:] {
			if left != 0 {
				t.Fatal("bytes of a chunk are kept twice")
			}
		}
	}
}
