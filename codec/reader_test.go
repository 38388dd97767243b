package codec

import (
	"math"
	"testing"

	"linnet/api"
)

func stands(t *testing.T, what string, r *Reader, left int, err api.Errno) {
	t.Helper()
	if r.Left() != left || r.Err() != err {
		t.Errorf("%s: %d are left and Err is %d, want %d and %d", what, r.Left(), r.Err(), left, err)
	}
}

// ended holds that nothing more is read, whatever is asked, and that the error stays.
func ended(t *testing.T, what string, r *Reader, err api.Errno) {
	t.Helper()
	stands(t, what, r, 0, err)
	for _, most := range []int{-1, 0, 1, 9, math.MinInt, math.MaxInt} {
		if n, w, b, s := r.Num(), r.Word(), r.Bytes(most), r.Text(most); n != 0 || w != 0 || len(b) != 0 || s != "" {
			t.Errorf("%s: behind the error %d, %d, %x and %q are read", what, n, w, b, s)
		}
		stands(t, what+", asked again", r, 0, err)
	}
}

func TestP3_2ReadsFromTheFront(t *testing.T) {
	r := NewReader([]byte{2, 1, 0, 0, 8, 7, 6, 5, 4, 3, 2, 1, 2, 0, 0, 0, 9, 8, 1, 0, 0, 0, 97, 77})
	stands(t, "at first", r, 24, api.OK)
	if r.Num() != 258 {
		t.Error("Num")
	}
	stands(t, "behind Num", r, 20, api.OK)
	if r.Word() != 0x0102030405060708 {
		t.Error("Word")
	}
	stands(t, "behind Word", r, 12, api.OK)
	same(t, "Bytes", r.Bytes(2), []byte{9, 8})
	stands(t, "behind Bytes", r, 6, api.OK)
	if r.Text(1) != "a" {
		t.Error("Text")
	}
	stands(t, "behind Text", r, 1, api.OK)
	if r.Num() != 0 {
		t.Error("a Num of one byte")
	}
	ended(t, "at the end", r, api.ErrBad)
}

func TestP3_2Nothing(t *testing.T) {
	for _, b := range [][]byte{nil, {}} {
		stands(t, "as it is", NewReader(b), 0, api.OK)
		for i, read := range []func(r *Reader){
			func(r *Reader) { r.Num() },
			func(r *Reader) { r.Word() },
			func(r *Reader) { r.Bytes(0) },
			func(r *Reader) { r.Bytes(-1) },
			func(r *Reader) { r.Text(0) },
			func(r *Reader) { r.Text(-1) },
		} {
			r := NewReader(b)
			read(r)
			if r.Err() != api.ErrBad {
				t.Errorf("read %d of nothing: %d", i, r.Err())
			}
			ended(t, "nothing", r, api.ErrBad)
		}
	}
	var zero Reader
	stands(t, "a zero Reader", &zero, 0, api.OK)
	zero.Num()
	ended(t, "a zero Reader", &zero, api.ErrBad)
}

func TestP3_2Num(t *testing.T) {
	for _, n := range []int{0, 1, 258, 1 << 24, 1<<31 - 2, 1<<31 - 1} {
		r := NewReader(append(numOf(n), 5))
		if got := r.Num(); got != n {
			t.Errorf("Num is %d, want %d", got, n)
		}
		stands(t, "behind it", r, 1, api.OK)
	}
	for _, b := range [][]byte{{0, 0, 0, 0x80}, {0, 0, 0, 0x80, 1, 0, 0, 0}, {0xff, 0xff, 0xff, 0xff}, {1}, {1, 0}, {1, 0, 0}} {
		r := NewReader(b)
		if got := r.Num(); got != 0 {
			t.Errorf("Num of %x is %d", b, got)
		}
		ended(t, "no Num", r, api.ErrBad)
	}
}

func TestP3_2Word(t *testing.T) {
	for _, n := range []uint64{0, 1, 1 << 31, 1 << 32, 1 << 63, math.MaxUint64} {
		r := NewReader(append(wordOf(n), 5))
		if got := r.Word(); got != n {
			t.Errorf("Word is %d, want %d", got, n)
		}
		stands(t, "behind it", r, 1, api.OK)
	}
	for size := range 8 {
		r := NewReader(text(size))
		if got := r.Word(); got != 0 {
			t.Errorf("a Word of %d bytes is %d", size, got)
		}
		ended(t, "no Word", r, api.ErrBad)
	}
}

// counteds are the two that read a count and what it counts.
func counteds() map[string]func(r *Reader, most int) string {
	return map[string]func(r *Reader, most int) string{
		"Bytes": func(r *Reader, most int) string { return string(r.Bytes(most)) },
		"Text":  func(r *Reader, most int) string { return r.Text(most) },
	}
}

func TestP3_2MostIsJustTheLengthOrLess(t *testing.T) {
	for name, read := range counteds() {
		for _, n := range []int{0, 1, 2, 40, 300} {
			b := append(countedOf(text(n)), text(6)...)
			for _, most := range []int{n, n + 1, 1 << 31, math.MaxInt} {
				r := NewReader(b)
				same(t, name, []byte(read(r, most)), text(n))
				stands(t, name, r, 6, api.OK)
			}
			for _, most := range []int{n - 1, -1, -2, math.MinInt} {
				r := NewReader(b)
				same(t, name+" of too many", []byte(read(r, most)), nil)
				ended(t, name+" of too many", r, api.ErrBig)
			}
		}
	}
}

func TestP3_2MoreThanAreThere(t *testing.T) {
	for name, read := range counteds() {
		for _, b := range [][]byte{
			{1, 0, 0, 0},
			{2, 0, 0, 0, 9},
			{3, 0, 0, 0, 9, 9},
			{0, 1, 0, 0, 9, 9, 9, 9, 9},
			{0xff, 0xff, 0xff, 0x7f},
			{0xff, 0xff, 0xff, 0x7f, 9, 9, 9},
			{0, 0, 0, 0x80, 9},
			{0xff, 0xff, 0xff, 0xff, 9},
			{0, 0, 0},
			{1},
		} {
			for _, most := range []int{math.MaxInt, 1<<31 - 1, 3, 2, 1, 0, -1, math.MinInt} {
				r := NewReader(b)
				same(t, name, []byte(read(r, most)), nil)
				ended(t, name+" that is not there, too many or not", r, api.ErrBad)
			}
		}
	}
}

func TestP3_2TheFirstErrorStays(t *testing.T) {
	r := NewReader([]byte{1, 0, 0, 0, 9, 0, 0, 0, 0x80})
	r.Bytes(0)
	ended(t, "too many, then bad ones", r, api.ErrBig)
	r = NewReader([]byte{0, 0, 0, 0x80, 2, 0, 0, 0, 9, 9})
	r.Num()
	ended(t, "bad ones, then too many", r, api.ErrBad)
}

func TestP3_2NilReader(t *testing.T) {
	var none *Reader
	ended(t, "nil", none, api.ErrBad)
}

func TestCopiedReadersGoOnByThemselves(t *testing.T) {
	r := NewReader(append(numOf(5), numOf(6)...))
	r.Num()
	other := *r
	r.Bytes(0)
	ended(t, "the first", r, api.ErrBad)
	stands(t, "the copy", &other, 4, api.OK)
	if other.Num() != 6 {
		t.Error("the copy reads another Num")
	}
}
