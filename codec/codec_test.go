package codec

import (
	"bytes"
	"encoding/binary"
	"math"
	"math/rand"
	"testing"

	"linnet/api"
)

// text is n bytes in which no two neighbours, and no two chunks, are alike.
func text(n int) []byte {
	out := make([]byte, n)
	for i := range out {
		out[i] = byte(i*7 + i/chunkSize*31 + 1)
	}
	return out
}

// numOf and wordOf are the judges of numbers: the library's own.
func numOf(n int) []byte     { return binary.LittleEndian.AppendUint32(nil, uint32(n)) }
func wordOf(n uint64) []byte { return binary.LittleEndian.AppendUint64(nil, n) }

func countedOf(b []byte) []byte { return append(numOf(len(b)), b...) }

func same(t *testing.T, what string, got, want []byte) {
	t.Helper()
	if !bytes.Equal(got, want) {
		t.Errorf("%s:\n got %x\nwant %x", what, got, want)
	}
}

// spoil overwrites every byte, those of the spare room too.
func spoil(b []byte) {
	b = b[:cap(b)]
	for i := range b {
		b[i] ^= 0xff
	}
}

// field is one of the four, to be written and read in any order.
type field struct {
	kind int // 0 a Num, 1 a Word, 2 Bytes, 3 a Text
	n    uint64
	b    []byte
}

func randomField(r *rand.Rand) field {
	f := field{kind: r.Intn(4)}
	switch f.kind {
	case 0:
		f.n = uint64(r.Int31()) >> r.Intn(31)
	case 1:
		f.n = r.Uint64() >> r.Intn(64)
	default:
		f.b = make([]byte, r.Intn(3)*r.Intn(200))
		r.Read(f.b)
	}
	return f
}

func (f field) write(w *Writer) *Writer {
	switch f.kind {
	case 0:
		return w.Num(int(f.n))
	case 1:
		return w.Word(f.n)
	case 2:
		return w.Bytes(f.b)
	}
	return w.Text(string(f.b))
}

func (f field) want() []byte {
	switch f.kind {
	case 0:
		return numOf(int(f.n))
	case 1:
		return wordOf(f.n)
	}
	return countedOf(f.b)
}

// read tells whether what is read is the field.
func (f field) read(r *Reader) bool {
	switch f.kind {
	case 0:
		return r.Num() == int(f.n)
	case 1:
		return r.Word() == f.n
	case 2:
		return bytes.Equal(r.Bytes(len(f.b)), f.b)
	}
	return r.Text(len(f.b)) == string(f.b)
}

func TestP3_4WhatWasWrittenIsReadAsItWas(t *testing.T) {
	random := rand.New(rand.NewSource(1))
	for range 300 {
		var w Writer
		var fields []field
		var want []byte
		for range random.Intn(40) {
			f := randomField(random)
			fields = append(fields, f)
			want = append(want, f.want()...)
			if f.write(&w) != &w {
				t.Fatal("another Writer is told")
			}
		}
		b, ok := w.Done()
		same(t, "written", b, want)
		r := NewReader(b)
		left := len(b)
		for _, f := range fields {
			if r.Left() != left || !f.read(r) {
				t.Fatalf("with %d left, want %d: not read as %v", r.Left(), left, f)
			}
			left -= len(f.want())
		}
		if !ok || r.Left() != 0 || r.Err() != api.OK {
			t.Fatalf("Done is %v; at the end %d are left, Err is %d", ok, r.Left(), r.Err())
		}
	}
}

// Any bytes at all: what is read, written again, is what was read.
func TestP3_4OneForm(t *testing.T) {
	random := rand.New(rand.NewSource(2))
	for range 2000 {
		b := make([]byte, random.Intn(60))
		for i := range b {
			b[i] = byte(random.Intn(256) >> random.Intn(9))
		}
		r := NewReader(b)
		var all []byte
		for range 6 {
			var again Writer
			switch random.Intn(4) {
			case 0:
				again.Num(r.Num())
			case 1:
				again.Word(r.Word())
			case 2:
				again.Bytes(r.Bytes(len(b)))
			case 3:
				again.Text(r.Text(len(b)))
			}
			if r.Err() != api.OK {
				break
			}
			one, _ := again.Done()
			all = append(all, one...)
			same(t, "read and written again", all, b[:len(b)-r.Left()])
		}
		if r.Err() != api.OK && r.Left() != 0 {
			t.Fatalf("Err is %d, and %d are left", r.Err(), r.Left())
		}
	}
}

func TestP3_4AnswersAreNewMemory(t *testing.T) {
	var w Writer
	b, _ := w.Bytes(text(700)).Text("abc").Done()
	want := bytes.Clone(b)
	again, _ := w.Done()
	spoil(b)
	same(t, "told before the first was spoilt", again, want)
	spoil(again)
	last, _ := w.Done()
	same(t, "told after", last, want)

	r := NewReader(append(countedOf(text(9)), countedOf(text(20))...))
	other := *r
	spoil(r.Bytes(9))
	same(t, "read behind what was spoilt", r.Bytes(20), text(20))
	same(t, "read by another", other.Bytes(9), text(9))

	sealed := Seal(text(10))
	whole := bytes.Clone(sealed)
	bare, _ := Unseal(sealed)
	spoil(bare)
	same(t, "sealed", sealed, whole)
	spoil(sealed)
	same(t, "sealed again", Seal(text(10)), whole)
}

func TestArgumentsAreNeitherChangedNorKept(t *testing.T) {
	room := append(countedOf(text(60)), text(400)...)
	was := bytes.Clone(room)
	b := room[:64] // with spare room behind
	var w Writer
	w.Bytes(b).Bytes(b)
	r := NewReader(b)
	sealed := Seal(b)
	Unseal(room[:64])
	Unseal(room[:32])
	same(t, "argument and its spare room", room, was)
	spoil(room)
	got, _ := w.Done()
	same(t, "written, the argument being gone", got, append(countedOf(was[:64]), countedOf(was[:64])...))
	same(t, "read, the argument being gone", r.Bytes(60), text(60))
	same(t, "sealed, the argument being gone", sealed[:64], was[:64])
}

func TestObjectsHaveNothingInCommon(t *testing.T) {
	x, y := new(Writer), new(Writer)
	for i := range 300 {
		x.Num(i)
		y.Num(i * 2)
	}
	y.Num(-1)
	var want []byte
	for i := range 300 {
		want = append(want, numOf(i)...)
	}
	got, _ := x.Done()
	same(t, "beside one that is bad", got, want)
	p, q := NewReader(got), NewReader(got)
	p.Num()
	p.Bytes(-1)
	if q.Left() != len(got) || q.Num() != 0 || q.Num() != 1 || q.Err() != api.OK {
		t.Error("a Reader hangs on another one")
	}
}

func TestP3_2NumbersOutsideAnIntOf32Bits(t *testing.T) {
	for _, n := range []uint32{1 << 31, 1<<31 + 1, math.MaxUint32} {
		b := binary.LittleEndian.AppendUint32(nil, n)
		for name, read := range map[string]func(r *Reader) bool{
			"Num":   func(r *Reader) bool { return r.Num() == 0 },
			"Bytes": func(r *Reader) bool { return len(r.Bytes(math.MaxInt)) == 0 },
			"Text":  func(r *Reader) bool { return r.Text(math.MaxInt) == "" },
		} {
			r := NewReader(append(b, text(40)...))
			if !read(r) || r.Err() != api.ErrBad || r.Left() != 0 {
				t.Errorf("%s of %d: Err is %d, %d are left", name, n, r.Err(), r.Left())
			}
		}
	}
}
