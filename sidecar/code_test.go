package sidecar

import (
	"bytes"
	"math/rand"
	"slices"
	"testing"

	"linnet/api"
)

// refused holds that Decode finds nothing in the bytes.
func refused(t *testing.T, what string, b []byte) {
	t.Helper()
	if s, err := Decode(b); err != api.ErrBad || !isZero(s) {
		t.Errorf("%s: %v and %d, want none and ErrBad", what, s, err)
	}
}

// goesAndComes holds that a Side is written as the judge writes it, and read as it was.
func goesAndComes(t *testing.T, s Side) {
	t.Helper()
	b, err := Encode(s)
	if err != api.OK {
		t.Errorf("Encode of %d bytes by %d and %d: %d", s.Size, s.Block, s.K, err)
	}
	same(t, "Encode", b, sealedOf(fieldsOf(s)))
	got, err := Decode(b)
	if err != api.OK || !Sound(got) || !Same(got, s) {
		t.Errorf("Decode of %d bytes by %d and %d: %d", s.Size, s.Block, s.K, err)
	}
	sameSide(t, "Decode", got, s)
}

func TestP7_2GoesAndComes(t *testing.T) {
	for _, size := range []int{0, 1, 15, 16, 17, 32, 100, 4096, 4097, 8191, 8192} {
		for _, block := range []int{16, 33, 4096} {
			for _, k := range []int{1, 2, 8} {
				goesAndComes(t, sideOf(text(size), block, k))
			}
		}
	}
	rnd := rand.New(rand.NewSource(72))
	for range 300 {
		s := sideOf(text(rnd.Intn(500)), 16+rnd.Intn(50), 1+rnd.Intn(8))
		for _, one := range slices.Concat(s.Leaves, s.Parity) {
			rnd.Read(one)
		}
		s.Root = rootOf(s.Leaves)
		goesAndComes(t, s)
	}
}

func TestP7_2EncodeByHand(t *testing.T) {
	b, _ := Encode(made(t, nil, 258, 3))
	same(t, "no bytes", b, sealedOf([]byte{0, 0, 0, 0, 2, 1, 0, 0, 3, 0, 0, 0}))
	b, _ = Encode(made(t, []byte("ab"), 16, 8))
	same(t, "one block", b, sealedOf(slices.Concat(
		[]byte{2, 0, 0, 0, 16, 0, 0, 0, 8, 0, 0, 0, 32, 0, 0, 0}, sumOf([]byte{0, 'a', 'b'}),
		[]byte{16, 0, 0, 0, 'a', 'b', 0, 0, 0, 0, 0, 0, 0, 0, 0, 0, 0, 0, 0, 0})))
}

func TestP7_2EncodeRefused(t *testing.T) {
	for _, u := range append(unsounds(), unsound{why: "a zero Side"}) {
		if b, err := Encode(u.s); err != api.ErrArg || len(b) != 0 {
			t.Errorf("%q: %x and %d, want none and ErrArg", u.why, b, err)
		}
	}
}

func TestP7_2DecodeOfChangedBytes(t *testing.T) {
	for _, s := range []Side{sideOf(nil, 16, 1), sideOf(text(83), 16, 2), sideOf(text(40), 20, 8)} {
		b := sealedOf(fieldsOf(s))
		for i := range b {
			for _, bit := range []byte{1, 2, 0x80, 0xff} {
				changed := bytes.Clone(b)
				changed[i] ^= bit
				refused(t, "a changed byte", changed)
			}
			refused(t, "cut off", b[:i])
			refused(t, "cut off in front", b[i+1:])
			refused(t, "a byte taken out", slices.Delete(bytes.Clone(b), i, i+1))
		}
		for _, more := range []byte{0, 1, 0xff} {
			refused(t, "one byte more", append(bytes.Clone(b), more))
			refused(t, "one byte more in front", append([]byte{more}, b...))
		}
		refused(t, "twice", slices.Concat(b, b))
		refused(t, "sealed twice", sealedOf(b))
		refused(t, "not sealed", fieldsOf(s))
	}
	refused(t, "nil", nil)
	for n := range 100 {
		refused(t, "noughts", make([]byte, n))
	}
}

func TestP7_2DecodeOfWrongFieldsSealedAnew(t *testing.T) {
	for _, u := range unsounds() {
		if u.unseen {
			continue
		}
		refused(t, u.why, sealedOf(fieldsOf(u.s)))
	}
	for _, c := range [][3]int{{8193, 16, 1}, {8193, 4096, 8}, {32, 15, 2}, {0, 15, 1}, {5000, 4097, 2}, {0, 4097, 1}, {200, 16, 9}, {0, 16, 9}} {
		refused(t, "numbers that may not be", sealedOf(fieldsOf(sideOf(text(c[0]), c[1], c[2]))))
	}
	refused(t, "a k of 0", sealedOf(slices.Concat(numOf(0), numOf(16), numOf(0))))
	refused(t, "no fields", sealedOf(nil))
	s := sideOf(text(83), 16, 2)
	rooted := slices.Concat(numOf(83), numOf(16), numOf(2), numOf(32), s.Root, fieldsOf(s)[12:])
	refused(t, "the Root written too", sealedOf(rooted))
	swapped := slices.Concat(numOf(16), numOf(83), numOf(2), fieldsOf(s)[12:])
	refused(t, "Size and Block in the other order", sealedOf(swapped))
	behind := fieldsOf(Side{Size: 83, Block: 16, K: 2, Leaves: s.Parity, Parity: s.Leaves})
	refused(t, "the parities ahead of the leaves", sealedOf(behind))
}

func TestP7_2DecodeOfCutFieldsSealedAnew(t *testing.T) {
	for _, s := range []Side{sideOf(nil, 16, 1), sideOf(text(83), 16, 2), sideOf(text(33), 32, 1)} {
		fields := fieldsOf(s)
		for i := range fields {
			refused(t, "cut off, sealed anew", sealedOf(fields[:i]))
		}
		for n := 1; n < 40; n++ {
			refused(t, "noughts behind, sealed anew", sealedOf(append(bytes.Clone(fields), make([]byte, n)...)))
		}
		refused(t, "a field more, sealed anew", sealedOf(slices.Concat(fields, numOf(16), text(16))))
		refused(t, "twice, sealed anew", sealedOf(slices.Concat(fields, fields)))
	}
}

// Any bytes at all behind a true seal: what is read is Sound, and is written as it was.
func TestP7_2OneForm(t *testing.T) {
	rnd := rand.New(rand.NewSource(73))
	read := 0
	for range 20000 {
		s := sideOf(text(rnd.Intn(100)), 16+rnd.Intn(20), 1+rnd.Intn(8))
		fields := fieldsOf(s)
		for range rnd.Intn(3) {
			at := rnd.Intn(len(fields))
			if rnd.Intn(2) == 0 {
				at = 4 * rnd.Intn(min(5, len(fields)/4)) // a number's lowest byte
			}
			fields[at] = byte(rnd.Intn(256) >> rnd.Intn(9))
		}
		b := sealedOf(fields)
		got, err := Decode(b)
		if err != api.OK {
			if err != api.ErrBad || !isZero(got) {
				t.Fatalf("%x: %v and %d", b, got, err)
			}
			continue
		}
		read++
		again, err := Encode(got)
		if err != api.OK || !Sound(got) {
			t.Fatalf("%x is read as what is not Sound", b)
		}
		same(t, "read and written again", again, b)
	}
	if read < 1000 {
		t.Errorf("only %d were read", read)
	}
}
