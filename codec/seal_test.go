package codec

import (
	"bytes"
	"crypto/sha256"
	"slices"
	"testing"

	"linnet/api"
)

// sealedOf is the judge: the library's own SHA-256.
func sealedOf(b []byte) []byte {
	s := sha256.Sum256(b)
	return slices.Concat(b, s[:])
}

func refused(t *testing.T, what string, b []byte) {
	t.Helper()
	if got, err := Unseal(b); got != nil || err != api.ErrBad {
		t.Errorf("%s: %x and %d, want none and ErrBad", what, got, err)
	}
}

func TestP3_3SealAndUnseal(t *testing.T) {
	for n := range 200 {
		b := text(n)
		sealed := Seal(b)
		same(t, "Seal", sealed, sealedOf(b))
		got, err := Unseal(sealed)
		same(t, "Unseal", got, b)
		if err != api.OK {
			t.Errorf("Unseal of %d bytes: %d", n, err)
		}
	}
	same(t, "Seal(nil)", Seal(nil), sealedOf(nil))
	if got, err := Unseal(Seal(nil)); len(got) != 0 || err != api.OK {
		t.Errorf("of nothing: %x and %d", got, err)
	}
}

func TestP3_3SealedTwice(t *testing.T) {
	b := text(10)
	once, err := Unseal(Seal(Seal(b)))
	same(t, "once", once, Seal(b))
	if err != api.OK {
		t.Errorf("once: %d", err)
	}
	twice, err := Unseal(once)
	same(t, "twice", twice, b)
	if err != api.OK {
		t.Errorf("twice: %d", err)
	}
	refused(t, "once more", twice)
}

func TestP3_3WhatSealDidNotMake(t *testing.T) {
	for _, n := range []int{0, 1, 3, 31, 32, 33, 100} {
		sealed := Seal(text(n))
		for i := range sealed {
			for _, bit := range []byte{1, 0x80} {
				changed := bytes.Clone(sealed)
				changed[i] ^= bit
				refused(t, "one byte changed", changed)
			}
			refused(t, "one byte taken out", slices.Delete(bytes.Clone(sealed), i, i+1))
			refused(t, "cut off", sealed[:i])
		}
		for i := range len(sealed) + 1 {
			refused(t, "one byte put in", slices.Insert(bytes.Clone(sealed), i, byte(i)^0x55))
		}
	}
	for n := range 70 {
		refused(t, "noughts", make([]byte, n))
	}
	refused(t, "nil", nil)
	refused(t, "the sum ahead", slices.Concat(Seal(text(5))[5:], text(5)))
}
