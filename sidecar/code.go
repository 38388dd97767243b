package sidecar

import (
	"linnet/api"
	"linnet/codec"
	"linnet/digest"
	"linnet/merkle"
)

// Encode writes one. How many leaves and parities follow is not written, nor the Root: the numbers ahead and the leaves tell them.
func Encode(s Side) ([]byte, api.Errno) {
	if !Sound(s) {
		return nil, api.ErrArg
	}
	var w codec.Writer
	w.Num(s.Size).Num(s.Block).Num(s.K)
	for _, leaf := range s.Leaves {
		w.Bytes(leaf)
	}
	for _, one := range s.Parity {
		w.Bytes(one)
	}
	b, _ := w.Done() // a Sound one has no number that makes the Writer bad
	return codec.Seal(b), api.OK
}

// Decode reads one.
func Decode(b []byte) (Side, api.Errno) {
	fields, err := codec.Unseal(b)
	if err != api.OK {
		return Side{}, api.ErrBad
	}
	r := codec.NewReader(fields)
	s, ok := readSide(r)
	if !ok || r.Left() > 0 {
		return Side{}, api.ErrBad
	}
	return s, api.OK
}

// readSide reads field by field; the numbers are held against their limits before they say how many are to follow.
func readSide(r *codec.Reader) (Side, bool) {
	var s Side
	s.Size = r.Num()
	s.Block = r.Num()
	s.K = r.Num()
	if !mayBe(s) { // an error leaves K, at the latest, at 0
		return Side{}, false
	}
	var ok bool
	if s.Leaves, ok = readList(r, leafCount(s), digest.Size); !ok {
		return Side{}, false
	}
	if s.Parity, ok = readList(r, parityCount(s), s.Block); !ok {
		return Side{}, false
	}
	s.Root = merkle.Root(s.Leaves)
	return s, true
}

// readList reads that many fields of that many bytes each; the first that is none ends it. No field of a Side has 0 bytes, so that what an error leaves is none too.
func readList(r *codec.Reader, count, size int) ([][]byte, bool) {
	var list [][]byte
	for range count {
		one := r.Bytes(size)
		if len(one) != size {
			return nil, false
		}
		list = append(list, one)
	}
	return list, true
}
