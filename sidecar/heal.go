package sidecar

import "linnet/parity"

// Check is which blocks are bad, and whether the data is what the Side was made of.
func Check(s Side, data []byte) (bad []int, ok bool) {
	if !Sound(s) {
		return nil, false
	}
	bad = parity.Bad(fitted(data, s.Size), s.Block, s.Leaves)
	return bad, len(data) == s.Size && len(bad) == 0
}

// Repair heals what it can.
func Repair(s Side, data []byte) (fixed []byte, left []int) {
	if !Sound(s) {
		return nil, nil
	}
	return parity.Fix(fitted(data, s.Size), s.Block, s.K, s.Leaves, s.Parity)
}

// fitted is data cut, or filled up with noughts, to that many bytes.
func fitted(data []byte, size int) []byte {
	out := make([]byte, size)
	copy(out, data)
	return out
}
