package merkle

import (
	"bytes"

	"linnet/api"
	"linnet/digest"
)

// Prove is the neighbours, from the lowest level on, that show the k-th leaf to be there.
func Prove(leaves [][]byte, k int) ([][]byte, api.Errno) {
	if k < 0 || k >= len(leaves) {
		return nil, api.ErrArg
	}
	var proof [][]byte
	level := leaves
	for len(level) > 1 {
		if beside := neighbour(k); beside < len(level) {
			proof = append(proof, bytes.Clone(level[beside]))
		}
		level = above(level)
		k /= 2
	}
	return proof, api.OK
}

// neighbour is the place that pairs with k, if the level goes that far.
func neighbour(k int) int {
	if k%2 == 0 {
		return k + 1
	}
	return k - 1
}

// Verify tells whether the leaf is the k-th of n whose Root is root, as the proof tells it.
func Verify(root, leaf []byte, k, n int, proof [][]byte) bool {
	if k < 0 || k >= n {
		return false
	}
	one := leaf
	used := 0
	for n > 1 {
		if beside := neighbour(k); beside < n {
			if used == len(proof) {
				return false
			}
			one = joined(k, one, proof[used])
			used++
		}
		k /= 2
		n -= n / 2 // the greater half; n + 1 may be more than an int holds
	}
	return used == len(proof) && digest.Equal(one, root)
}

// joined is the pair of the one at k and its neighbour, the left one first.
func joined(k int, one, beside []byte) []byte {
	if k%2 == 0 {
		return pair(one, beside)
	}
	return pair(beside, one)
}
