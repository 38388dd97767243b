package parity

import (
	"bytes"

	"linnet/merkle"
)

// Bad is the places, rising, of the blocks that do not have their leaf.
func Bad(data []byte, block int, leaves [][]byte) []int {
	var places []int
	for i := range merkle.Count(len(data), block) {
		if !isGood(merkle.Block(data, block, i), i, leaves) {
			places = append(places, i)
		}
	}
	return places
}

// Fix heals each block that is the only bad one of its group, and tells which places stay bad.
func Fix(data []byte, block, k int, leaves, parity [][]byte) (fixed []byte, left []int) {
	fixed = bytes.Clone(data)
	count := merkle.Count(len(data), block)
groups:
	for g := range min(Groups(len(data), block, k), len(parity)) {
		if len(parity[g]) != block {
			continue
		}
		bad := -1
		for i := g * k; i < min(g*k+k, count); i++ {
			if isGood(merkle.Block(data, block, i), i, leaves) {
				continue
			}
			if bad >= 0 {
				continue groups
			}
			bad = i
		}
		if bad < 0 {
			continue
		}
		made := remade(data, block, k, bad, parity[g])
		if isGood(made, bad, leaves) {
			copy(fixed[bad*block:], made)
		}
	}
	return fixed, Bad(fixed, block, leaves)
}

// isGood is whether what stands at place i has the leaf that leaves tell there.
func isGood(one []byte, i int, leaves [][]byte) bool {
	return i < len(leaves) && bytes.Equal(merkle.Leaf(one), leaves[i])
}

// remade is what the parity and the other blocks of its group make of the i-th block.
func remade(data []byte, block, k, i int, parity []byte) []byte {
	made := bytes.Clone(parity)
	addGroup(made, data, block, k, i/k)
	was := merkle.Block(data, block, i)
	// Its group brought the bad block in with the others; a second time takes it out.
	addBlock(made, was)
	return made[:len(was)]
}
