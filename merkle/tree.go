package merkle

import (
	"bytes"

	"linnet/digest"
)

// Levels is the leaves, and what stands above them, up to the only one.
func Levels(leaves [][]byte) [][][]byte {
	if len(leaves) == 0 {
		return nil
	}
	level := copied(leaves)
	levels := [][][]byte{level}
	for len(level) > 1 {
		level = above(level)
		levels = append(levels, level)
	}
	return levels
}

// Root is the last level's only one.
func Root(leaves [][]byte) []byte {
	if len(leaves) == 0 {
		return digest.Sum()
	}
	level := leaves
	for len(level) > 1 {
		level = above(level)
	}
	return bytes.Clone(level[0]) // of one leaf it is still the caller's
}

// above is the next level: of each two neighbours their pair, and a last one alone as it is, in memory of its own.
func above(level [][]byte) [][]byte {
	var next [][]byte
	for k := 0; k < len(level); k += 2 {
		if k+1 < len(level) {
			next = append(next, pair(level[k], level[k+1]))
		} else {
			next = append(next, bytes.Clone(level[k]))
		}
	}
	return next
}

func pair(left, right []byte) []byte {
	return digest.Sum([]byte{pairMark}, left, right)
}

func copied(level [][]byte) [][]byte {
	var out [][]byte
	for _, one := range level {
		out = append(out, bytes.Clone(one))
	}
	return out
}
