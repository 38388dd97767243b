package parity

import (
	"bytes"
	"crypto/sha256"
	"slices"
	"testing"
)

// text is n bytes in which no two blocks are alike.
func text(n int) []byte {
	out := make([]byte, n)
	for i := range out {
		out[i] = byte(i*7 + i/16*31 + i/4096*5 + 1)
	}
	return out
}

// leafOf is the judge of leaves: the library's own SHA-256.
func leafOf(b []byte) []byte {
	s := sha256.Sum256(append([]byte{0}, b...))
	return s[:]
}

func leavesOf(data []byte, block int) [][]byte {
	var out [][]byte
	for b := range slices.Chunk(data, block) {
		out = append(out, leafOf(b))
	}
	return out
}

// parityOf is the judge of parities: it goes byte by byte, and knows no blocks.
func parityOf(data []byte, block, k int) [][]byte {
	var out [][]byte
	for i, b := range data {
		g := i / (block * k)
		if g == len(out) {
			out = append(out, make([]byte, block))
		}
		out[g][i%block] ^= b
	}
	return out
}

// badOf is the judge of Bad.
func badOf(data []byte, block int, leaves [][]byte) []int {
	var out []int
	for i, leaf := range leavesOf(data, block) {
		if i >= len(leaves) || !bytes.Equal(leaf, leaves[i]) {
			out = append(out, i)
		}
	}
	return out
}

// fixOf is the judge of Fix: of each lone bad block it works each byte out of the bytes that stand over each other in the whole group.
func fixOf(data []byte, block, k int, leaves, parity [][]byte) ([]byte, []int) {
	fixed := bytes.Clone(data)
	inGroup := map[int][]int{}
	for _, i := range badOf(data, block, leaves) {
		inGroup[i/k] = append(inGroup[i/k], i)
	}
	for g, bads := range inGroup {
		if len(bads) != 1 || g >= len(parity) || len(parity[g]) != block {
			continue
		}
		from, to := bads[0]*block, min(bads[0]*block+block, len(data))
		for at := from; at < to; at++ {
			b := parity[g][at%block]
			for other := g*k*block + at%block; other < min((g+1)*k*block, len(data)); other += block {
				if other != at {
					b ^= data[other]
				}
			}
			fixed[at] = b
		}
		if bads[0] >= len(leaves) || !bytes.Equal(leafOf(fixed[from:to]), leaves[bads[0]]) {
			copy(fixed[from:to], data[from:to])
		}
	}
	return fixed, badOf(fixed, block, leaves)
}

func same(t *testing.T, what string, got, want []byte) {
	t.Helper()
	if !bytes.Equal(got, want) {
		t.Errorf("%s:\n got %x\nwant %x", what, got, want)
	}
}

func sameList(t *testing.T, what string, got, want [][]byte) {
	t.Helper()
	if !slices.EqualFunc(got, want, bytes.Equal) {
		t.Errorf("%s:\n got %x\nwant %x", what, got, want)
	}
}

func samePlaces(t *testing.T, what string, got, want []int) {
	t.Helper()
	if !slices.Equal(got, want) {
		t.Errorf("%s:\n got %v\nwant %v", what, got, want)
	}
}

func clones(list [][]byte) [][]byte {
	var out [][]byte
	for _, b := range list {
		out = append(out, bytes.Clone(b))
	}
	return out
}

// turned is data with the bytes at these places changed.
func turned(data []byte, places ...int) []byte {
	out := bytes.Clone(data)
	for _, i := range places {
		out[i] ^= 0x55
	}
	return out
}

// roomy is a copy with spare room that holds 0xee.
func roomy(b []byte) []byte {
	all := append(bytes.Clone(b), bytes.Repeat([]byte{0xee}, 9)...)
	return all[:len(b)]
}

// whole is a list's bytes, those of its spare room too.
func whole(b []byte) []byte { return bytes.Clone(b[:cap(b)]) }

// spoil overwrites every byte, those of the spare room too.
func spoil(b []byte) {
	b = b[:cap(b)]
	for i := range b {
		b[i] ^= 0xff
	}
}

func spoilAll(list [][]byte) {
	for _, b := range list {
		spoil(b)
	}
}
