package vstore

import (
	"slices"

	"linnet/api"
)

// pickBits is how many sectors one pick tells of; behind them its digits come again.
const pickBits = 30

// node is what a name stands for. A crash may take the name back, never the node's kind, meta, stamp or size.
type node struct {
	kind  int
	meta  int
	stamp uint64
	now   []byte
	kept  []byte // each sector as it was when it was safe last, as long as now
	loose []bool // the sectors that are not safe
}

// sectors is how many a size takes.
func sectors(size int) int {
	return (size + api.Sector - 1) / api.Sector
}

// resize cuts off, or puts noughts behind, in what is safe, too.
func (n *node) resize(size int) {
	n.now = fit(n.now, size)
	n.kept = fit(n.kept, size)
	n.loose = fit(n.loose, sectors(size))
}

// fit makes a list longer by zeros, or shorter.
func fit[T any](list []T, size int) []T {
	if size <= len(list) {
		return list[:size]
	}
	return append(list, make([]T, size-len(list))...)
}

func (n *node) write(off int, b []byte) {
	// Noughts that come between are written, too.
	from, to := min(off, len(n.now)), off+len(b)
	if from == to {
		return
	}
	n.resize(max(to, len(n.now)))
	copy(n.now[off:], b)
	for at := from / api.Sector; at < sectors(to); at++ {
		n.loose[at] = true
	}
}

func (n *node) sync() {
	copy(n.kept, n.now)
	clear(n.loose)
}

// crashed is a node of its own, all safe, with those loose sectors that the pick holds.
func (n *node) crashed(pick int) *node {
	b := slices.Clone(n.kept)
	seen := 0
walk:
	for at, loose := range n.loose {
		switch {
		case !loose:
			continue walk
		case pick>>(seen%pickBits)&1 == 1:
			from, to := at*api.Sector, min((at+1)*api.Sector, len(b))
			copy(b[from:to], n.now[from:to])
		}
		seen++
	}
	return &node{kind: n.kind, meta: n.meta, stamp: n.stamp, now: b, kept: slices.Clone(b), loose: make([]bool, len(n.loose))}
}
