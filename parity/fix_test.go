package parity

import (
	"bytes"
	"math"
	"math/rand"
	"slices"
	"testing"
)

// fix holds what Fix answers against what is wanted.
func fix(t *testing.T, what string, data []byte, block, k int, leaves, parity [][]byte, want []byte, wantLeft ...int) {
	t.Helper()
	fixed, left := Fix(data, block, k, leaves, parity)
	same(t, what+": fixed", fixed, want)
	samePlaces(t, what+": left", left, wantLeft)
}

func TestP6_2Bad(t *testing.T) {
	data := text(19)
	leaves := leavesOf(data, 4)
	samePlaces(t, "none is", Bad(data, 4, leaves), nil)
	samePlaces(t, "the first", Bad(turned(data, 3), 4, leaves), []int{0})
	samePlaces(t, "the short last one", Bad(turned(data, 16), 4, leaves), []int{4})
	samePlaces(t, "two", Bad(turned(data, 5, 6, 12), 4, leaves), []int{1, 3})
	samePlaces(t, "all", Bad(turned(data, 0, 4, 8, 12, 18), 4, leaves), []int{0, 1, 2, 3, 4})
	samePlaces(t, "fewer leaves", Bad(data, 4, leaves[:3]), []int{3, 4})
	samePlaces(t, "fewer leaves, and one bad", Bad(turned(data, 4), 4, leaves[:3]), []int{1, 3, 4})
	samePlaces(t, "no leaves", Bad(data, 4, nil), []int{0, 1, 2, 3, 4})
	samePlaces(t, "more leaves", Bad(data, 4, append(clones(leaves), leaves[0])), nil)
	samePlaces(t, "cut off", Bad(data[:18], 4, leaves), []int{4})
	samePlaces(t, "cut off by blocks", Bad(data[:8], 4, leaves), nil)
	samePlaces(t, "one byte more", Bad(append(bytes.Clone(data), 0), 4, leaves), []int{4})
	samePlaces(t, "a block more", Bad(append(bytes.Clone(data), 0, 0), 4, leaves), []int{4, 5})
	samePlaces(t, "leaves of other blocks", Bad(data, 4, leavesOf(data, 5)), []int{0, 1, 2, 3, 4})
	samePlaces(t, "leaves that have changed places", Bad(data, 4, [][]byte{leaves[1], leaves[0], leaves[2], leaves[3], leaves[4]}), []int{0, 1})
}

func TestP6_2LeavesThatAreNone(t *testing.T) {
	data := text(19)
	leaves := leavesOf(data, 4)
	leaves[0], leaves[1], leaves[2] = nil, []byte{}, leaves[2][:31]
	leaves[3] = append(bytes.Clone(leaves[3]), 0)
	samePlaces(t, "Bad", Bad(data, 4, leaves), []int{0, 1, 2, 3})
	leaves = leavesOf(data, 4)
	leaves[1] = nil
	fix(t, "Fix", data, 4, 2, leaves, parityOf(data, 4, 2), data, 1)
	leaves[2] = []byte("leaf")
	fix(t, "Fix of a bad neighbour", turned(data, 13), 4, 2, leaves, parityOf(data, 4, 2), turned(data, 13), 1, 2, 3)
}

func TestP6_2BadOfNothing(t *testing.T) {
	leaves := leavesOf(text(7), 2)
	for _, c := range []struct {
		data  []byte
		block int
	}{
		{nil, 2}, {[]byte{}, 2}, {text(7), 0}, {text(7), -1}, {text(7), 4097}, {text(7), math.MaxInt}, {text(7), math.MinInt}, {text(1<<20 + 1), 4096},
	} {
		if got := Bad(c.data, c.block, leaves); len(got) != 0 {
			t.Errorf("Bad of %d bytes by %d: %v", len(c.data), c.block, got)
		}
		if got := Bad(c.data, c.block, nil); len(got) != 0 {
			t.Errorf("Bad of %d bytes by %d, no leaves: %v", len(c.data), c.block, got)
		}
		fix(t, "Fix", c.data, c.block, 2, leaves, Build(text(7), 2, 2), c.data)
	}
}

func TestP6_2BadAtTheLimits(t *testing.T) {
	data := text(1 << 20)
	leaves := leavesOf(data, 4096)
	samePlaces(t, "Bad", Bad(turned(data, 4095, 4096, 1<<20-1), 4096, leaves), []int{0, 1, 255})
	fix(t, "Fix", turned(data, 4095, 1<<20-1), 4096, 8, leaves, parityOf(data, 4096, 8), data)
	one := text(4096)
	fix(t, "one block", bytes.Repeat([]byte{9}, 4096), 4096, 8, leavesOf(one, 4096), [][]byte{one}, one)
}

func TestP6_2FixGroupByGroup(t *testing.T) {
	data := text(19)
	leaves, parity := leavesOf(data, 4), parityOf(data, 4, 2)
	fix(t, "no bad block", data, 4, 2, leaves, parity, data)
	fix(t, "one", turned(data, 5), 4, 2, leaves, parity, data)
	fix(t, "one in each", turned(data, 1, 2, 12, 13, 14, 15, 18), 4, 2, leaves, parity, data)
	fix(t, "two in the first", turned(data, 1, 5), 4, 2, leaves, parity, turned(data, 1, 5), 0, 1)
	fix(t, "two in the first, one in the others", turned(data, 1, 5, 8, 16), 4, 2, leaves, parity, turned(data, 1, 5), 0, 1)
	fix(t, "two in the second, one in the others", turned(data, 1, 8, 12, 17), 4, 2, leaves, parity, turned(data, 8, 12), 2, 3)
	eight := text(32)
	places := []int{0, 4, 8, 12, 16, 20, 24, 28}
	fix(t, "all of one group", turned(eight, places...), 4, 8, leavesOf(eight, 4), parityOf(eight, 4, 8), turned(eight, places...), 0, 1, 2, 3, 4, 5, 6, 7)
	fix(t, "three of eight", turned(eight, 0, 4, 31), 4, 8, leavesOf(eight, 4), parityOf(eight, 4, 8), turned(eight, 0, 4, 31), 0, 1, 7)
	fix(t, "groups of one", turned(eight, places...), 4, 1, leavesOf(eight, 4), parityOf(eight, 4, 1), eight)
}

func TestP6_2FixShortLastBlock(t *testing.T) {
	for size := 13; size <= 16; size++ {
		data := text(size)
		for at := 12; at < size; at++ {
			fix(t, "the last of four", turned(data, at), 4, 4, leavesOf(data, 4), parityOf(data, 4, 4), data)
		}
		alone := data[12:]
		fix(t, "the only one", turned(alone, 0), 4, 4, leavesOf(alone, 4), parityOf(alone, 4, 4), alone)
		// What stands in the parity behind the block's end is not asked for.
		if size < 16 {
			parity := parityOf(data, 4, 4)
			parity[0][3] ^= 1
			fix(t, "a parity that is wrong past its end", turned(data, 12), 4, 4, leavesOf(data, 4), parity, data)
		}
	}
}

func TestP6_2FixThatDoesNotGiveTheLeaf(t *testing.T) {
	data := text(19)
	leaves := leavesOf(data, 4)
	parity := parityOf(data, 4, 2)
	parity[0][1] ^= 1
	fix(t, "a parity that is wrong", turned(data, 5, 12), 4, 2, leaves, parity, turned(data, 5), 1)
	fix(t, "a parity of other bytes", turned(data, 5), 4, 2, leaves, [][]byte{{9, 9, 9, 9}}, turned(data, 5), 1)
	leaves = leavesOf(turned(data, 9), 4)
	fix(t, "a leaf of other bytes", data, 4, 2, leaves, parityOf(data, 4, 2), data, 2)
	fix(t, "a leaf and a parity of other bytes", data, 4, 2, leaves, parityOf(turned(data, 9), 4, 2), turned(data, 9))
	fix(t, "a block with no leaf", data, 4, 2, leavesOf(data, 4)[:4], parityOf(data, 4, 2), data, 4)
	fix(t, "a bad block beside one with no leaf", turned(data, 8), 4, 2, leavesOf(data, 4)[:3], parityOf(data, 4, 2), turned(data, 8), 2, 3, 4)
	fix(t, "no leaves", data, 4, 2, nil, parityOf(data, 4, 2), data, 0, 1, 2, 3, 4)
	fix(t, "more leaves", turned(data, 8), 4, 2, append(leavesOf(data, 4), nil), parityOf(data, 4, 2), data)
}

func TestP6_2FixWithoutParity(t *testing.T) {
	data := text(19)
	leaves, good := leavesOf(data, 4), parityOf(data, 4, 2)
	bad := turned(data, 0, 8, 16)
	fix(t, "no parities", bad, 4, 2, leaves, nil, bad, 0, 2, 4)
	fix(t, "one parity", bad, 4, 2, leaves, good[:1], turned(data, 8, 16), 2, 4)
	fix(t, "too many", bad, 4, 2, leaves, append(clones(good), good[0], nil), data)
	fix(t, "a nil one", bad, 4, 2, leaves, [][]byte{nil, good[1], good[2]}, turned(data, 0), 0)
	fix(t, "an empty one", bad, 4, 2, leaves, [][]byte{good[0], {}, good[2]}, turned(data, 8), 2)
	fix(t, "a short one", bad, 4, 2, leaves, [][]byte{good[0], good[1][:3], good[2]}, turned(data, 8), 2)
	fix(t, "as long as the short block only", bad, 4, 2, leaves, [][]byte{good[0], good[1], good[2][:3]}, turned(data, 16), 4)
	fix(t, "a long one", bad, 4, 2, leaves, [][]byte{append(bytes.Clone(good[0]), 0), good[1], good[2]}, turned(data, 0), 0)
}

// With a k that may not be there are no groups, and nothing to heal by; the blocks are there all the same.
func TestP6_2FixWithoutGroups(t *testing.T) {
	data := text(7)
	for _, k := range []int{0, -1, 9, math.MaxInt, math.MinInt} {
		fix(t, "bad ones", turned(data, 2, 6), 2, k, leavesOf(data, 2), parityOf(data, 2, 8), turned(data, 2, 6), 1, 3)
		fix(t, "one that eight would heal", turned(data, 2), 2, k, leavesOf(data, 2), parityOf(data, 2, 8), turned(data, 2), 1)
		fix(t, "none bad", data, 2, k, leavesOf(data, 2), nil, data)
	}
}

func TestP6_2FixAgainstTheJudge(t *testing.T) {
	rnd := rand.New(rand.NewSource(62))
	for range 6000 {
		block, k := rnd.Intn(5)+1, rnd.Intn(8)+1
		data := make([]byte, rnd.Intn(50))
		rnd.Read(data)
		leaves, parity := leavesOf(data, block), parityOf(data, block, k)
		switch n := len(leaves); {
		case n > 0 && rnd.Intn(4) == 0:
			leaves = leaves[:rnd.Intn(n)]
		case n > 0 && rnd.Intn(4) == 0:
			spoil(leaves[rnd.Intn(n)])
		}
		if len(parity) > 0 && rnd.Intn(3) == 0 {
			g := rnd.Intn(len(parity))
			parity[g] = parity[g][:rnd.Intn(block+1)]
		}
		bad := bytes.Clone(data)
		for range rnd.Intn(4) {
			if len(bad) > 0 {
				bad[rnd.Intn(len(bad))] ^= byte(rnd.Intn(256))
			}
		}
		want, left := fixOf(bad, block, k, leaves, parity)
		fix(t, "Fix", bad, block, k, leaves, parity, want, left...)
		samePlaces(t, "Bad", Bad(bad, block, leaves), badOf(bad, block, leaves))
	}
}

func TestP6_3OneOfAGroupComesBack(t *testing.T) {
	rnd := rand.New(rand.NewSource(63))
	for range 3000 {
		block, k := rnd.Intn(9)+1, rnd.Intn(8)+1
		data := make([]byte, rnd.Intn(120))
		rnd.Read(data)
		parity := Build(data, block, k)
		bad := bytes.Clone(data)
		for g := range parity {
			first := g * k * block
			blocks := (min(first+k*block, len(data)) - first + block - 1) / block
			from := first + rnd.Intn(blocks)*block
			rnd.Read(bad[from:min(from+block, len(data))])
		}
		fix(t, "Fix", bad, block, k, leavesOf(data, block), parity, data)
	}
}

func TestP6_3AnUpdatedParityHeals(t *testing.T) {
	old, now := text(50), turned(text(61), 0, 8, 30, 60)
	parity := update(t, Build(old, 7, 3), old, now, 7, 3)
	fix(t, "Fix", turned(now, 20, 25, 57), 7, 3, leavesOf(now, 7), parity, now)
}

func TestP6_3NothingHandedInChanges(t *testing.T) {
	data, now := roomy(text(19)), roomy(turned(text(23), 3))
	bad := roomy(turned(text(19), 5, 16))
	leaves, parity := leavesOf(data, 4), parityOf(data, 4, 2)
	for i := range leaves {
		leaves[i] = roomy(leaves[i])
	}
	for i := range parity {
		parity[i] = roomy(parity[i])
	}
	leaves, parity = append(leaves, []byte{1})[:len(leaves)], append(parity, []byte{1})[:len(parity)]
	lists := slices.Concat([][]byte{data, now, bad}, leaves, parity)
	var before [][]byte
	for _, b := range lists {
		before = append(before, whole(b))
	}
	Build(data, 4, 2)
	Update(parity, data, now, 4, 2)
	Update(parity[:1], data, now, 4, 2)
	Update(parity, data, nil, 4, 2)
	Bad(bad, 4, leaves)
	Fix(bad, 4, 2, leaves, parity)
	Fix(data, 4, 2, leaves, parity)
	for i, b := range lists {
		same(t, "a list that was handed in", whole(b), before[i])
	}
	sameList(t, "leaves and parities", slices.Concat(leaves, parity), lists[3:])
	same(t, "behind the leaves", leaves[:len(leaves)+1][len(leaves)], []byte{1})
	same(t, "behind the parities", parity[:len(parity)+1][len(parity)], []byte{1})
}

func TestP6_3AnswersAreNewMemory(t *testing.T) {
	data, now := text(19), turned(text(23), 3)
	leaves, parity := leavesOf(data, 4), parityOf(data, 4, 2)
	built := Build(data, 4, 2)
	updated := update(t, parity, data, data, 4, 2)
	longer := update(t, parity, data, now, 4, 2)
	whole, _ := Fix(data, 4, 2, leaves, parity)
	alone, _ := Fix(data, 0, 0, leaves, parity)
	bad := turned(data, 5)
	healed, _ := Fix(bad, 4, 2, leaves, parity)

	spoilAll([][]byte{data, now, bad})
	spoilAll(leaves)
	spoilAll(parity)
	data, now = text(19), turned(text(23), 3)
	sameList(t, "built", built, parityOf(data, 4, 2))
	sameList(t, "updated", updated, parityOf(data, 4, 2))
	sameList(t, "longer", longer, parityOf(now, 4, 2))
	same(t, "fixed where nothing was bad", whole, data)
	same(t, "fixed where there are no blocks", alone, data)
	same(t, "healed", healed, data)

	for _, list := range [][][]byte{built, updated, longer} {
		for i := range list {
			before := clones(list)
			spoil(list[i])
			for j := range list {
				if j != i {
					same(t, "another parity", list[j], before[j])
				}
			}
		}
	}
	leaves, parity = leavesOf(data, 4), parityOf(data, 4, 2)
	bad = turned(data, 5, 0)
	fixed, left := Fix(bad, 4, 2, leaves, parity)
	spoil(fixed)
	left[0] = 99
	fix(t, "Fix again", bad, 4, 2, leaves, parity, bad, 0, 1)
	places := Bad(bad, 4, leaves)
	places[0] = 99
	samePlaces(t, "Bad again", Bad(bad, 4, leaves), []int{0, 1})
}
