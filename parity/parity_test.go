package parity

import (
	"math"
	"math/rand"
	"testing"

	"linnet/api"
)

func TestP6_1Groups(t *testing.T) {
	for _, c := range []struct{ size, block, k, want int }{
		{0, 2, 2, 0}, {1, 2, 2, 1}, {3, 2, 2, 1}, {4, 2, 2, 1}, {5, 2, 2, 2}, {7, 2, 2, 2}, {8, 2, 2, 2}, {9, 2, 2, 3},
		{7, 1, 8, 1}, {8, 1, 8, 1}, {9, 1, 8, 2}, {16, 1, 8, 2}, {17, 1, 8, 3},
		{7, 1, 1, 7}, {7, 3, 1, 3}, {0, 1, 1, 0}, {1, 4096, 8, 1},
		{4096*8 - 1, 4096, 8, 1}, {4096 * 8, 4096, 8, 1}, {4096*8 + 1, 4096, 8, 2},
		{1 << 20, 1, 1, 1 << 20}, {1 << 20, 1, 8, 1 << 17}, {1 << 20, 4096, 8, 32}, {1<<20 - 1, 4096, 8, 32},
		{7, 0, 2, 0}, {7, -1, 2, 0}, {7, 4097, 2, 0}, {7, math.MaxInt, 2, 0}, {7, math.MinInt, 2, 0},
		{7, 2, 0, 0}, {7, 2, -1, 0}, {7, 2, 9, 0}, {7, 2, math.MaxInt, 0}, {7, 2, math.MinInt, 0},
		{-1, 2, 2, 0}, {-1, 1, 1, 0}, {-8, 2, 2, 0}, {math.MinInt, 1, 1, 0}, {math.MaxInt, 1, 1, 0}, {1<<20 + 1, 1, 1, 0}, {1<<20 + 1, 4096, 8, 0},
		{math.MaxInt, math.MaxInt, math.MaxInt, 0}, {math.MinInt, math.MinInt, math.MinInt, 0},
	} {
		if got := Groups(c.size, c.block, c.k); got != c.want {
			t.Errorf("Groups(%d, %d, %d) is %d, want %d", c.size, c.block, c.k, got, c.want)
		}
	}
}

func TestP6_1TheExample(t *testing.T) {
	sameList(t, "three blocks of one byte", Build([]byte{1, 2, 3}, 1, 8), [][]byte{{0}})
}

func TestP6_1BuildByHand(t *testing.T) {
	data := []byte{1, 2, 4, 8, 16, 32, 64}
	for _, c := range []struct {
		block, k int
		want     [][]byte
	}{
		{1, 1, [][]byte{{1}, {2}, {4}, {8}, {16}, {32}, {64}}},
		{1, 2, [][]byte{{3}, {12}, {48}, {64}}},
		{1, 8, [][]byte{{127}}},
		{2, 1, [][]byte{{1, 2}, {4, 8}, {16, 32}, {64, 0}}},
		{2, 2, [][]byte{{5, 10}, {80, 32}}},
		{2, 3, [][]byte{{21, 42}, {64, 0}}},
		{3, 8, [][]byte{{73, 18, 36}}},
		{7, 8, [][]byte{data}},
		{8, 1, [][]byte{{1, 2, 4, 8, 16, 32, 64, 0}}},
	} {
		sameList(t, "Build", Build(data, c.block, c.k), c.want)
	}
}

func TestP6_1BuildAtTheEdges(t *testing.T) {
	for size := range 70 {
		data := text(size)
		for block := 1; block < 10; block++ {
			for k := 1; k <= 8; k++ {
				got := Build(data, block, k)
				sameList(t, "Build", got, parityOf(data, block, k))
				if len(got) != Groups(size, block, k) {
					t.Errorf("%d bytes by %d and %d: %d parities, and %d groups", size, block, k, len(got), Groups(size, block, k))
				}
			}
		}
	}
	for _, size := range []int{1, 4095, 4096, 4097, 4096*8 - 1, 4096 * 8, 4096*8 + 1, 1 << 20} {
		for _, k := range []int{1, 8} {
			sameList(t, "Build of great blocks", Build(text(size), 4096, k), parityOf(text(size), 4096, k))
		}
	}
}

func TestP6_1BuildOfNothing(t *testing.T) {
	for _, c := range []struct {
		data     []byte
		block, k int
	}{
		{nil, 2, 2}, {[]byte{}, 2, 2}, {nil, 0, 0}, {text(7), 0, 2}, {text(7), -1, 2}, {text(7), 4097, 2}, {text(7), 2, 0}, {text(7), 2, -1}, {text(7), 2, 9},
		{text(7), math.MinInt, 2}, {text(7), math.MaxInt, 2}, {text(7), 2, math.MinInt}, {text(7), 2, math.MaxInt}, {text(1<<20 + 1), 4096, 8},
	} {
		if got := Build(c.data, c.block, c.k); len(got) != 0 {
			t.Errorf("Build(%d bytes, %d, %d) has %d", len(c.data), c.block, c.k, len(got))
		}
	}
}

// update holds Update to api.OK.
func update(t *testing.T, parity [][]byte, old, now []byte, block, k int) [][]byte {
	t.Helper()
	got, err := Update(parity, old, now, block, k)
	if err != api.OK {
		t.Errorf("Update of %d bytes to %d by %d and %d: %v", len(old), len(now), block, k, err)
	}
	return got
}

func TestP6_1UpdateIsBuild(t *testing.T) {
	rnd := rand.New(rand.NewSource(61))
	for range 4000 {
		block, k := rnd.Intn(6)+1, rnd.Intn(8)+1
		old, now := make([]byte, rnd.Intn(60)), make([]byte, rnd.Intn(60))
		rnd.Read(old)
		rnd.Read(now)
		copy(now, old[:rnd.Intn(len(old)+1)])
		sameList(t, "Update", update(t, parityOf(old, block, k), old, now, block, k), parityOf(now, block, k))
	}
}

func TestP6_1UpdateLongerShorterNone(t *testing.T) {
	for _, sizes := range [][2]int{
		{0, 0}, {0, 1}, {0, 16}, {0, 17}, {1, 0}, {16, 0}, {17, 0}, {15, 16}, {16, 15}, {16, 17}, {17, 16}, {16, 16}, {17, 17}, {5, 6}, {6, 5}, {3, 40}, {40, 3},
	} {
		old, now := text(sizes[0]), turned(text(sizes[1]))
		for i := range now {
			now[i] ^= byte(i * i)
		}
		sameList(t, "by 4 and 4", update(t, Build(old, 4, 4), old, now, 4, 4), parityOf(now, 4, 4))
		sameList(t, "by 4096 and 8", update(t, Build(old, 4096, 8), old, now, 4096, 8), parityOf(now, 4096, 8))
		sameList(t, "by 1 and 1", update(t, Build(old, 1, 1), old, now, 1, 1), parityOf(now, 1, 1))
	}
	sameList(t, "none", update(t, nil, nil, nil, 2, 2), nil)
	sameList(t, "none of an empty one", update(t, [][]byte{}, []byte{}, []byte{}, 2, 2), nil)
}

// What is not Build's is changed by the difference all the same.
func TestP6_1UpdateOfAnotherParity(t *testing.T) {
	old, now := text(20), turned(text(30), 2, 9, 17)
	parity := [][]byte{{9, 8, 7}, {1, 2, 3}, {0, 0, 255}, {77, 0, 0}}
	for i, p := range parity {
		for j := range p {
			want := p[j] ^ parityOf(old, 3, 2)[i][j] ^ parityOf(now, 3, 2)[i][j]
			if got := update(t, parity, old, now, 3, 2); got[i][j] != want {
				t.Errorf("parity %d, byte %d: %d, want %d", i, j, got[i][j], want)
			}
		}
	}
	sameList(t, "the same data", update(t, [][]byte{{0, 0}, {1, 1}}, text(7), text(7), 2, 2), [][]byte{{0, 0}, {1, 1}})
	sameList(t, "shorter data", update(t, [][]byte{{0, 0}, {1, 1}}, []byte{1, 2, 3, 4, 5}, []byte{1, 2, 3}, 2, 2), [][]byte{{0, 4}})
}

// Data that may not be has no parities, so it is as if it were none.
func TestP6_1UpdateOfTooMuch(t *testing.T) {
	much := text(1<<20 + 1)
	sameList(t, "from too much", update(t, nil, much, text(7), 2, 2), parityOf(text(7), 2, 2))
	sameList(t, "to too much", update(t, Build(text(7), 2, 2), text(7), much, 2, 2), nil)
	if got, err := Update(Build(text(7), 2, 2), much, text(7), 2, 2); err != api.ErrArg || got != nil {
		t.Errorf("parities of too much: %x, %v", got, err)
	}
}

func TestP6_1UpdateRefused(t *testing.T) {
	data := text(7)
	good := Build(data, 2, 2)
	for _, c := range []struct {
		what     string
		parity   [][]byte
		old      []byte
		block, k int
	}{
		{"too few", good[:1], data, 2, 2},
		{"none", nil, data, 2, 2},
		{"too many", append(clones(good), []byte{0, 0}), data, 2, 2},
		{"some of no data", [][]byte{{0, 0}}, nil, 2, 2},
		{"an empty one of no data", [][]byte{nil}, nil, 2, 2},
		{"a short first one", [][]byte{{5}, {80, 32}}, data, 2, 2},
		{"a short last one", [][]byte{{5, 10}, {80}}, data, 2, 2},
		{"a long one", [][]byte{{5, 10, 0}, {80, 32}}, data, 2, 2},
		{"a nil one", [][]byte{{5, 10}, nil}, data, 2, 2},
		{"block 0", nil, nil, 0, 2},
		{"block 0, and data", nil, data, 0, 2},
		{"block 0, and parities of none", [][]byte{{}, {}}, data, 0, 2},
		{"block -1", nil, nil, -1, 2},
		{"block 4097", nil, nil, 4097, 2},
		{"block 4097, and data", nil, data, 4097, 2},
		{"block 4097, and its parity", [][]byte{text(4097)}, data, 4097, 2},
		{"block MaxInt", nil, nil, math.MaxInt, 2},
		{"block MinInt", nil, nil, math.MinInt, 2},
		{"k 0", nil, nil, 2, 0},
		{"k 0, and data", good, data, 2, 0},
		{"k -1", nil, nil, 2, -1},
		{"k 9", nil, nil, 2, 9},
		{"k 9, and data", Build(data, 2, 8), data, 2, 9},
		{"k MaxInt", nil, nil, 2, math.MaxInt},
		{"k MinInt", nil, nil, 2, math.MinInt},
	} {
		for _, now := range [][]byte{data, nil, text(40)} {
			if got, err := Update(c.parity, c.old, now, c.block, c.k); err != api.ErrArg || got != nil {
				t.Errorf("%s: %x, %v, want none and ErrArg", c.what, got, err)
			}
		}
	}
}
