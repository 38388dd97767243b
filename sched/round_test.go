package sched

import (
	"math"
	"math/big"
	"math/rand"
	"testing"
)

func TestP13_2Round(t *testing.T) {
	for _, c := range []struct{ total, q, want int }{
		{0, 1, 0}, {0, 9, 0}, {1, 1, 1}, {1, 2, 1}, {2, 1, 2}, {6, 3, 2}, {7, 3, 3}, {8, 3, 3}, {9, 3, 3}, {10, 3, 4}, {9, 10, 1}, {10, 10, 1}, {11, 10, 2},
		{409600, 100, 4096}, {409600, 10000, 41}, {409600, 4096, 100},
	} {
		same(t, "Round", Round(c.total, c.q), c.want)
	}
}

func TestP13_2RoundOfWhatMayNotBe(t *testing.T) {
	for _, n := range []int{0, -1, -2, -10000, math.MinInt, math.MinInt + 1} {
		for _, other := range []int{math.MinInt, -1, 0, 1, 7, math.MaxInt} {
			same(t, "q below 1", Round(other, n), 0)
		}
	}
	for _, n := range []int{-1, -2, -7, math.MinInt, math.MinInt + 1} {
		for _, other := range []int{math.MinInt, -1, 0, 1, 2, 7, math.MaxInt} {
			same(t, "total below 0", Round(n, other), 0)
		}
	}
}

// TestP13_2RoundIsEnough: so many calls are enough, and one less is not.
func TestP13_2RoundIsEnough(t *testing.T) {
	numbers := []int{1, 2, 3, 5, 9999, 10000, 10001, 1<<31 - 1, 1 << 31, 1<<32 - 1, 1 << 32, 1<<62 - 1, 1 << 62, 1<<62 + 1, math.MaxInt - 1, math.MaxInt}
	r := rand.New(rand.NewSource(134))
	for range 60 {
		numbers = append(numbers, 1+r.Intn(1<<r.Intn(63)))
	}
	for _, total := range numbers {
		for _, q := range numbers {
			n := Round(total, q)
			enough := new(big.Int).Mul(big.NewInt(int64(n)), big.NewInt(int64(q)))
			less := new(big.Int).Sub(enough, big.NewInt(int64(q)))
			if want := big.NewInt(int64(total)); enough.Cmp(want) < 0 || less.Cmp(want) >= 0 {
				t.Fatalf("Round(%d, %d) is %d", total, q, n)
			}
		}
	}
}

func TestP13_2Nil(t *testing.T) {
	var s *Sched
	for range 2 {
		for _, p := range []string{"", "A", "a/", a(61)} {
			same(t, "Set of a path that may not be", int(s.Set(p, 1)), 1)
		}
		for _, n := range []int{-1, 4097} {
			same(t, "Set of blocks that may not be", int(s.Set("a", n)), 1)
		}
		for _, n := range []int{0, 1, 4096} {
			same(t, "Set", int(s.Set("a", n)), 4)
		}
		same(t, "Drop", s.Drop("a"), false)
		same(t, "Drop", s.Drop(""), false)
		same(t, "Total", s.Total(), 0)
		same(t, "Paths", len(s.Paths()), 0)
		for _, q := range []int{-1, 0, 1, 10001} {
			same(t, "Next", len(s.Next(q)), 0)
		}
	}
}
