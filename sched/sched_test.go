package sched

import (
	"math"
	"math/rand"
	"slices"
	"strings"
	"testing"

	"linnet/api"
)

func TestP13_1New(t *testing.T) {
	s := New()
	same(t, "Total", s.Total(), 0)
	same(t, "Paths", len(s.Paths()), 0)
	same(t, "Next", len(s.Next(10)), 0)
	same(t, "Drop", s.Drop("a"), false)
}

func TestP13_1SetWhichPaths(t *testing.T) {
	long := a(20) + "/" + a(20) + "/" + a(18)
	for _, p := range []string{"a", "z", "0", "9", "-", "_", "...", ".a", "a.", "..a", ".a/.b", "a/b/c/d", a(20), a(20) + "/" + a(20), long, strings.Repeat("a/", 29) + "aa", strings.Repeat("a/", 29) + "a"} {
		s := New()
		same(t, "Set of "+p, s.Set(p, 3), api.OK)
		same(t, "Paths", s.Paths(), []string{p})
		same(t, "Next", s.Next(1), []Visit{{p, 0}})
	}
	for _, p := range []string{"", ".", "..", "/", "a/", "/a", "a//b", "a/.", "a/..", "./a", "../a", "a/./b", "A", "aB", "a b", "a\n", "\na", "a\x00", "é", "a/é", "\xff", "*", a(21), "a/" + a(21), long + "a", a(61), strings.Repeat("a/", 30) + "a", strings.Repeat("a/", 1<<16)} {
		s := sets(t, 2, "b")
		same(t, "Set of what is not Valid", s.Set(p, 3), api.ErrArg)
		same(t, "Set of what is not Valid, of none", s.Set(p, 0), api.ErrArg)
		same(t, "Paths", s.Paths(), []string{"b"})
		same(t, "Total", s.Total(), 2)
	}
	for x := range 256 {
		b := string([]byte{byte(x)})
		for _, p := range []string{b, "a" + b, b + "a", "a" + b + "a", "a/" + b, b + "/a", a(19) + b, a(20) + b + "a"} {
			newPair(t).set(p, 1)
		}
	}
}

func TestP13_1SetHowManyBlocks(t *testing.T) {
	for _, n := range []int{0, 1, 2, 100, 4095, 4096} {
		s := New()
		same(t, "Set", s.Set("a", n), api.OK)
		same(t, "Total", s.Total(), n)
		same(t, "Paths", s.Paths(), []string{"a"})
		same(t, "Next", len(s.Next(10000)), n)
	}
	for _, n := range []int{-1, -2, -4096, 4097, 4098, 10000, 1 << 16, 1<<16 + 1, 1 << 32, 1<<32 + 1, math.MaxInt, math.MinInt} {
		s := New()
		same(t, "Set", s.Set("a", n), api.ErrArg)
		same(t, "Paths", len(s.Paths()), 0)
		same(t, "Set of what is not Valid", s.Set("", n), api.ErrArg)
		same(t, "Set", s.Set("a", 5), api.OK)
		same(t, "Set of what is there", s.Set("a", n), api.ErrArg)
		same(t, "Total", s.Total(), 5)
		same(t, "Next", len(s.Next(9)), 5)
	}
}

func TestP13_1SetHowManyPaths(t *testing.T) {
	p := newPair(t)
	for n, path := range many(100) {
		same(t, "there", len(p.s.Paths()), n)
		p.set(path, n)
	}
	for _, more := range []string{"a", "f", "f0000", "f050/a", "f100", "z"} {
		same(t, "one more", p.s.Set(more, 1), api.ErrFull)
		same(t, "one more, of no blocks", p.s.Set(more, 0), api.ErrFull)
		p.set(more, 1)
		same(t, "one that is not there", p.s.Drop(more), false)
	}
	for _, n := range []int{0, 1, 4096, 3} {
		p.set("f050", n)
		same(t, "what is there", p.s.Set("f050", n), api.OK)
		p.set("f000", n)
		p.set("f099", n)
	}
	p.drop("f050")
	p.set("f050/a", 7)
	same(t, "room again", p.s.Set("f050/a", 7), api.OK)
	same(t, "and none", p.s.Set("f050", 7), api.ErrFull)
	p.set("f050", 7)
	p.next(10000)
}

// TestP13_1PathsOfNoBlocksTakeRoom: they are there as others are.
func TestP13_1PathsOfNoBlocksTakeRoom(t *testing.T) {
	s := sets(t, 0, many(100)...)
	same(t, "Total", s.Total(), 0)
	same(t, "Paths", s.Paths(), many(100))
	same(t, "one more", s.Set("a", 1), api.ErrFull)
	same(t, "what is there", s.Set("f000", 1), api.OK)
	same(t, "Next", s.Next(5), []Visit{{"f000", 0}})
}

func TestP13_1ErrArgAheadOfErrFull(t *testing.T) {
	s := sets(t, 1, many(100)...)
	for _, n := range []int{-1, 4097, math.MaxInt, math.MinInt} {
		same(t, "blocks", s.Set("a", n), api.ErrArg)
		same(t, "blocks of what is there", s.Set("f000", n), api.ErrArg)
		same(t, "both", s.Set("A", n), api.ErrArg)
	}
	for _, p := range []string{"", "A", "a/", a(21), "f000/"} {
		same(t, "path", s.Set(p, 1), api.ErrArg)
	}
	same(t, "else", s.Set("a", 1), api.ErrFull)
	same(t, "Total", s.Total(), 100)
}

// TestP13_1RefusedChangesNothing: what is refused can be told by nothing.
func TestP13_1RefusedChangesNothing(t *testing.T) {
	p := newPair(t)
	for _, path := range many(100) {
		p.set(path, 3)
	}
	for range 50 {
		p.next(7)
		p.set("f050", -1)
		p.set("f050", 4097)
		p.set("", 1)
		p.set("F", 1)
		p.set("a", 1)
		p.set("z", 0)
		p.drop("a")
		p.drop("")
		p.drop("f05")
		p.drop("f050/a")
	}
	p.next(10000)
}

func TestP13_1SetAgain(t *testing.T) {
	for _, n := range []int{0, 1, 5, 4096} {
		for _, again := range []int{0, 1, 4, 5, 6, 4095, 4096} {
			p := newPair(t)
			p.set("a", 2)
			p.set("b", n)
			p.set("c", 2)
			p.set("b", again)
			same(t, "Total", p.s.Total(), 4+again)
			same(t, "Paths", p.s.Paths(), []string{"a", "b", "c"})
			p.next(10000)
		}
	}
}

func TestP13_1Drop(t *testing.T) {
	p := newPair(t)
	for _, path := range []string{"a", "a/b", "a/b/c", "b", "c"} {
		p.set(path, 2)
	}
	for _, path := range []string{"", ".", "A", "a/", "aa", "a/c", "a/b/c/d", "d", ".a", a(61)} {
		same(t, "not there", p.s.Drop(path), false)
		p.drop(path)
	}
	p.drop("a/b")
	same(t, "twice", p.s.Drop("a/b"), false)
	p.drop("a/b")
	same(t, "what stood under it stays", p.s.Paths(), []string{"a", "a/b/c", "b", "c"})
	for _, path := range []string{"c", "a", "b", "a/b/c"} {
		p.drop(path)
		p.drop(path)
	}
	same(t, "Total", p.s.Total(), 0)
	same(t, "Paths", len(p.s.Paths()), 0)
	p.set("a/b", 1)
	same(t, "there again", p.s.Next(5), []Visit{{"a/b", 0}})
}

func TestP13_1DropOfNoBlocks(t *testing.T) {
	s := sets(t, 0, "a")
	same(t, "there", s.Drop("a"), true)
	same(t, "twice", s.Drop("a"), false)
}

func TestP13_1PathsInOrder(t *testing.T) {
	want := tangled()
	r := rand.New(rand.NewSource(131))
	for range 50 {
		s := New()
		for _, i := range r.Perm(len(want)) {
			s.Set(want[i], r.Intn(3))
		}
		same(t, "Paths", s.Paths(), want)
		gone := want[r.Intn(len(want))]
		s.Drop(gone)
		same(t, "Paths", s.Paths(), slices.DeleteFunc(slices.Clone(want), func(p string) bool { return p == gone }))
	}
}

func TestP13_1TheMost(t *testing.T) {
	s := sets(t, 4096, many(100)...)
	same(t, "Total", s.Total(), 409600)
	s.Set("f007", 0)
	same(t, "Total", s.Total(), 405504)
	s.Drop("f008")
	same(t, "Total", s.Total(), 401408)
}
