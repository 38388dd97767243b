package sched

import (
	"math/rand"
	"slices"
	"testing"

	"linnet/api"
)

// goesRound holds that in Round(Total, q) calls each block is told, and that in one less it is not.
func goesRound(t *testing.T, s *Sched, all []Visit, q int) {
	t.Helper()
	told := map[Visit]int{}
	n := Round(s.Total(), q)
	for i := range n {
		if i == n-1 && len(told) == len(all) {
			t.Fatalf("%d calls of Next(%d) tell all %d: Round is too much", i, q, len(all))
		}
		for _, v := range s.Next(q) {
			told[v]++
		}
	}
	for _, v := range all {
		if told[v] == 0 {
			t.Fatalf("%v was not told in %d calls of Next(%d)", v, n, q)
		}
	}
	if len(told) != len(all) {
		t.Fatalf("%d visits were told, and there are %d", len(told), len(all))
	}
}

func TestP13_3EachBlockInARound(t *testing.T) {
	r := rand.New(rand.NewSource(135))
	for range 300 {
		p := newPair(t)
		for range 1 + r.Intn(20) {
			p.set(tangled()[r.Intn(len(tangled()))], r.Intn(6))
			p.next(r.Intn(10))
		}
		for range r.Intn(10) {
			p.drop(tangled()[r.Intn(len(tangled()))])
		}
		all := p.g.all()
		for _, q := range []int{1, 2, 3, 1 + r.Intn(50), max(1, len(all)-1), max(1, len(all)), len(all) + 1, 10000} {
			goesRound(t, p.s, all, q)
			p.s.Next(r.Intn(7))
		}
	}
}

func TestP13_3EachBlockOfTheMost(t *testing.T) {
	s, all := New(), []Visit{}
	for _, p := range many(100) {
		s.Set(p, 4096)
		for b := range 4096 {
			all = append(all, Visit{p, b})
		}
	}
	for _, q := range []int{10000, 4096, 9999, 777} {
		goesRound(t, s, all, q)
		s.Next(1234)
	}
}

func TestP13_3NothingThere(t *testing.T) {
	s := sets(t, 0, "a", "b")
	goesRound(t, s, nil, 5)
	goesRound(t, New(), nil, 1)
}

func TestP13_3Answered(t *testing.T) {
	s := sets(t, 3, "a", "b")
	paths, other := s.Paths(), s.Paths()
	visits := s.Next(4)
	paths[0], visits[3] = "q", Visit{"q", 9}
	_ = append(paths[:1], "z")
	_ = append(visits[:2], Visit{"z", 7}, Visit{"z", 8})
	same(t, "another answer", other, []string{"a", "b"})
	same(t, "a later answer", s.Paths(), []string{"a", "b"})
	tells(t, "behind what was told, not what it was changed to", s.Next(3), "b 1, b 2, a 0")
	same(t, "Drop", s.Drop("q"), false)

	again := s.Next(6)
	kept := slices.Clone(again)
	s.Next(6)
	s.Set("a", 1)
	s.Drop("b")
	s.Next(6)
	same(t, "an answer stays as it was", again, kept)
	same(t, "and this one", other, []string{"a", "b"})
}

// TestP13_3SpareRoom: what is written behind an answer is nobody's.
func TestP13_3SpareRoom(t *testing.T) {
	s := sets(t, 1, many(5)...)
	paths := s.Paths()
	_ = append(paths, "q", "q", "q")
	s.Set("z", 1)
	same(t, "Paths", s.Paths(), append(many(5), "z"))
	visits := s.Next(2)
	_ = append(visits, Visit{"q", 1}, Visit{"q", 2})
	same(t, "Next", s.Next(1), []Visit{{"f002", 0}})
}

func TestP13_3TheSameTwice(t *testing.T) {
	play := func() (all [][]Visit) {
		r := rand.New(rand.NewSource(136))
		s := New()
		for range 200 {
			s.Set(tangled()[r.Intn(len(tangled()))], r.Intn(5))
			s.Drop(tangled()[r.Intn(len(tangled()))])
			all = append(all, s.Next(r.Intn(12)))
		}
		return all
	}
	same(t, "played twice", play(), play())
}

func TestP13_3Apart(t *testing.T) {
	first, second := New(), New()
	first.Set("a", 2)
	second.Set("b", 2)
	tells(t, "the first one", first.Next(1), "a 0")
	tells(t, "the second one", second.Next(3), "b 0, b 1")
	tells(t, "the first one goes on", first.Next(1), "a 1")
	same(t, "Drop", second.Drop("a"), false)
	same(t, "Paths", first.Paths(), []string{"a"})
	for _, p := range many(100) {
		second.Set(p, 1)
	}
	same(t, "there is room in the first one", first.Set("c", 1), api.OK)
}

// TestP13_3AskingChangesNothing: Total and Paths leave the ring as it is.
func TestP13_3AskingChangesNothing(t *testing.T) {
	s := sets(t, 2, "a", "b")
	s.Next(1)
	for range 3 {
		s.Total()
		s.Paths()
		Round(s.Total(), 1)
	}
	tells(t, "Next", s.Next(1), "a 1")
}
