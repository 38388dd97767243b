package sched

import (
	"math"
	"math/rand"
	"slices"
	"testing"
)

func TestP13_2Ring(t *testing.T) {
	s := sets(t, 2, "a")
	s.Set("b", 1)
	tells(t, "at the beginning", s.Next(2), "a 0, a 1")
	tells(t, "over the end", s.Next(2), "b 0, a 0")
	tells(t, "one", s.Next(1), "a 1")
	tells(t, "the last one", s.Next(1), "b 0")
	tells(t, "all", s.Next(3), "a 0, a 1, b 0")
	tells(t, "no more than all", s.Next(4), "a 0, a 1, b 0")
	tells(t, "one", s.Next(1), "a 0")
	tells(t, "all, from there", s.Next(100), "a 1, b 0, a 0")
	tells(t, "none", s.Next(0), "")
	tells(t, "none", s.Next(-1), "")
	tells(t, "behind none", s.Next(1), "a 1")
}

// TestP13_2HowMany: Next of each q that is an edge, of each Total that is.
func TestP13_2HowMany(t *testing.T) {
	for _, total := range []int{0, 1, 2, 3, 9999, 10000, 10001, 20000, 409600} {
		s, paths := New(), many(100)
		for left, i := total, 0; left > 0; i++ {
			s.Set(paths[i], min(left, 4096))
			left -= min(left, 4096)
		}
		same(t, "Total", s.Total(), total)
		for _, q := range []int{0, -1, -10000, math.MinInt, 1, 2, total - 1, total, total + 1, 9999, 10000, 10001, 1 << 16, 1 << 32, 1<<32 + 1, math.MaxInt} {
			want := max(0, min(q, 10000, total))
			if got := len(s.Next(q)); got != want {
				t.Errorf("Next(%d) of %d is %d visits", q, total, got)
			}
		}
	}
}

// TestP13_2EachQ: small rings, gone round with each q.
func TestP13_2EachQ(t *testing.T) {
	for _, blocks := range [][]int{{1}, {2}, {5}, {0, 3}, {3, 0}, {0, 2, 0}, {1, 1, 1}, {3, 1, 2}, {0, 0, 1}, {4, 0, 0, 4}, {0, 0}, {2, 2, 2, 2}} {
		for q := -2; q <= 12; q++ {
			p := newPair(t)
			for i, n := range blocks {
				p.set(many(4)[i], n)
			}
			for range 30 {
				p.next(q)
			}
		}
	}
}

func TestP13_2Order(t *testing.T) {
	r := rand.New(rand.NewSource(132))
	for range 30 {
		p := newPair(t)
		for _, i := range r.Perm(len(tangled())) {
			p.set(tangled()[i], r.Intn(4))
		}
		for range 30 {
			p.next(r.Intn(20))
		}
	}
	s := sets(t, 2, "a.b", "a/b", "a", "ab", "a-/c")
	tells(t, "by parts", s.Next(10), "a 0, a 1, a/b 0, a/b 1, a-/c 0, a-/c 1, a.b 0, a.b 1, ab 0, ab 1")
}

// TestP13_2BehindWhatIsGone: the visit that was told last is there no more.
func TestP13_2BehindWhatIsGone(t *testing.T) {
	start := func(q int) *Sched {
		s := sets(t, 3, "a", "b", "c")
		same(t, "told", len(s.Next(q)), q)
		return s
	}
	s := start(5) // b 1 was the last one
	s.Drop("b")
	tells(t, "its path is gone", s.Next(2), "c 0, c 1")

	s = start(5)
	s.Drop("b")
	s.Set("b", 3)
	tells(t, "its path went and came", s.Next(2), "b 2, c 0")

	s = start(5)
	s.Drop("b")
	s.Set("aa", 1)
	s.Set("b/a", 1)
	s.Set("ba", 1)
	tells(t, "others came beside its place", s.Next(3), "b/a 0, ba 0, c 0")

	s = start(5)
	s.Drop("b")
	s.Drop("c")
	tells(t, "nothing is behind it", s.Next(2), "a 0, a 1")

	s = start(5)
	s.Set("b", 1)
	tells(t, "its block is gone", s.Next(1), "c 0")
	s = start(5)
	s.Set("b", 2)
	tells(t, "it is the last one of its path", s.Next(1), "c 0")
	s = start(5)
	s.Set("b", 0)
	tells(t, "its path has none", s.Next(1), "c 0")
	s = start(5)
	s.Set("b", 0)
	s.Set("b", 9)
	tells(t, "its path has more again", s.Next(1), "b 2")
	s = start(5)
	s.Set("b", 3)
	tells(t, "its path was set again as it was", s.Next(1), "b 2")

	s = start(9)
	s.Drop("c")
	tells(t, "the last of all is gone", s.Next(1), "a 0")
	s = start(9)
	s.Set("c", 4)
	tells(t, "one more behind the last of all", s.Next(2), "c 3, a 0")
	s = start(9)
	s.Set("d", 1)
	tells(t, "one more path behind the last of all", s.Next(2), "d 0, a 0")
}

// TestP13_2GoesOnWhenAllWasGone: the place in the ring stays where nothing is there, and where nothing is told.
func TestP13_2GoesOnWhenAllWasGone(t *testing.T) {
	s := sets(t, 2, "a", "b", "c")
	s.Next(3)
	for _, p := range []string{"a", "b", "c"} {
		s.Drop(p)
	}
	tells(t, "nothing there", s.Next(5), "")
	tells(t, "none asked", s.Next(0), "")
	for _, p := range []string{"a", "b", "c"} {
		s.Set(p, 2)
	}
	tells(t, "there again", s.Next(2), "b 1, c 0")
	s.Set("b", 0)
	s.Set("a", 0)
	s.Set("c", 0)
	tells(t, "no blocks", s.Next(5), "")
	s.Set("a", 1)
	tells(t, "blocks ahead of it alone", s.Next(5), "a 0")
	s.Set("c", 2)
	tells(t, "and behind it", s.Next(1), "c 0")
}

func TestP13_2AheadOfTheFirstNext(t *testing.T) {
	s := New()
	tells(t, "nothing there", s.Next(3), "")
	s.Set("c", 1)
	s.Set("b", 0)
	tells(t, "none asked", s.Next(0), "")
	tells(t, "none asked", s.Next(-7), "")
	s.Set("-", 1)
	tells(t, "the first one of all", s.Next(1), "- 0")
}

func TestP13_2OneBlock(t *testing.T) {
	s := sets(t, 1, "a")
	for range 3 {
		tells(t, "itself again", s.Next(1), "a 0")
		tells(t, "once a call", s.Next(3), "a 0")
	}
}

func TestP13_2TheMost(t *testing.T) {
	paths := many(100)
	s := sets(t, 4096, paths...)
	var told []Visit
	for range Round(409600, 10000) {
		told = append(told, s.Next(10001)...)
	}
	for i, v := range told {
		at := i % 409600
		if v.Path != paths[at/4096] || v.Block != at%4096 {
			t.Fatalf("the visit %d is %v", i, v)
		}
	}
	same(t, "told", len(told), 410000)
}

// life is what random acts met.
type life struct {
	pathGone, blockGone, over, none, full int
}

func (l *life) act(r *rand.Rand, p *pair, paths []string) {
	path := paths[r.Intn(len(paths))]
	switch r.Intn(8) {
	case 0, 1:
		p.set(path, r.Intn(4))
	case 2:
		p.set(path, []int{-1, 0, 5, 20, 4097}[r.Intn(5)])
	case 3:
		p.drop(path)
	case 4:
		if p.g.last != nil && r.Intn(2) == 0 {
			p.drop(p.g.last.Path)
		}
	case 5:
		if p.g.last != nil {
			p.set(p.g.last.Path, r.Intn(3))
		}
	default:
		l.next(p, []int{-1, 0, 1, 1, 2, 3, 5, p.g.total() - 1, p.g.total(), p.g.total() + 1}[r.Intn(10)])
	}
}

func (l *life) next(p *pair, q int) {
	if last := p.g.last; last != nil && q > 0 && p.g.total() > 0 {
		n, there := p.g.blocks[last.Path]
		switch {
		case !there:
			l.pathGone++
		case n <= last.Block:
			l.blockGone++
		}
	}
	got := p.next(q)
	if len(got) == 0 {
		l.none++
	}
	if !slices.IsSortedFunc(got, compare) {
		l.over++
	}
}

func TestP13_2RandomLives(t *testing.T) {
	r := rand.New(rand.NewSource(133))
	var l life
	for n := range 300 {
		p := newPair(t)
		paths := tangled()[:1+r.Intn(len(tangled()))]
		if n%50 == 0 {
			paths = many(105)
			for _, path := range paths {
				p.set(path, r.Intn(2))
			}
		}
		for range 150 {
			l.act(r, p, paths)
			if len(p.g.blocks) == 100 {
				l.full++
			}
		}
	}
	if min(l.pathGone, l.blockGone, l.over, l.none, l.full) < 20 {
		t.Fatalf("the acts are badly chosen: %+v", l)
	}
}
