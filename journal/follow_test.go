package journal

import (
	"bytes"
	"fmt"
	"math/rand"
	"slices"
	"testing"

	"linnet/api"
)

// What is told to be added is there till it is done, whatever is added and done beside it.
func TestP11_3ThereTillItIsDone(t *testing.T) {
	s, j, g := journal(t, roomy, 0)
	long := []int{1, 500, 501, 999}
	for n := 1; n <= 1000; n++ {
		adds(t, "one of many", j, &g, intent(n))
		if id := n - 3; !slices.Contains(long, id) {
			ends(t, "one of many", j, &g, id)
		}
		if n%100 == 0 {
			s = s.Crash(n, n*3)
			j = opened(t, "one of many", s)
			holds(t, "one of many", j, g)
		}
	}
	for _, id := range long {
		ends(t, "one that stayed", j, &g, id)
	}
	if len(g.pending) != 2 {
		t.Fatalf("%d are pending", len(g.pending))
	}
	safe(t, "the others", s, g)
	for len(g.pending) > 0 {
		ends(t, "the last ones", j, &g, g.pending[0].ID)
	}
	safe(t, "at the end", s, g)
}

// Some stay for long, while very many come and go: they are as they were, and nothing is kept of the others.
func TestP11_3SomeStayWhileManyComeAndGo(t *testing.T) {
	stay := 4
	size := 0
	for n := range stay {
		size += recordSize(t, intent(n+1))
	}
	room := size + 2*recordSize(t, longest())
	s, j, g := journal(t, room, stay)
	for n := range 5000 {
		i := longest()
		if n%2 == 0 {
			i = Intent{Path: "a"}
		}
		adds(t, "come and gone", j, &g, i)
		ends(t, "come and gone", j, &g, g.last)
	}
	if s.Used() != size {
		t.Errorf("%d bytes are used, %d by what is pending", s.Used(), size)
	}
	safe(t, "come and gone", s, g)
	if j.Last() != stay+5000 {
		t.Errorf("the last ID is %d", j.Last())
	}
}

// More are pending than one file of a store could hold.
func TestP11_3VeryManyPending(t *testing.T) {
	const many = 1200
	s := store(t, roomy)
	j := opened(t, "very many", s)
	var g judge
	for n := range many {
		i := longest()
		i.Meta = n
		adds(t, "very many", j, &g, i)
	}
	holds(t, "very many", j, g)
	s = s.Crash()
	j = opened(t, "very many", s)
	holds(t, "very many, opened", j, g)
	random := rand.New(rand.NewSource(3))
	for k, n := range random.Perm(many) {
		code(t, "very many", j.Done(n+1), api.OK)
		g.done(n + 1)
		if k%300 == 7 {
			holds(t, "very many, some done", j, g)
			safe(t, "very many, some done", s, g)
		}
	}
	safe(t, "all of very many done", s, g)
	adds(t, "then", j, &g, intent(1))
	if j.Last() != many+1 {
		t.Errorf("the last ID is %d", j.Last())
	}
}

// handed is an Intent whose Root has spare room behind it.
func handed(n int) Intent {
	i := intent(n)
	i.Root = append(bytes.Clone(i.Root), bytes.Repeat([]byte{0xee}, 9)...)[:32]
	return i
}

func spoil(list []Intent) {
	for n := range list {
		root := list[n].Root[:cap(list[n].Root)]
		for k := range root {
			root[k] ^= 0xff
		}
		list[n] = Intent{Path: "spoilt"}
	}
}

func TestP11_3WhatIsHandedInIsNeitherChangedNorKept(t *testing.T) {
	s, j, g := journal(t, roomy, 1)
	list := []Intent{handed(2), handed(3), handed(4)}
	ends := func() string { return fmt.Sprint(list, list[0].Root[:41], list[1].Root[:41], list[2].Root[:41]) }
	was := ends()
	for _, i := range list {
		adds(t, "handed in", j, &g, i)
	}
	refuses(t, "handed in", opened(t, "no room", store(t, 10)), list[0], api.ErrFull)
	if ends() != was {
		t.Error("what was handed in is changed")
	}
	spoil(list)
	holds(t, "what was handed in being gone", j, g)
	safe(t, "what was handed in being gone", s, g)
	adds(t, "then", j, &g, intent(5))
	safe(t, "then", s, g)
}

func TestP11_3WhatIsAnsweredIsNewMemory(t *testing.T) {
	s, made, g := journal(t, roomy, 5, 2)
	for _, j := range []*Journal{made, opened(t, "opened", s)} {
		first, second := j.Pending(), j.Pending()
		spoil(first)
		if fmt.Sprint(second) != fmt.Sprint(g.pending) {
			t.Error("Pending twice: the second one is changed with the first one")
		}
		holds(t, "Pending being changed", j, g)
		// Neither do the Roots of neighbours share memory.
		for n := range second {
			second[n].Root = append(second[n].Root, 0xaa, 0xbb)
		}
		for n, i := range g.pending {
			if !bytes.Equal(second[n].Root[:32], i.Root) {
				t.Errorf("Root %d is changed with its neighbour", n)
			}
		}
		_ = append(j.Pending(), intent(7))
		holds(t, "appended to", j, g)
	}
	before := made.Pending()
	was := fmt.Sprint(before)
	ends(t, "then", made, &g, 1)
	adds(t, "then", made, &g, intent(6))
	if fmt.Sprint(before) != was {
		t.Error("what was answered is changed by what was done then")
	}
	safe(t, "then", s, g)
}

// Journals of two stores have nothing in common.
func TestP11_3TwoJournals(t *testing.T) {
	s, j, g := journal(t, roomy, 3)
	x := s.Crash()
	k := opened(t, "another store", x)
	h := g
	adds(t, "the other one", k, &h, intent(8))
	ends(t, "the other one", k, &h, 2)
	holds(t, "the first one", j, g)
	x.Cut(0)
	refuses(t, "without power", k, intent(9), api.ErrOff)
	if j.Dead() || !k.Dead() {
		t.Error("the wrong one is dead")
	}
	adds(t, "with power", j, &g, intent(7))
	safe(t, "the first one", s, g)
	holds(t, "the dead one", k, h)
}

// The same done shows the same: the files too.
func TestP11_3TheSameDoneShowsTheSame(t *testing.T) {
	run := func() string {
		s, j, _ := journal(t, roomy, 9, 3, 9, 1)
		j.Add(Intent{})
		j.Done(3)
		return told(j) + listed(s) + fmt.Sprint(s.List(), s.Clock(), s.Ops())
	}
	if run() != run() {
		t.Error("done twice, it shows two things")
	}
}
