package image

import (
	"bytes"
	"fmt"
	"testing"

	"linnet/api"
)

func TestP10_4RotIsNotSeenAndGoneBehindScrub(t *testing.T) {
	refs := []api.Ref{dir("d"), file("d/a", 4)}
	probe, _ := archive(t, roomy, many(1), refs)
	page := copyOf(probe, 0)
	for place, c := range Copies() {
		for off := range page {
			s, a := archive(t, roomy, many(1), refs)
			code(t, "Rot", s.Rot(c, off, byte(1+off%255)), api.OK)
			holds(t, "rotten", a, 2, refs)
			x := s.Crash()
			holds(t, "rotten, opened", opened(t, "rotten", x), 2, refs)
			whole(t, "rotten, opened", x, 2, refs)
			scrubs(t, "rotten", a, 1)
			holds(t, "behind Scrub", a, 2, refs)
			if !bytes.Equal(copyOf(s, place), page) || !bytes.Equal(copyOf(s.Crash(), place), page) {
				t.Fatalf("copy %d, byte %d: not as it was behind Scrub", place, off)
			}
		}
	}
}

// One copy after the other rots, with a Scrub between: nothing is ever seen of it.
func TestP10_4RotWithScrubsBetween(t *testing.T) {
	refs := many(5)
	s, a := archive(t, roomy, refs)
	for i := range 30 {
		s.Rot(Copies()[i%3], i*7, byte(i+1))
		if i%2 == 0 {
			scrubs(t, "between", a, 1)
		} else {
			a = opened(t, "between", s)
		}
		holds(t, "between", a, 1, refs)
	}
	whole(t, "at the end", s, 1, refs)
}

// roomyRef has spare room behind its Root.
func roomyRef(r api.Ref) api.Ref {
	if len(r.Root) > 0 {
		r.Root = append(bytes.Clone(r.Root), bytes.Repeat([]byte{0xee}, 9)...)[:32]
	}
	return r
}

func spoil(refs []api.Ref) {
	refs = refs[:cap(refs)]
	for i := range refs {
		root := refs[i].Root[:cap(refs[i].Root)]
		for k := range root {
			root[k] ^= 0xff
		}
		refs[i] = api.Ref{Path: "spoilt"}
	}
}

func TestP10_4WhatIsHandedInIsNeitherChangedNorKept(t *testing.T) {
	want := []api.Ref{dir("d"), file("d/a", 4), file("e", 6)}
	var handed []api.Ref
	for _, r := range want {
		handed = append(handed, roomyRef(r))
	}
	handed = append(handed, roomyRef(file("spare", 1)))
	all := fmt.Sprint(handed)
	handed = handed[:3]
	ends := func() string {
		return fmt.Sprint(handed[:4]) + fmt.Sprint(handed[1].Root[:41], handed[2].Root[:41])
	}
	before := ends()
	if !May(handed) {
		t.Fatal("no image")
	}
	s, a := archive(t, roomy)
	code(t, "Commit", a.Commit(handed), api.OK)
	code(t, "Commit without room", mustArchive(t, 10).Commit(handed), api.ErrFull)
	if fmt.Sprint(handed[:4]) != all || ends() != before {
		t.Error("what was handed in is changed")
	}
	spoil(handed)
	holds(t, "what was handed in being gone", a, 1, want)
	s.Rot(Copies()[0], 9, 9)
	scrubs(t, "what was handed in being gone", a, 1)
	whole(t, "what was handed in being gone", s, 1, want)
}

func mustArchive(t *testing.T, room int) *Archive {
	_, a := archive(t, room)
	return a
}

func TestP10_4WhatIsAnsweredIsNewMemory(t *testing.T) {
	want := []api.Ref{dir("d"), file("d/a", 4), file("e", 6)}
	s, made := archive(t, roomy, want)
	for _, a := range []*Archive{made, opened(t, "opened", s)} {
		first, second := a.All(), a.All()
		spoil(first)
		if fmt.Sprint(second) != fmt.Sprint(want) {
			t.Error("All twice: the second one is changed with the first one")
		}
		holds(t, "All being changed", a, 1, want)
		got, _ := a.Get("e")
		again, _ := a.Get("e")
		spoil([]api.Ref{got})
		if fmt.Sprint(again) != fmt.Sprint(want[2]) {
			t.Error("Get twice: the second one is changed with the first one")
		}
		holds(t, "Get being changed", a, 1, want)
		s.Rot(Copies()[1], 9, 9)
		scrubs(t, "what was answered being changed", a, 1)
		whole(t, "what was answered being changed", s, 1, want)
	}
}

// No two lists of one answer share memory: neither do lists of neighbours behind an append.
func TestP10_4NoTwoListsShare(t *testing.T) {
	s, _ := archive(t, roomy, many(4))
	a := opened(t, "opened", s)
	all := a.All()
	for i := range all {
		all[i].Root = append(all[i].Root, 0xaa, 0xbb)
	}
	for i, r := range many(4) {
		if !bytes.Equal(all[i].Root[:32], r.Root) {
			t.Errorf("Root %d is changed with its neighbour", i)
		}
	}
	holds(t, "appended to", a, 1, many(4))
}

// Archives of two stores have nothing in common.
func TestP10_4TwoArchives(t *testing.T) {
	s, a := archive(t, roomy, many(2))
	x := s.Crash()
	b := opened(t, "another store", x)
	code(t, "Commit", b.Commit(many(7)), api.OK)
	holds(t, "the first one", a, 1, many(2))
	whole(t, "the first one", s, 1, many(2))
	x.Cut(0)
	code(t, "without power", b.Commit(nil), api.ErrOff)
	if a.Dead() || !b.Dead() {
		t.Error("the wrong one is dead")
	}
	code(t, "with power", a.Commit(many(3)), api.OK)
	holds(t, "the dead one", b, 2, many(7))
}

// The same done shows the same: the copies too.
func TestP10_4TheSameDoneShowsTheSame(t *testing.T) {
	run := func() string {
		s, a := archive(t, roomy, someImages()...)
		s.Rot(Copies()[2], 77, 7)
		a.Scrub()
		return told(a) + listed(s) + fmt.Sprint(s.List(), s.Clock(), s.Ops())
	}
	if run() != run() {
		t.Error("done twice, it shows two things")
	}
}
