package ignore

import (
	"math/rand"
	"slices"
	"testing"
)

func TestP12_3WhatStandsUnder(t *testing.T) {
	r := rand.New(rand.NewSource(123))
	paths := slices.DeleteFunc(allTexts("ab/", 5), func(p string) bool { return !judgeValid(p) })
	under := 0
	for range 400 {
		var lines []string
		for range 1 + r.Intn(6) {
			lines = append(lines, randomRule(r))
		}
		rules := rulesOf(t, lines...)
		for _, p := range paths {
			if !rules.Ignored(p, true) {
				continue
			}
			for _, below := range []string{"/a", "/b", "/.a", "/a/b", "/bb/a/b"} {
				for _, dir := range []bool{false, true} {
					if under++; !rules.Ignored(p+below, dir) {
						t.Fatalf("%q: %q is ignored, and %q is not", lines, p, p+below)
					}
				}
			}
		}
	}
	if under < 1000 {
		t.Fatalf("%d stood under something ignored: the rules are badly chosen", under)
	}
}

// TestP12_3NotUnderAFile: what is ignored as a file alone has nothing under it.
func TestP12_3NotUnderAFile(t *testing.T) {
	r := rulesOf(t, "d", "!d/")
	ignores(t, r, "d", false, true)
	ignores(t, r, "d", true, false)
	ignores(t, r, "d/a", false, false)
	ignores(t, r, "d/a", true, false)
}

func TestP12_3HandedIn(t *testing.T) {
	room := []string{"*.o", "!a.o", "d/", "x", "y"}
	lines := room[:3]
	r := rulesOf(t, lines...)
	same(t, "handed in", room, []string{"*.o", "!a.o", "d/", "x", "y"})
	lines[0], lines[1], lines[2] = "q", "q", " "
	same(t, "Lines", r.Lines(), []string{"*.o", "!a.o", "d/"})
	ignores(t, r, "b.o", false, true)
	ignores(t, r, "a.o", false, false)
	ignores(t, r, "d", true, true)
	ignores(t, r, "q", false, false)
	same(t, "handed in, and changed", room, []string{"q", "q", " ", "x", "y"})
}

func TestP12_3Answered(t *testing.T) {
	r := rulesOf(t, "*.o", "!a.o", "d/")
	first, second := r.Lines(), r.Lines()
	for i := range first {
		first[i] = "q"
	}
	_ = append(first, "q", "q")
	_ = append(first[:0], "z")
	want := []string{"*.o", "!a.o", "d/"}
	same(t, "another answer", second, want)
	same(t, "a later answer", r.Lines(), want)
	ignores(t, r, "b.o", false, true)
	ignores(t, r, "q", false, false)
	if &second[0] == &r.Lines()[0] {
		t.Error("two answers share memory")
	}
	again := rulesOf(t, second...)
	second[0] = "q"
	same(t, "made of an answer", again.Lines(), want)
}

func TestP12_3TheSameTwice(t *testing.T) {
	lines := []string{"a*", "!ab", "d/", "**/x"}
	r, other := rulesOf(t, lines...), rulesOf(t, lines...)
	for _, p := range allTexts("abdx/", 4) {
		for _, dir := range []bool{false, true, false} {
			if r.Ignored(p, dir) != other.Ignored(p, dir) {
				t.Fatalf("%q, asked twice", p)
			}
		}
	}
	same(t, "Lines", r.Lines(), lines)
	same(t, "Lines of the other", other.Lines(), lines)
}

// TestP12_3Apart: rules have nothing in common.
func TestP12_3Apart(t *testing.T) {
	first := rulesOf(t, "a")
	second := rulesOf(t, "b")
	none := rulesOf(t)
	ignores(t, first, "a", false, true)
	ignores(t, first, "b", false, false)
	ignores(t, second, "a", false, false)
	ignores(t, second, "b", false, true)
	ignores(t, none, "a", false, false)
}
