package vote

import (
	"bytes"
	"testing"

	"linnet/api"
)

func TestP9_2AllAlike(t *testing.T) {
	for _, p := range []Page{{Gen: 1}, page(1, "x"), page(1<<31-1, "x"), {Gen: 7, Body: text(60000)}} {
		b := bytesOf(p)
		votes(t, "the same memory", b, b, b, verdict{p: p})
		votes(t, "others", b, bytes.Clone(b), bytes.Clone(b), verdict{p: p})
	}
}

func TestP9_2TwoAlikeWin(t *testing.T) {
	pair := page(5, "pair")
	b := bytesOf(pair)
	odds := map[string]Page{
		"older": page(4, "pair"), "newer": page(6, "pair"), "by far the newest": page(1<<31-1, "pair"),
		"of the same Gen": page(5, "other"), "of the same Gen, longer": page(5, "pair "), "of the same Gen, empty": page(5, ""), "of the same Gen, a letter great": page(5, "Pair"),
	}
	for name, p := range odds {
		odd := bytesOf(p)
		votes(t, "the first one "+name, odd, b, b, verdict{p: pair, minority: []int{0}})
		votes(t, "the second one "+name, b, odd, b, verdict{p: pair, minority: []int{1}})
		votes(t, "the third one "+name, b, b, odd, verdict{p: pair, minority: []int{2}})
	}
	for _, none := range noPages() {
		votes(t, "the first one none", none, b, b, verdict{p: pair, minority: []int{0}})
		votes(t, "the second one none", b, none, b, verdict{p: pair, minority: []int{1}})
		votes(t, "the third one none", b, b, none, verdict{p: pair, minority: []int{2}})
	}
}

func TestP9_2NoneAlikeTheNewestWins(t *testing.T) {
	old, mid, top := page(1, "z"), page(2, "y"), page(3, "x")
	o, m, n := bytesOf(old), bytesOf(mid), bytesOf(top)
	votes(t, "old mid new", o, m, n, verdict{p: top, minority: []int{0, 1}})
	votes(t, "mid old new", m, o, n, verdict{p: top, minority: []int{0, 1}})
	votes(t, "old new mid", o, n, m, verdict{p: top, minority: []int{0, 2}})
	votes(t, "mid new old", m, n, o, verdict{p: top, minority: []int{0, 2}})
	votes(t, "new old mid", n, o, m, verdict{p: top, minority: []int{1, 2}})
	votes(t, "new mid old", n, m, o, verdict{p: top, minority: []int{1, 2}})
}

func TestP9_2OfOneGenTheFirstWins(t *testing.T) {
	x, y, z := page(2, "x"), page(2, "y"), page(2, "")
	old, top := page(1, "w"), page(3, "w")
	votes(t, "all of one Gen", bytesOf(y), bytesOf(x), bytesOf(z), verdict{p: y, minority: []int{1, 2}})
	votes(t, "the first two", bytesOf(x), bytesOf(y), bytesOf(old), verdict{p: x, minority: []int{1, 2}})
	votes(t, "the first two, turned round", bytesOf(y), bytesOf(x), bytesOf(old), verdict{p: y, minority: []int{1, 2}})
	votes(t, "the outer two", bytesOf(z), bytesOf(old), bytesOf(y), verdict{p: z, minority: []int{1, 2}})
	votes(t, "the last two", bytesOf(old), bytesOf(y), bytesOf(x), verdict{p: y, minority: []int{0, 2}})
	votes(t, "two of one Gen, and a newer one behind", bytesOf(x), bytesOf(y), bytesOf(top), verdict{p: top, minority: []int{0, 1}})
	votes(t, "two of one Gen, and none ahead", nil, bytesOf(y), bytesOf(x), verdict{p: y, minority: []int{0, 2}})
	votes(t, "two of one Gen, and none between", bytesOf(y), nil, bytesOf(x), verdict{p: y, minority: []int{1, 2}})
}

// noPages are copies that are no page's.
func noPages() [][]byte {
	var out [][]byte
	for _, c := range someCopies() {
		if c.p.Gen == 0 {
			out = append(out, c.b)
		}
	}
	return out
}

func TestP9_2CopiesThatAreNoPages(t *testing.T) {
	p, q := page(2, "x"), page(3, "y")
	b, c := bytesOf(p), bytesOf(q)
	for _, none := range noPages() {
		votes(t, "the first one alone", b, none, none, verdict{p: p, minority: []int{1, 2}})
		votes(t, "the second one alone", none, b, none, verdict{p: p, minority: []int{0, 2}})
		votes(t, "the third one alone", none, none, b, verdict{p: p, minority: []int{0, 1}})
		votes(t, "none and two", none, b, c, verdict{p: q, minority: []int{0, 1}})
		votes(t, "two and none", c, b, none, verdict{p: q, minority: []int{1, 2}})
		votes(t, "none between", b, none, c, verdict{p: q, minority: []int{0, 1}})
		for _, other := range noPages() {
			votes(t, "no page at all", none, other, none, verdict{e: api.ErrRot})
			votes(t, "no page at all, in another order", other, none, none, verdict{e: api.ErrRot})
		}
	}
}

func TestP9_2VoteAgainstTheRanks(t *testing.T) {
	all := someCopies()
	for _, a := range all {
		for _, b := range all {
			for _, c := range all {
				votes(t, "three of many", a.b, b.b, c.b, verdictOf(a, b, c))
			}
		}
	}
}

func TestP9_2SameAsksForBothFields(t *testing.T) {
	for _, gen := range append(wrongGens(), 1, 258, 1<<31-1) {
		p := Page{Gen: gen, Body: []byte("xy")}
		if !Same(p, p) || !Same(p, Page{Gen: gen, Body: []byte("xy")}) {
			t.Errorf("Gen %d: not the same as itself, or as a copy", gen)
		}
		others := []Page{
			{Gen: gen + 1, Body: p.Body}, {Gen: gen - 1, Body: p.Body}, {Gen: gen ^ 1<<40, Body: p.Body}, {Gen: gen ^ -1, Body: p.Body},
			{Gen: gen}, {Gen: gen, Body: []byte{}}, {Gen: gen, Body: []byte("x")}, {Gen: gen, Body: []byte("xyz")},
			{Gen: gen, Body: []byte("xz")}, {Gen: gen, Body: []byte("zy")}, {Gen: gen, Body: []byte("yx")}, {Gen: gen, Body: []byte("xY")}, {},
		}
		for i, q := range others {
			if Same(p, q) || Same(q, p) {
				t.Errorf("Gen %d: the same as other %d", gen, i)
			}
		}
		none, empty := Page{Gen: gen}, Page{Gen: gen, Body: []byte{}}
		if !Same(none, empty) || !Same(empty, none) || !Same(none, none) || !Same(empty, empty) {
			t.Errorf("Gen %d: a nil Body and an empty one do not mean the same", gen)
		}
	}
	long, other := Page{Gen: 1, Body: text(70000)}, Page{Gen: 1, Body: text(70000)}
	if !Same(long, other) {
		t.Error("long Bodies: not the same")
	}
	other.Body[69999] ^= 1
	if Same(long, other) {
		t.Error("long Bodies: the same, with another last byte")
	}
	if !Same(Page{}, Page{Body: []byte{}}) {
		t.Error("zero pages: not the same")
	}
}
