package image

import (
	"fmt"
	"testing"

	"linnet/api"
)

// scrubs holds that Scrub writes so many copies anew, and then none.
func scrubs(t *testing.T, what string, a *Archive, want int) {
	t.Helper()
	for _, want := range []int{want, 0, 0} {
		if n, e := a.Scrub(); n != want || e != api.OK {
			t.Fatalf("%s: Scrub is %d and %d, want %d and OK", what, n, e, want)
		}
	}
}

func TestP10_2ScrubWithNothingToDo(t *testing.T) {
	for _, room := range []int{0, roomy} {
		s, a := archive(t, room)
		was := listed(s)
		scrubs(t, "nothing committed", a, 0)
		if listed(s) != was {
			t.Error("nothing committed, and something is changed")
		}
	}
	for _, refs := range someImages() {
		s, a := archive(t, 3*sizeOf(t, refs), refs)
		was, clock := listed(s), s.Clock()
		scrubs(t, "nothing to do", a, 0)
		if listed(s) != was || s.Clock() != clock {
			t.Error("nothing to do, and something is changed")
		}
	}
}

// Where nothing was committed there is no page that could be written anew.
func TestP10_2ScrubWithoutAPage(t *testing.T) {
	for _, c := range Copies() {
		s, a := archive(t, roomy)
		lay(s, c, []byte("bad"))
		was := listed(s)
		scrubs(t, "nothing committed", a, 0)
		if listed(s) != was {
			t.Error("nothing committed, and something is changed")
		}
		code(t, "Commit", a.Commit(many(1)), api.OK)
		whole(t, "Commit", s, 1, many(1))
	}
}

func TestP10_2ScrubWritesAnew(t *testing.T) {
	for _, refs := range someImages() {
		for _, d := range append(damages(), gone()) {
			for mask := range 8 {
				s, a := archive(t, roomy, many(5), refs)
				for _, c := range chosen(mask) {
					d.do(s, c)
				}
				what := fmt.Sprintf("%s: %v", d.name, chosen(mask))
				scrubs(t, what, a, len(chosen(mask)))
				holds(t, what, a, 2, refs)
				whole(t, what, s, 2, refs)
			}
		}
	}
}

// A page of the image before, or of one that was never committed, is not the page's Encode, though it is a page's.
func TestP10_2ScrubOfOtherPages(t *testing.T) {
	s, a := archive(t, roomy, many(2))
	older := copyOf(s, 0)
	code(t, "Commit", a.Commit(many(2)), api.OK)
	for _, b := range [][]byte{older, pageWith(3, nil), pageWith(2, nil), append(copyOf(s, 0), 0)} {
		lay(s, Copies()[1], b)
		scrubs(t, "another page", a, 1)
		whole(t, "another page", s, 2, many(2))
	}
}

func TestP10_2ScrubWithoutPower(t *testing.T) {
	for mask := 1; mask < 8; mask++ {
		acts := 0
		for ; ; acts++ {
			s, a := archive(t, roomy, many(2))
			for _, c := range chosen(mask) {
				s.Rot(c, 30, 3)
			}
			s.Cut(acts)
			n, e := a.Scrub()
			if e == api.OK {
				if n != len(chosen(mask)) || a.Dead() {
					t.Fatalf("Scrub is %d, dead %v", n, a.Dead())
				}
				break
			}
			if n != 0 || e != api.ErrOff || !a.Dead() {
				t.Fatalf("without power Scrub is %d and %d, dead %v", n, e, a.Dead())
			}
			code(t, "Commit of a dead one", a.Commit(nil), api.ErrOff)
			n, e = a.Scrub()
			if n != 0 || e != api.ErrOff {
				t.Fatalf("Scrub of a dead one is %d and %d", n, e)
			}
			holds(t, "dead", a, 1, many(2))
		}
		if acts < 2*len(chosen(mask)) {
			t.Errorf("%d copies took %d acts", len(chosen(mask)), acts)
		}
	}
}

func TestP10_2ScrubWithoutRoom(t *testing.T) {
	for mask := 1; mask < 7; mask++ {
		for _, rotten := range []int{0, 7 ^ mask} {
			s, a := archive(t, 3*sizeOf(t, many(2)), many(2))
			for _, c := range chosen(mask) {
				gone().do(s, c)
			}
			for _, c := range chosen(rotten) {
				s.Rot(c, 30, 3)
			}
			s.Create("user")
			s.Write("user", 0, make([]byte, 1))
			was := listed(s)
			if n, e := a.Scrub(); n != 0 || e != api.ErrFull || listed(s) != was || a.Dead() {
				t.Fatalf("without room Scrub is %d and %d, or changed something", n, e)
			}
			s.Truncate("user", 0)
			scrubs(t, "with room", a, len(chosen(mask|rotten)))
			whole(t, "with room", s, 1, many(2))
		}
	}
}

func TestP10_2ScrubOfWhatIsNoFile(t *testing.T) {
	for place, c := range Copies() {
		s, a := archive(t, roomy, many(2))
		s.Rot(Copies()[(place+1)%3], 30, 3)
		s.Remove(c)
		s.Mkdir(c)
		was := listed(s)
		if n, e := a.Scrub(); n != 0 || e != api.ErrThere || listed(s) != was {
			t.Errorf("a directory: Scrub is %d and %d, or changed something", n, e)
		}
	}
}

// Scrub makes each copy safe ahead of the next one: none is lost that was whole.
func TestP10_2ScrubCopyByCopy(t *testing.T) {
	for cut := 0; ; cut++ {
		s, a := archive(t, roomy, many(3))
		s.Rot(Copies()[0], 30, 3)
		s.Rot(Copies()[1], 30, 3)
		s.Cut(cut)
		_, e := a.Scrub()
		for _, left := range crashes(s) {
			holds(t, "behind a crash", opened(t, "behind a crash", left), 1, many(3))
			x := s.Crash(0, 0, 0)
			if len(copyOf(x, 2)) == 0 {
				t.Fatal("the whole copy is touched")
			}
		}
		if e == api.OK {
			break
		}
	}
}

// A store that has more than its room refuses every Write: a Scrub without anything to write asks for none.
func TestP10_2ScrubWhereMoreIsThanRoom(t *testing.T) {
	s, a := overfull(t, many(2))
	scrubs(t, "nothing to do", a, 0)
	s.Rot(Copies()[0], 9, 9)
	if n, e := a.Scrub(); n != 0 || e != api.ErrFull {
		t.Errorf("Scrub is %d and %d", n, e)
	}
	s.Remove("a")
	scrubs(t, "made room for", a, 1)
	whole(t, "made room for", s, 1, many(2))
}
