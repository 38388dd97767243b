package image

import (
	"bytes"
	"fmt"
	"slices"
	"testing"

	"linnet/api"
	"linnet/path"
	"linnet/vstore"
)

func TestP10_1Copies(t *testing.T) {
	names := Copies()
	if len(names) != 3 || names[0] == names[1] || names[1] == names[2] || names[0] == names[2] {
		t.Fatalf("Copies: %v", names)
	}
	for _, c := range names {
		if !path.Hidden(c) || path.Parent(c) == "" || path.Parent(c) != path.Parent(names[0]) {
			t.Errorf("Copies: %s is not Hidden, or in no directory of them all", c)
		}
	}
	was := slices.Clone(names)
	names[0], names[1], names[2] = "", "", ""
	if !slices.Equal(Copies(), was) {
		t.Errorf("Copies: %v, behind a change of what was answered", Copies())
	}
}

func TestP10_1OpenOfNoStore(t *testing.T) {
	notOpened(t, "nil", nil, api.ErrArg)
}

func TestP10_1OpenOfAnEmptyStore(t *testing.T) {
	home := path.Parent(Copies()[0])
	for _, room := range []int{0, 1, 100, roomy} {
		s := store(t, room)
		for _, what := range []string{"new", "once more", "a third time"} {
			holds(t, what, opened(t, what, s), 0, nil)
		}
		for _, left := range append(crashes(s), s) {
			if now, _ := left.Stat(home); now.Kind != api.Dir || left.Used() != 0 || len(left.List()) != 1 {
				t.Errorf("what stands there is %v, want the directory alone, and safe", left.List())
			}
		}
		x := s.Crash()
		holds(t, "behind a crash", opened(t, "behind a crash", x), 0, nil)
	}
}

func TestP10_1OpenTellsTheLastCommit(t *testing.T) {
	var done [][]api.Ref
	for _, refs := range someImages() {
		done = append(done, refs)
		s, a := archive(t, roomy, done...)
		holds(t, "the one that committed", a, len(done), refs)
		b := opened(t, "another one", s)
		holds(t, "another one", b, len(done), refs)
		for _, left := range crashes(s) {
			holds(t, "behind a crash", opened(t, "behind a crash", left), len(done), refs)
		}
		code(t, "Commit of another one", b.Commit(many(3)), api.OK)
		holds(t, "gone on with", opened(t, "gone on with", s), len(done)+1, many(3))
	}
}

func TestP10_1OpenTouchesNothingElse(t *testing.T) {
	s, a := archive(t, roomy, many(9))
	s.Mkdir("d")
	lay(s, "d/a", []byte("abc"))
	lay(s, ".other", []byte("xyz"))
	was := listed(s)
	opened(t, "as it was", s)
	if listed(s) != was {
		t.Error("Open changed what stands there, with nothing to do")
	}
	s.Rot(Copies()[1], 7, 9)
	opened(t, "one copy rotten", s)
	if listed(s) != was {
		t.Error("Open did not make all that stands there as it was")
	}
	code(t, "Commit", a.Commit(many(8)), api.OK)
	for _, p := range []string{"d/a", ".other"} {
		if now, e := s.Stat(p); e != api.OK || now.Size != 3 {
			t.Errorf("%s is %v, %d", p, now, e)
		}
	}
}

// opensWith holds that Open tells the image though these copies are damaged, and makes them anew, safe.
func opensWith(t *testing.T, d damage, mask, gen int, refs []api.Ref, s *vstore.Store) {
	t.Helper()
	what := fmt.Sprintf("%s: %v", d.name, chosen(mask))
	for _, c := range chosen(mask) {
		d.do(s, c)
	}
	if mask == 7 {
		was := listed(s)
		notOpened(t, what, s, api.ErrRot)
		if listed(s) != was {
			t.Errorf("%s: refused, something is changed", what)
		}
		return
	}
	holds(t, what, opened(t, what, s), gen, refs)
	whole(t, what, s, gen, refs)
}

func TestP10_1OpenWithDamagedCopies(t *testing.T) {
	for _, refs := range someImages() {
		for _, d := range damages() {
			for mask := 1; mask < 8; mask++ {
				s, _ := archive(t, roomy, many(5), refs)
				opensWith(t, d, mask, 2, refs, s)
			}
		}
	}
}

func TestP10_1OpenWithCopiesGone(t *testing.T) {
	for _, refs := range someImages() {
		for mask := 1; mask < 7; mask++ {
			s, _ := archive(t, roomy, many(5), refs)
			opensWith(t, gone(), mask, 2, refs, s)
		}
		s, _ := archive(t, roomy, many(5), refs)
		for _, c := range Copies() {
			gone().do(s, c)
		}
		holds(t, "all three gone", opened(t, "all three gone", s), 0, nil)
		s.Remove(path.Parent(Copies()[0]))
		holds(t, "the directory gone", opened(t, "the directory gone", s), 0, nil)
	}
}

// What is no page's is rotten if there are three, and nothing was committed if there are fewer: then nothing of it stays.
func TestP10_1OpenWithNoPageAtAll(t *testing.T) {
	for _, d := range damages()[5:] {
		for mask := 1; mask < 7; mask++ {
			s := store(t, roomy)
			for _, c := range chosen(mask) {
				d.do(s, c)
			}
			holds(t, d.name, opened(t, d.name, s), 0, nil)
			for _, left := range append(crashes(s), s) {
				if left.Used() != 0 || len(left.List()) != 1 {
					t.Fatalf("%s: what is left is %v", d.name, left.List())
				}
			}
		}
	}
	s, _ := archive(t, roomy, many(2))
	gone().do(s, Copies()[0])
	s.Rot(Copies()[1], 50, 1)
	s.Rot(Copies()[2], 50, 1)
	holds(t, "one gone, two rotten", opened(t, "one gone, two rotten", s), 0, nil)
}

// layAll puts three copies there; nil is one that is not there.
func layAll(t *testing.T, copies ...[]byte) *vstore.Store {
	s := store(t, roomy)
	for i, b := range copies {
		if b != nil {
			lay(s, Copies()[i], b)
		}
	}
	return s
}

func TestP10_1OpenByVote(t *testing.T) {
	older, newer := many(1), many(2)
	s, a := archive(t, roomy, older)
	o := copyOf(s, 0)
	a.Commit(newer)
	n := copyOf(s, 0)
	bad := []byte("bad")
	cases := []struct {
		copies [3][]byte
		gen    int
	}{
		{[3][]byte{n, o, o}, 1}, {[3][]byte{o, n, o}, 1}, {[3][]byte{o, o, n}, 1},
		{[3][]byte{o, n, n}, 2}, {[3][]byte{n, o, n}, 2}, {[3][]byte{n, n, o}, 2},
		{[3][]byte{n, bad, o}, 2}, {[3][]byte{o, bad, n}, 2}, {[3][]byte{bad, o, n}, 2}, {[3][]byte{o, n, bad}, 2},
		{[3][]byte{n, nil, o}, 2}, {[3][]byte{nil, o, n}, 2}, {[3][]byte{o, n, nil}, 2},
		{[3][]byte{o, bad, nil}, 1}, {[3][]byte{nil, nil, o}, 1}, {[3][]byte{bad, bad, n}, 2}, {[3][]byte{nil, n, bad}, 2},
	}
	for i, c := range cases {
		s := layAll(t, c.copies[:]...)
		want := [][]api.Ref{nil, older, newer}[c.gen]
		what := fmt.Sprint("case ", i)
		holds(t, what, opened(t, what, s), c.gen, want)
		whole(t, what, s, c.gen, want)
		holds(t, what+", twice", opened(t, what, s), c.gen, want)
	}
}

func TestP10_1OpenWithoutPower(t *testing.T) {
	off := func(what string, s *vstore.Store, want api.Errno) {
		t.Helper()
		s.Cut(0)
		was := listed(s)
		notOpened(t, what, s, want)
		notOpened(t, what+", twice", s, want)
		if listed(s) != was {
			t.Errorf("%s: something is changed", what)
		}
	}
	off("an empty store", store(t, roomy), api.ErrOff)
	s, _ := archive(t, roomy)
	off("nothing committed", s, api.ErrOff)
	s, _ = archive(t, roomy, many(3))
	off("three copies alike", s, api.ErrOff)
	for mask := 1; mask < 8; mask++ {
		s, _ = archive(t, roomy, many(3))
		for _, c := range chosen(mask) {
			s.Rot(c, 40, 4)
		}
		want := api.ErrOff
		if mask == 7 {
			want = api.ErrRot // it is named ahead of the store's errors
		}
		off(fmt.Sprint("rotten: ", chosen(mask)), s, want)
	}
}

// The power goes at each act of an Open that has two copies to make anew: whenever Open is OK, all is done.
func TestP10_1OpenWhosePowerGoes(t *testing.T) {
	refused := 0
	for cut := 0; ; cut++ {
		s, _ := archive(t, roomy, many(3))
		gone().do(s, Copies()[0])
		s.Rot(Copies()[2], 40, 4)
		s.Cut(cut)
		a, e := Open(s)
		if e == api.OK {
			holds(t, "opened", a, 1, many(3))
			whole(t, "opened", s, 1, many(3))
			break
		}
		code(t, "Open", e, api.ErrOff)
		refused++
		for _, left := range crashes(s) {
			holds(t, "once more", opened(t, "once more", left), 1, many(3))
			whole(t, "once more", left, 1, many(3))
		}
	}
	if refused < 6 {
		t.Errorf("the power went at %d acts only", refused)
	}
}

func TestP10_1OpenWithoutRoom(t *testing.T) {
	refs := many(4)
	probe, _ := archive(t, roomy, refs)
	size := probe.Used() / 3
	full := func(more int) *vstore.Store {
		s, _ := archive(t, 3*size+more, refs)
		return s
	}
	s := full(0)
	holds(t, "nothing to do", opened(t, "nothing to do", s), 1, refs)
	for mask := 1; mask < 7; mask++ {
		for _, d := range damages()[:4] {
			opensWith(t, d, mask, 1, refs, full(0))
		}
		s := full(0)
		for _, c := range chosen(mask) {
			gone().do(s, c)
		}
		s.Create("user")
		s.Write("user", 0, make([]byte, 1))
		was := listed(s)
		notOpened(t, "gone, and no room", s, api.ErrFull)
		if listed(s) != was {
			t.Errorf("no room: something is changed")
		}
		s.Truncate("user", 0)
		opensWith(t, gone(), mask, 1, refs, s)
	}
}

func TestP10_1OpenOfWhatIsNoFile(t *testing.T) {
	home := path.Parent(Copies()[0])
	s := store(t, roomy)
	lay(s, home, []byte("bad"))
	notOpened(t, "a file where the directory should be", s, api.ErrThere)
	for place, c := range Copies() {
		s, _ := archive(t, roomy, many(2))
		s.Remove(c)
		s.Mkdir(c)
		was := listed(s)
		s.Rot(Copies()[(place+1)%3], 9, 9)
		notOpened(t, "a directory where a copy should be", s, api.ErrThere)
		s.Rot(Copies()[(place+1)%3], 9, 9)
		if listed(s) != was {
			t.Error("refused, something is changed")
		}
		s.Remove(c)
		holds(t, "made room for", opened(t, "made room for", s), 1, many(2))
		whole(t, "made room for", s, 1, many(2))
	}
}

func TestP10_1OpenIsOneForm(t *testing.T) {
	for _, refs := range someImages() {
		s, _ := archive(t, roomy, refs)
		b := copyOf(s, 0)
		for _, d := range damages() {
			d.do(s, Copies()[0])
			opened(t, d.name, s)
			if !bytes.Equal(copyOf(s, 0), b) {
				t.Fatalf("%s: written anew in another form", d.name)
			}
		}
	}
}
