package image

import (
	"fmt"
	"testing"

	"linnet/api"
	"linnet/path"
	"linnet/vote"
	"linnet/vstore"
)

func TestP10_2CommitIsThereAndSafe(t *testing.T) {
	for _, first := range someImages() {
		for _, next := range someImages() {
			s, a := archive(t, roomy, first)
			holds(t, "the first one", a, 1, first)
			whole(t, "the first one", s, 1, first)
			code(t, "Commit", a.Commit(next), api.OK)
			holds(t, "the next one", a, 2, next)
			whole(t, "the next one", s, 2, next)
		}
	}
}

func TestP10_2GenCountsCommits(t *testing.T) {
	s, a := archive(t, roomy)
	for gen := 1; gen <= 300; gen++ {
		code(t, "Commit", a.Commit(many(2)), api.OK)
		if a.Gen() != gen {
			t.Fatalf("Gen is %d behind %d Commits of the same image", a.Gen(), gen)
		}
	}
	whole(t, "300 Commits", s, 300, many(2))
	holds(t, "opened", opened(t, "opened", s), 300, many(2))
	for _, d := range []damage{gone(), damages()[0]} {
		d.do(s, Copies()[2])
		a.Scrub()
	}
	if a.Gen() != 300 {
		t.Errorf("Gen is %d behind Scrubs", a.Gen())
	}
}

func TestP10_2GetTellsOnePath(t *testing.T) {
	refs := []api.Ref{dir("d"), file("d/a", 4), file("d.a", 5)}
	_, a := archive(t, roomy, []api.Ref{file("old", 1)}, refs)
	holds(t, "all", a, 2, refs)
	for _, p := range []string{"", "old", "a", "d/", "d/a/b", "D", ".archive", Copies()[0], "d/b", "..", "\xff", longPath(1) + "long"} {
		if got, ok := a.Get(p); ok || fmt.Sprint(got) != fmt.Sprint(api.Ref{}) {
			t.Errorf("Get(%q) is %v, %v", p, got, ok)
		}
	}
}

// noImages are Refs of every way in which May says no.
func noImages() [][]api.Ref {
	return [][]api.Ref{
		many(101), {file("b", 1), file("a", 1)}, {file("a", 1), file("a", 1)}, {file("", 1)}, {file("A", 1)}, {file(".a", 1)}, {file(Copies()[0], 1)},
		{with(api.File, func(r *api.Ref) { r.Kind = 0 })}, {with(api.Dir, func(r *api.Ref) { r.Kind = 3 })},
		{with(api.File, func(r *api.Ref) { r.Size = -1 })}, {with(api.File, func(r *api.Ref) { r.Size = 8193 })},
		{with(api.File, func(r *api.Ref) { r.Meta = -1 })}, {with(api.File, func(r *api.Ref) { r.Meta = 1 << 31 })},
		{with(api.File, func(r *api.Ref) { r.Root = r.Root[:31] })}, {with(api.Dir, func(r *api.Ref) { r.Root = make([]byte, 32) })},
	}
}

func TestP10_2CommitOfNoImage(t *testing.T) {
	for _, refs := range noImages() {
		for _, held := range someImages() {
			s, a := archive(t, roomy, held)
			was := listed(s)
			code(t, "no image", a.Commit(refs), api.ErrArg)
			holds(t, "no image", a, 1, held)
			if listed(s) != was {
				t.Fatal("refused, something is changed")
			}
		}
		s, a := archive(t, 0)
		code(t, "no image, and no room", a.Commit(refs), api.ErrArg)
		s.Cut(0)
		code(t, "no image, and no power", a.Commit(refs), api.ErrArg)
		if a.Dead() {
			t.Error("dead behind ErrArg")
		}
		code(t, "the power is off", a.Commit(nil), api.ErrOff)
		code(t, "no image, dead", a.Commit(refs), api.ErrArg)
		var none *Archive
		code(t, "no image, nil", none.Commit(refs), api.ErrArg)
	}
}

func TestP10_2CommitOverDamagedCopies(t *testing.T) {
	for _, next := range someImages() {
		for _, d := range append(damages(), gone()) {
			for mask := 1; mask < 8; mask++ {
				s, a := archive(t, roomy, many(9))
				for _, c := range chosen(mask) {
					d.do(s, c)
				}
				code(t, d.name, a.Commit(next), api.OK)
				holds(t, d.name, a, 2, next)
				whole(t, d.name, s, 2, next)
			}
		}
	}
}

// refusedFor holds that a Commit is refused for want of room, and that nothing tells of it, whichever copy rots then.
func refusedFor(t *testing.T, what string, s *vstore.Store, a *Archive, refs []api.Ref) {
	t.Helper()
	was, files := told(a), listed(s)
	code(t, what, a.Commit(refs), api.ErrFull)
	if told(a) != was || a.Dead() || listed(s) != files {
		t.Fatalf("%s: refused, something is changed", what)
	}
	for _, left := range append(crashes(s), s.Crash()) {
		for _, c := range append(Copies(), "") {
			x := left.Crash()
			x.Rot(c, 1, 9)
			if got := told(opened(t, what, x)); got != was {
				t.Fatalf("%s: refused, Open tells %s, want %s", what, got, was)
			}
		}
	}
}

// sizeOf is how many bytes a copy of an image takes.
func sizeOf(t *testing.T, refs []api.Ref) int {
	s, _ := archive(t, roomy, refs)
	return s.Used() / 3
}

func TestP10_2CommitAsRoomAllows(t *testing.T) {
	first, next := many(1), many(2)
	small, great := 3*sizeOf(t, first), 3*sizeOf(t, next)
	for room := range great + 2 {
		s, a := archive(t, room)
		if room < small {
			refusedFor(t, "the first one", s, a, first)
			continue
		}
		code(t, "the first one", a.Commit(first), api.OK)
		if room < great {
			refusedFor(t, "the next one", s, a, next)
			code(t, "one as long", a.Commit([]api.Ref{file(longPath(7), 7)}), api.OK)
			code(t, "a shorter one", a.Commit(nil), api.OK)
			whole(t, "a shorter one", s, 3, nil)
			continue
		}
		code(t, "the next one", a.Commit(next), api.OK)
		whole(t, "the next one", s, 2, next)
	}
}

func TestP10_2CommitBesideFilesOfUsers(t *testing.T) {
	for _, held := range someImages()[:8] {
		for _, next := range someImages()[:8] {
			was := 3 * sizeOf(t, held)
			grow := max(0, 3*sizeOf(t, next)-was)
			for _, left := range []int{0, 1, grow - 1, grow, grow + 1} {
				user := grow + 10 - left
				if left < 0 || user > vstore.MaxSize {
					continue
				}
				s, a := archive(t, was+grow+10, held)
				lay(s, "user", make([]byte, user))
				if left < grow {
					refusedFor(t, "beside a file", s, a, next)
					continue
				}
				code(t, "beside a file", a.Commit(next), api.OK)
				whole(t, "beside a file", s, 2, next)
			}
		}
	}
}

// overfull is a store with more than its room: a crash brought back what was taken away.
func overfull(t *testing.T, refs []api.Ref) (*vstore.Store, *Archive) {
	t.Helper()
	held := 3 * sizeOf(t, refs)
	s, _ := archive(t, held+10, refs)
	lay(s, "a", make([]byte, 10))
	lay(s, "b", nil)
	s.Remove("a")
	s.Write("b", 0, make([]byte, 10))
	over := s.Crash(0)
	if over.Used() != held+20 {
		t.Fatal("the store has not more than its room")
	}
	return over, opened(t, "more than its room", over)
}

// Such a store refuses every Write, a shorter one too.
func TestP10_2CommitWhereMoreIsThanRoom(t *testing.T) {
	for _, refs := range someImages() {
		s, a := overfull(t, many(3))
		was := listed(s)
		code(t, "more than its room", a.Commit(refs), api.ErrFull)
		holds(t, "refused", a, 1, many(3))
		holds(t, "refused, opened", opened(t, "refused, opened", s), 1, many(3))
		if listed(s) != was {
			t.Fatal("refused, something is changed")
		}
		s.Truncate("b", 0)
		code(t, "as long", a.Commit(many(3)), api.OK)
		whole(t, "as long", s, 2, many(3))
	}
}

func TestP10_2NoFileIsLeftThatThereIsNoRoomFor(t *testing.T) {
	s, a := archive(t, 50)
	refusedFor(t, "the first Commit", s, a, many(1))
	if len(s.List()) != 1 || s.Used() != 0 {
		t.Errorf("what is left is %v", s.List())
	}
	s, a = archive(t, 3*sizeOf(t, many(1)), many(1))
	s.Remove(Copies()[0])
	s.SyncDir()
	was := listed(s)
	code(t, "longer, the first copy gone", a.Commit(many(3)), api.ErrFull)
	if listed(s) != was {
		t.Error("refused, something is changed")
	}
	code(t, "as long", a.Commit(many(1)), api.OK)
	whole(t, "as long", s, 2, many(1))
}

// wellAt holds that two copies at least are whole, each of one of two Gens.
func wellAt(t *testing.T, cut int, s *vstore.Store, gens ...int) {
	t.Helper()
	for _, left := range crashes(s) {
		well := 0
		for place := range 3 {
			p, e := vote.Decode(copyOf(left, place))
			if e == api.OK && (p.Gen == gens[0] || p.Gen == gens[1]) {
				well++
			}
		}
		if well < 2 {
			t.Fatalf("the power went behind %d acts: %d copies are whole", cut, well)
		}
	}
}

func TestP10_2CommitCopyByCopy(t *testing.T) {
	for _, next := range someImages() {
		cuts := 0
		for ; ; cuts++ {
			s, a := archive(t, roomy, many(5), many(9))
			s.Cut(cuts)
			e := a.Commit(next)
			wellAt(t, cuts, s, 2, 3)
			if e == api.OK {
				break
			}
			code(t, "Commit", e, api.ErrOff)
			holds(t, "without power", a, 2, many(9))
			if !a.Dead() {
				t.Fatal("ErrOff, and not dead")
			}
			code(t, "Commit of a dead one", a.Commit(next), api.ErrOff)
			code(t, "Commit of no image, dead", a.Commit(many(101)), api.ErrArg)
			if n, e := a.Scrub(); n != 0 || e != api.ErrOff {
				t.Fatalf("Scrub of a dead one: %d, %d", n, e)
			}
			holds(t, "dead", a, 2, many(9))
		}
		if cuts < 9 {
			t.Errorf("a Commit took %d acts", cuts)
		}
	}
}

// The first Commit makes the copies: no name of the next one is safe ahead of the bytes of the one before.
func TestP10_2TheFirstCommitCopyByCopy(t *testing.T) {
	for cut := 0; ; cut++ {
		s, a := archive(t, roomy)
		s.Cut(cut)
		e := a.Commit(many(2))
		for _, left := range crashes(s) {
			for place := range 2 {
				next := copyOf(left, place+1)
				if _, e := left.Stat(Copies()[place+1]); e != api.OK {
					continue
				}
				if _, e := vote.Decode(copyOf(left, place)); e != api.OK {
					t.Fatalf("behind %d acts copy %d is there, of %d bytes, and the one before is not whole", cut, place+1, len(next))
				}
			}
		}
		if e == api.OK {
			break
		}
		code(t, "Commit", e, api.ErrOff)
		holds(t, "without power", a, 0, nil)
	}
}

func TestP10_2CommitOverWhatIsNoFile(t *testing.T) {
	for _, c := range Copies() {
		s, a := archive(t, roomy, many(2))
		s.Remove(c)
		s.Mkdir(c)
		was := listed(s)
		code(t, "a directory where a copy should be", a.Commit(many(3)), api.ErrThere)
		holds(t, "refused", a, 1, many(2))
		if listed(s) != was || a.Dead() {
			t.Error("refused, something is changed")
		}
	}
	s, a := archive(t, roomy)
	s.Remove(path.Parent(Copies()[0]))
	code(t, "the directory gone", a.Commit(many(3)), api.ErrNone)
	holds(t, "refused", a, 0, nil)
}

func TestP10_2TheLastGen(t *testing.T) {
	s, _ := archive(t, roomy, many(2))
	p, _ := vote.Decode(copyOf(s, 0))
	for _, c := range Copies() {
		lay(s, c, pageWith(1<<31-1, p.Body))
	}
	a := opened(t, "the last Gen", s)
	holds(t, "the last Gen", a, 1<<31-1, many(2))
	if a.Commit(many(3)) == api.OK {
		t.Error("a Gen behind the last one")
	}
	holds(t, "refused", a, 1<<31-1, many(2))
	whole(t, "refused", s, 1<<31-1, many(2))
}

func TestP10_2NoArchive(t *testing.T) {
	var none *Archive
	for _, refs := range someImages() {
		code(t, "Commit", none.Commit(refs), api.ErrOff)
	}
	n, e := none.Scrub()
	ref, ok := none.Get("a")
	if n != 0 || e != api.ErrOff || ok || fmt.Sprint(ref) != fmt.Sprint(api.Ref{}) || len(none.All()) != 0 || none.Gen() != 0 || !none.Dead() {
		t.Errorf("nil: Scrub %d, %d, Get %v, %v, All %v, Gen %d, Dead %v", n, e, ref, ok, none.All(), none.Gen(), none.Dead())
	}
}
