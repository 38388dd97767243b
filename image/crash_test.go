package image

import (
	"fmt"
	"math/rand"
	"slices"
	"testing"

	"linnet/api"
	"linnet/vstore"
)

// none is the place of no copy.
const none = 3

// turned is a store in which that copy rots.
func turned(s *vstore.Store, place int) *vstore.Store {
	x := s.Crash()
	if place != none {
		x.Rot(Copies()[place], 1, 0x55)
	}
	return x
}

// outlook is what is asked of stores that crashes left; one that was asked of already has nothing new to tell.
type outlook struct {
	t    *testing.T
	what string
	seen map[string]bool
}

func lookOut(t *testing.T, what string) *outlook {
	return &outlook{t: t, what: what, seen: map[string]bool{}}
}

// fresh tells whether no store like this one was asked of. (Behind a crash all is safe, and Stamps tell the archive nothing.)
func (o *outlook) fresh(s *vstore.Store, rotten int, allowed []string) bool {
	key := fmt.Sprint(listed(s), rotten, allowed)
	defer func() { o.seen[key] = true }()
	return !o.seen[key]
}

// afterwards holds that Open is OK and tells one of these, twice the same, whichever copy rots in between, and that the Archive goes on.
func (o *outlook) afterwards(s *vstore.Store, allowed ...string) {
	o.t.Helper()
	if !o.fresh(s, -1, allowed) {
		return
	}
	a := opened(o.t, o.what, s)
	got := told(a)
	if !slices.Contains(allowed, got) {
		o.t.Fatalf("%s: %s, want one of %v", o.what, got, allowed)
	}
	for place := range none + 1 {
		if again := told(opened(o.t, o.what, turned(s, place))); again != got {
			o.t.Fatalf("%s: opened twice: %s, then %s", o.what, got, again)
		}
	}
	code(o.t, o.what, a.Commit(many(3)), api.OK)
	whole(o.t, o.what, s, a.Gen(), many(3))
}

// reopened plays what a crash left, that copy being rotten or not: an Open, cut off at each act, a crash, and another Open.
func (o *outlook) reopened(left *vstore.Store, rotten int, allowed ...string) {
	o.t.Helper()
	if !o.fresh(left, rotten, allowed) {
		return
	}
	for cut := 0; ; cut++ {
		s := turned(left, rotten)
		s.Cut(cut)
		if _, e := Open(s); e == api.OK {
			o.afterwards(turned(left, rotten), allowed...)
			return
		}
		for _, x := range crashes(s) {
			o.afterwards(turned(x, rotten), allowed...)
			o.afterwards(x, allowed...) // not rotten any more
		}
	}
}

// crashing plays an act, cut off at each of the store's, and what may be left of it; next is what the act would make.
func crashing(t *testing.T, start func() (*vstore.Store, *Archive), act func(a *Archive) api.Errno, next string) {
	t.Helper()
	for rotten := range none + 1 {
		for ahead := range 2 {
			for cut := 0; ; cut++ {
				o := lookOut(t, fmt.Sprintf("%s: cut %d, rotten %d, ahead %d", next, cut, rotten, ahead))
				s, a := start()
				if ahead == 1 && rotten != none {
					s.Rot(Copies()[rotten], 1, 0x55)
				}
				allowed := []string{told(a), next}
				s.Cut(cut)
				e := act(a)
				if e == api.OK {
					allowed = allowed[1:]
				}
				for _, left := range crashes(s) {
					o.reopened(left, rotten, allowed...)
					o.reopened(left, none, allowed...)
				}
				if e == api.OK {
					break
				}
			}
		}
	}
}

func TestP10_3TheFirstCommit(t *testing.T) {
	for _, refs := range [][]api.Ref{nil, {file("a", 1), file("b", 2)}} {
		start := func() (*vstore.Store, *Archive) { return archive(t, roomy) }
		commit := func(a *Archive) api.Errno { return a.Commit(refs) }
		crashing(t, start, commit, shown(1, refs))
	}
}

func TestP10_3AnotherCommit(t *testing.T) {
	small, great := []api.Ref{file("a", 1)}, []api.Ref{file("a", 2), dir("b"), file("c", 3)}
	pairs := [][2][]api.Ref{{small, great}, {great, small}, {small, {file("a", 2)}}, {small, small}, {small, nil}}
	for _, pair := range pairs {
		start := func() (*vstore.Store, *Archive) { return archive(t, roomy, nil, pair[0]) }
		commit := func(a *Archive) api.Errno { return a.Commit(pair[1]) }
		crashing(t, start, commit, shown(3, pair[1]))
	}
}

// There is just room for what is committed: what a crash leaves can still be made whole.
func TestP10_3ACommitInAFullStore(t *testing.T) {
	small, great := []api.Ref{file("a", 1)}, []api.Ref{file("a", 2), file("b", 3)}
	after := []api.Ref{file("e", 1), file("f", 2)}
	room := 3 * sizeOf(t, great)
	for rotten := range none + 1 {
		for cut := 0; ; cut++ {
			s, a := archive(t, room, small)
			s.Cut(cut)
			e := a.Commit(great)
			for _, left := range crashes(s) {
				x := turned(left, rotten)
				b := opened(t, "a full store", x)
				if got := told(b); got != shown(2, great) && (got != shown(1, small) || e == api.OK) {
					t.Fatalf("a full store: %s", got)
				}
				code(t, "a full store", b.Commit(after), api.OK)
				whole(t, "a full store", x, b.Gen(), after)
			}
			if e == api.OK {
				break
			}
		}
	}
}

// A Commit that there is no room for leaves what was, wherever its power goes.
func TestP10_3ARefusedCommit(t *testing.T) {
	images := [][]api.Ref{{file("a", 1)}, {file("a", 2), file("b", 3)}}
	for held := range 2 {
		for rotten := range none + 1 {
			for cut := 0; ; cut++ {
				s, a := archive(t, 3*sizeOf(t, images[0])*held+10, images[:held]...)
				was, files := told(a), listed(s)
				s.Cut(cut)
				e := a.Commit(images[1])
				if e == api.OK || told(a) != was {
					t.Fatalf("without room: %d", e)
				}
				for _, left := range crashes(s) {
					stays(t, turned(left, rotten), was)
				}
				if e == api.ErrFull {
					if listed(s) != files {
						t.Fatal("without room: something is left")
					}
					break
				}
				code(t, "without room", e, api.ErrOff)
			}
		}
	}
}

// stays holds that Open tells this, and once more.
func stays(t *testing.T, s *vstore.Store, want string) {
	t.Helper()
	for range 2 {
		if got := told(opened(t, "without room", s)); got != want {
			t.Fatalf("without room: %s, want %s", got, want)
		}
	}
}

func TestP10_3AScrub(t *testing.T) {
	for place := range 3 {
		for cut := 0; ; cut++ {
			s, a := archive(t, roomy, nil, many(2))
			was := told(a)
			s.Rot(Copies()[place], 1, 0x55)
			s.Cut(cut)
			_, e := a.Scrub()
			rotten := []int{place, none}
			if e == api.OK {
				rotten = []int{0, 1, 2, none} // any one, from now on
			}
			o := lookOut(t, fmt.Sprint("a Scrub, cut ", cut))
			for _, left := range crashes(s) {
				for _, r := range rotten {
					o.reopened(left, r, was)
				}
			}
			if e == api.OK {
				break
			}
		}
	}
}

// play is an archive through acts, rot, cuts and crashes, and what may be told of it.
type play struct {
	t       *testing.T
	random  *rand.Rand
	s       *vstore.Store
	a       *Archive
	allowed []string // what Open may tell
	rotten  int      // the one copy that may be rotten since something told OK
	opens   int
}

func (p *play) settled(image string) {
	p.allowed, p.rotten = []string{image}, none
}

func (p *play) rot() {
	if p.rotten == none {
		p.rotten = p.random.Intn(3)
	}
	now, _ := p.s.Stat(Copies()[p.rotten])
	if now.Size > 0 {
		p.s.Rot(Copies()[p.rotten], p.random.Intn(now.Size), byte(1+p.random.Intn(255)))
	}
}

func (p *play) commit() {
	refs := many(9)[:p.random.Intn(10)]
	if p.random.Intn(2) == 0 {
		refs = []api.Ref{file("a", p.random.Intn(9000))}
	}
	was := told(p.a)
	switch e := p.a.Commit(refs); e {
	case api.OK:
		p.settled(told(p.a))
		whole(p.t, "played", p.s, p.a.Gen(), refs)
	case api.ErrOff:
		p.allowed = append(p.allowed, shown(p.a.Gen()+1, refs))
	case api.ErrFull:
	default:
		p.t.Fatalf("Commit: %d", e)
	}
	if now := told(p.a); now != was && now != shown(p.a.Gen(), refs) {
		p.t.Fatalf("Commit: %s", now)
	}
}

func (p *play) scrub() {
	_, e := p.a.Scrub()
	switch e {
	case api.OK:
		p.settled(told(p.a))
	case api.ErrOff:
	default:
		p.t.Fatalf("Scrub: %d", e)
	}
}

// crash opens what is left of the store, cut off and crashing again some times.
func (p *play) crash() {
	for again := true; again; {
		p.s = p.s.Crash(p.random.Intn(5), p.random.Int(), p.random.Int(), p.random.Int())
		for range p.random.Intn(3) {
			p.rot()
		}
		if p.random.Intn(2) == 0 {
			p.s.Cut(p.random.Intn(16))
		}
		var e api.Errno
		p.a, e = Open(p.s)
		if e != api.OK && e != api.ErrOff {
			p.t.Fatalf("Open: %d", e)
		}
		again = e != api.OK
		p.opens++
	}
	got := told(p.a)
	if !slices.Contains(p.allowed, got) {
		p.t.Fatalf("Open tells %s, want one of %v", got, p.allowed)
	}
	p.settled(got)
}

func TestP10_3AnyLife(t *testing.T) {
	for life := range 600 {
		random := rand.New(rand.NewSource(int64(life)))
		room := []int{roomy, 3 * 700, 3 * 300, 3 * 120, 60}[life%5]
		s, a := archive(t, room)
		p := &play{t: t, random: random, s: s, a: a, rotten: none}
		p.settled(told(a))
		for range 40 {
			switch random.Intn(5) {
			case 0:
				p.s.Cut(random.Intn(20))
			case 1:
				p.rot()
			case 2, 3:
				p.commit()
			default:
				p.scrub()
			}
			if p.a.Dead() || random.Intn(8) == 0 {
				p.crash()
			}
		}
		if p.opens == 0 {
			t.Errorf("life %d had no Open", life)
		}
	}
}
