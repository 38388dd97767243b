package journal

import (
	"fmt"
	"math/rand"
	"slices"
	"testing"

	"linnet/api"
	"linnet/codec"
	"linnet/vstore"
)

// sectorPicks are the ways in which n sectors may fall: all of them, of many sectors those in which few are held, few are not, or every other one is.
func sectorPicks(n int) []int {
	var out []int
	if n <= 6 {
		for pick := range 1 << n {
			out = append(out, pick)
		}
		return out
	}
	all := 1<<n - 1
	out = []int{0, all, 0x15555555 & all, 0x2aaaaaaa & all}
	for i := range n {
		out = append(out, 1<<i, all&^(1<<i), 1<<i-1, all&^(1<<i-1))
	}
	return out
}

// fallen is what may be left of a store in which one record of so many sectors is being made; one that is like another is left out.
func fallen(s *vstore.Store, sectors int) []*vstore.Store {
	var out []*vstore.Store
	seen := map[string]bool{}
	for names := range 6 {
		for _, pick := range sectorPicks(sectors) {
			left := s.Crash(names, pick, pick, pick)
			if key := listed(left); !seen[key] {
				seen[key] = true
				out = append(out, left)
			}
		}
	}
	return out
}

// afterwards holds that Open is OK and tells one of these, twice the same, however an Open of it is cut off, and that the journal goes on.
func afterwards(t *testing.T, what string, left *vstore.Store, allowed ...judge) {
	t.Helper()
	j := opened(t, what, left.Crash())
	at := slices.IndexFunc(allowed, func(g judge) bool { return g.told() == told(j) })
	if at < 0 {
		t.Fatalf("%s:\n got %s\nwant one of %v", what, told(j), allowed)
	}
	g := allowed[at]
	for cut := 0; ; cut++ {
		s := left.Crash()
		s.Cut(cut)
		k, e := Open(s)
		for _, x := range crashes(s) {
			holds(t, what+", opened twice", opened(t, what, x), g)
		}
		if s.Ops() <= cut {
			code(t, what, e, api.OK)
			holds(t, what+", opened", k, g)
			break
		}
		if k != nil || e != api.ErrOff {
			t.Fatalf("%s, cut off: Open is %v and %d", what, k != nil, e)
		}
	}
	goesOn(t, what, left, g)
}

// goesOn holds that a Journal that was opened behind a crash does as any other one.
func goesOn(t *testing.T, what string, left *vstore.Store, g judge) {
	t.Helper()
	s := left.Crash()
	j := opened(t, what, s)
	adds(t, what, j, &g, Intent{Path: "z"})
	holds(t, what, opened(t, what, s.Crash(-1, -1)), g)
	adds(t, what, j, &g, intent(9))
	for len(g.pending) > 0 {
		ends(t, what, j, &g, g.pending[0].ID)
	}
	holds(t, what, opened(t, what, s.Crash()), g)
}

// crashing plays an act, cut off at each of the store's, and all that may be left of it; next is what the act would make.
func crashing(t *testing.T, what string, sectors int, start func() (*vstore.Store, *Journal, judge), act func(j *Journal) api.Errno, next func(g *judge)) {
	t.Helper()
	for cut := 0; ; cut++ {
		s, j, was := start()
		now := was
		next(&now)
		s.Cut(cut)
		e := act(j)
		allowed := []judge{was, now}
		if e == api.OK {
			allowed = allowed[1:]
		} else {
			code(t, what, e, api.ErrOff)
			holds(t, what, j, was)
		}
		for _, left := range fallen(s, sectors) {
			afterwards(t, fmt.Sprintf("%s, cut %d", what, cut), left, allowed...)
		}
		if e == api.OK {
			return
		}
	}
}

func sectorsOf(t *testing.T, i Intent) int {
	return (recordSize(t, i) + api.Sector - 1) / api.Sector
}

func TestP11_2TheFirstOpen(t *testing.T) {
	for cut := range 3 {
		s := store(t, roomy)
		s.Cut(cut)
		Open(s)
		for _, left := range crashes(s) {
			afterwards(t, "the first Open", left, judge{})
		}
	}
}

func TestP11_2Add(t *testing.T) {
	for _, i := range []Intent{{Path: "a"}, {Path: "a", Root: rootOf(1)}, {Path: "ab", Root: make([]byte, 32)}, intent(8), longest()} {
		for n := range 3 {
			start := func() (*vstore.Store, *Journal, judge) { return journal(t, roomy, n) }
			add := func(j *Journal) api.Errno {
				_, e := j.Add(i)
				return e
			}
			crashing(t, fmt.Sprint("Add behind ", n), sectorsOf(t, i), start, add, func(g *judge) { g.add(i) })
		}
	}
}

// The IDs of those that were done are not given again by an Add that is cut off.
func TestP11_2AddBehindDone(t *testing.T) {
	for _, done := range [][]int{{3}, {1}, {3, 2}, {1, 2, 3}} {
		start := func() (*vstore.Store, *Journal, judge) { return journal(t, roomy, 3, done...) }
		add := func(j *Journal) api.Errno {
			_, e := j.Add(Intent{Path: "a"})
			return e
		}
		crashing(t, fmt.Sprint("Add behind Done of ", done), sectorsOf(t, Intent{Path: "a"}), start, add, func(g *judge) { g.add(Intent{Path: "a"}) })
	}
}

func TestP11_2Done(t *testing.T) {
	for n := 1; n <= 3; n++ {
		for id := 1; id <= n; id++ {
			start := func() (*vstore.Store, *Journal, judge) { return journal(t, roomy, n) }
			done := func(j *Journal) api.Errno { return j.Done(id) }
			crashing(t, fmt.Sprintf("Done of %d of %d", id, n), 0, start, done, func(g *judge) { g.done(id) })
		}
	}
}

// What a cut Add left is there when the next one begins, and that is cut off, too.
func TestP11_2AddBehindAnAddThatWasCutOff(t *testing.T) {
	first, next := longest(), Intent{Path: "a"}
	for cut := 0; ; cut++ {
		s, j, g := journal(t, roomy, 1)
		s.Cut(cut)
		if _, e := j.Add(first); e == api.OK {
			return
		}
		for _, left := range []*vstore.Store{s.Crash(), s.Crash(1), s.Crash(1, 0x5555), s.Crash(1, -2)} {
			if len(opened(t, "cut off", left.Crash()).Pending()) != 1 {
				continue
			}
			start := func() (*vstore.Store, *Journal, judge) {
				x := left.Crash()
				return x, opened(t, "behind one that was cut off", x), g
			}
			add := func(j *Journal) api.Errno {
				_, e := j.Add(next)
				return e
			}
			crashing(t, "behind one that was cut off", sectorsOf(t, next), start, add, func(g *judge) { g.add(next) })
		}
	}
}

// One that there was no room for is not there, nor is one that was refused ahead of another one.
func TestP11_2AddThatWasRefused(t *testing.T) {
	s, j, g := journal(t, 5000, 2)
	fill(t, s, 5000, 100)
	for range 3 {
		refuses(t, "without room", j, longest(), api.ErrFull)
		refuses(t, "may not be", j, Intent{}, api.ErrArg)
		for _, left := range fallen(s, 6) {
			afterwards(t, "refused", roomyAgain(left), g)
		}
	}
	adds(t, "with room", j, &g, Intent{Path: "a"})
	for _, left := range fallen(s, 6) {
		afterwards(t, "behind some that were refused", roomyAgain(left), g)
	}
}

// roomyAgain makes room.
func roomyAgain(s *vstore.Store) *vstore.Store {
	s.Truncate("fill0", 0)
	return s
}

// The first that is none ends it, for good: nothing of what is behind it comes back.
func TestP11_2TheFirstThatIsNoneEndsIt(t *testing.T) {
	spoils := []func(s *vstore.Store, file string){
		func(s *vstore.Store, file string) { s.Rot(file, 0, 1) },
		func(s *vstore.Store, file string) { s.Rot(file, 20, 0x80) },
		func(s *vstore.Store, file string) { s.Truncate(file, 0) },
		func(s *vstore.Store, file string) { lay(s, file, encode(Intent{Path: "A"})) },
		func(s *vstore.Store, file string) { s.Truncate(file, 10) },
	}
	for at := 1; at <= 4; at++ {
		for _, spoil := range spoils {
			s, _, all := journal(t, roomy, 4)
			spoil(s, fileOf(at))
			ahead := judge{all.pending[:at-1], at - 1}
			want := ahead.told()
			s = s.Crash()
			for cut := range 6 {
				x := s.Crash()
				x.Cut(cut)
				Open(x)
				for _, left := range crashes(x) {
					if got := told(opened(t, "one is none", left)); got != want {
						t.Fatalf("%d is none, cut %d:\n got %s\nwant %s", at, cut, got, want)
					}
				}
			}
			goesOn(t, "one is none", s, ahead)
		}
	}
}

// No byte of a record can turn without its being none, nor can one be longer, or shorter.
func TestP11_2WhatIsNoRecord(t *testing.T) {
	for _, i := range []Intent{{Path: "a"}, intent(5)} {
		s, _, _ := journal(t, roomy, 0)
		opened(t, "one", s).Add(i)
		b, _ := s.Read(fileOf(1))
		broken := [][]byte{nil, append(slices.Clone(b), 0), append(slices.Clone(b), b...)}
		for at := range b {
			turned := slices.Clone(b)
			turned[at] ^= byte(1 + at%255)
			noughts := append(make([]byte, at+1), b[at+1:]...)
			broken = append(broken, turned, noughts, b[:at])
		}
		for _, bad := range broken {
			x := s.Crash()
			lay(x, fileOf(1), bad)
			if j := opened(t, "broken", x); told(j) != "[] 0" {
				t.Fatalf("%v is a record: %s", bad, told(j))
			}
		}
	}
}

// Sealed, but no Intent's.
func TestP11_2WhatIsNoIntent(t *testing.T) {
	var sealed [][]byte
	for _, i := range noIntents() {
		sealed = append(sealed, encode(i))
	}
	whole, _ := codec.Unseal(encode(intent(3)))
	for n := range whole {
		sealed = append(sealed, codec.Seal(whole[:n]))
	}
	sealed = append(sealed, codec.Seal(append(slices.Clone(whole), 0)), codec.Seal(append(slices.Clone(whole), whole...)), codec.Seal(encode(intent(3))))
	for n, b := range sealed {
		s, _, _ := journal(t, roomy, 0)
		lay(s, fileOf(1), b)
		if told(opened(t, "no Intent", s)) != "[] 0" {
			t.Fatalf("%d: %v was read", n, b)
		}
	}
}

// life is a journal through acts, cuts and crashes, and what may be told of it.
type life struct {
	t       *testing.T
	random  *rand.Rand
	s       *vstore.Store
	j       *Journal
	allowed []judge // what Open may tell; the first one is what the Journal tells
	given   int     // the greatest ID that was told
	opens   int
}

func (l *life) add() {
	i := intent(l.random.Intn(1000))
	switch l.random.Intn(4) {
	case 0:
		i = Intent{Path: "a"}
	case 1:
		i = longest()
	}
	next := l.allowed[0]
	next.add(i)
	id, e := l.j.Add(i)
	switch e {
	case api.OK:
		if id <= l.given {
			l.t.Fatalf("%d is given behind %d", id, l.given)
		}
		l.given = id
		l.allowed = []judge{next}
	case api.ErrOff:
		l.allowed = append(l.allowed, next)
	case api.ErrFull:
	default:
		l.t.Fatalf("Add: %d", e)
	}
	holds(l.t, "Add", l.j, l.allowed[0])
}

func (l *life) done() {
	next := l.allowed[0]
	id := l.random.Intn(next.last + 2)
	if n := len(next.pending); n > 0 && l.random.Intn(3) > 0 {
		id = next.pending[l.random.Intn(n)].ID
	}
	there := next.done(id)
	e := l.j.Done(id)
	switch {
	case e == api.OK && there:
		l.allowed = []judge{next}
	case e == api.ErrOff:
		l.allowed = append(l.allowed, next)
	case e != api.ErrNone || there:
		l.t.Fatalf("Done: %d", e)
	}
	holds(l.t, "Done", l.j, l.allowed[0])
}

// crash opens what is left of the store, cut off and crashing again some times.
func (l *life) crash() {
	for again := true; again; {
		l.s = l.s.Crash(l.random.Intn(7), l.random.Int(), l.random.Int())
		if l.random.Intn(2) == 0 {
			l.s.Cut(l.random.Intn(12))
		}
		j, e := Open(l.s)
		if e != api.OK && e != api.ErrOff {
			l.t.Fatalf("Open: %d", e)
		}
		again = e != api.OK
		l.j = j
		l.opens++
	}
	at := slices.IndexFunc(l.allowed, func(g judge) bool { return g.told() == told(l.j) })
	if at < 0 {
		l.t.Fatalf("Open tells %s, want one of %v", told(l.j), l.allowed)
	}
	l.allowed = []judge{l.allowed[at]}
	l.given = max(l.given, l.j.Last())
}

func TestP11_2AnyLife(t *testing.T) {
	opens, given := 0, 0
	for seed := range 800 {
		room := []int{roomy, 3000, 700, 300, 60}[seed%5]
		s := store(t, room)
		l := &life{t: t, random: rand.New(rand.NewSource(int64(seed))), s: s, j: opened(t, "a new life", s), allowed: []judge{{}}}
		for range 60 {
			switch l.random.Intn(8) {
			case 0:
				l.s.Cut(l.random.Intn(30))
			case 1, 2, 3, 4:
				l.add()
			default:
				l.done()
			}
			if l.j.Dead() || l.random.Intn(9) == 0 {
				l.crash()
			}
		}
		opens += l.opens
		given = max(given, l.given)
	}
	if opens < 4000 || given < 20 {
		t.Errorf("%d Opens, IDs up to %d", opens, given)
	}
}
