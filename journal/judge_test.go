package journal

import (
	"fmt"
	"regexp"
	"strings"
	"testing"

	"linnet/api"
	"linnet/vstore"
)

const roomy = 1 << 20

// rootOf is 32 bytes, none of them a nought, others for another number.
func rootOf(n int) []byte {
	root := make([]byte, 32)
	for i := range root {
		root[i] = byte((n*31+i*7)%255 + 1)
	}
	return root
}

// intent is an Intent with all fields, other in each of them for another number.
func intent(n int) Intent {
	return Intent{Path: fmt.Sprintf("d/a%d", n), Temp: fmt.Sprintf(".t/t%d", n), Aside: fmt.Sprintf(".q/x%d", n), Root: rootOf(n), Size: n % 8193, Meta: n * 3}
}

// longPath is one of 60 bytes, others for another letter.
func longPath(letter string) string {
	return strings.Repeat(letter, 20) + "/" + strings.Repeat(letter, 20) + "/" + strings.Repeat(letter, 18)
}

// longest is an Intent with the longest record.
func longest() Intent {
	return Intent{Path: longPath("p"), Temp: longPath("t"), Aside: longPath("a"), Root: rootOf(5), Size: 1<<31 - 1, Meta: 1<<31 - 1}
}

// someIntents may all be added: every field at its edges.
func someIntents() []Intent {
	with := func(change func(i *Intent)) Intent {
		i := intent(7)
		change(&i)
		return i
	}
	out := []Intent{
		{Path: "a"}, intent(1), longest(),
		{Path: "a", Root: []byte{}}, {Path: "a", Root: make([]byte, 32)}, {Path: "a", Root: rootOf(3)},
		{Path: Home()}, {Path: ".a", Temp: ".a", Aside: ".a"}, {Path: "same", Temp: "same", Aside: "same"},
	}
	for _, p := range []string{"a", ".a", "a/b", ".a/.b", longPath("x"), "0", "a.b-c_d", "...", Home() + "/0000000001"} {
		out = append(out, with(func(i *Intent) { i.Path = p }), with(func(i *Intent) { i.Temp = p }), with(func(i *Intent) { i.Aside = p }))
	}
	out = append(out, with(func(i *Intent) { i.Temp = "" }), with(func(i *Intent) { i.Aside = "" }))
	for _, n := range []int{0, 1, 8192, 8193, 1 << 30, 1<<31 - 1} {
		out = append(out, with(func(i *Intent) { i.Size = n }), with(func(i *Intent) { i.Meta = n }))
	}
	return out
}

// noIntents may none be added, each for one field.
func noIntents() []Intent {
	var out []Intent
	bad := func(change func(i *Intent)) {
		i := intent(7)
		change(&i)
		out = append(out, i)
	}
	bad(func(i *Intent) { i.Path = "" })
	out = append(out, Intent{})
	for _, p := range []string{"A", "/", "a/", "/a", "a//b", ".", "..", "a/..", "a b", "a\n", "a\x00", "\xff", "ä", longPath("x") + "x", strings.Repeat("x", 21)} {
		bad(func(i *Intent) { i.Path = p })
		bad(func(i *Intent) { i.Temp = p })
		bad(func(i *Intent) { i.Aside = p })
	}
	for _, n := range []int{1, 16, 31, 33, 64} {
		bad(func(i *Intent) { i.Root = make([]byte, n) })
	}
	for _, n := range []int{-1, -1 << 31, -1 << 63, 1 << 31, 1<<32 + 5, 1<<63 - 1} {
		bad(func(i *Intent) { i.Size = n })
		bad(func(i *Intent) { i.Meta = n })
	}
	return out
}

var (
	pathForm = regexp.MustCompile(`^[a-z0-9._-]{1,20}(/[a-z0-9._-]{1,20})*$`)
	dotsForm = regexp.MustCompile(`(^|/)\.\.?(/|$)`)
)

// isIntent is the judge of what may be added.
func isIntent(i Intent) bool {
	for at, p := range []string{i.Path, i.Temp, i.Aside} {
		may := pathForm.MatchString(p) && !dotsForm.MatchString(p) && len(p) <= 60
		if !may && (at == 0 || p != "") {
			return false
		}
	}
	return (len(i.Root) == 0 || len(i.Root) == 32) && uint64(i.Size) < 1<<31 && uint64(i.Meta) < 1<<31
}

// judge is a journal as the document has it.
type judge struct {
	pending []Intent
	last    int
}

func (g *judge) add(i Intent) int {
	g.last++
	i.ID = g.last
	i.Root = append([]byte(nil), i.Root...)
	g.pending = append(append([]Intent(nil), g.pending...), i)
	return g.last
}

func (g *judge) done(id int) bool {
	var left []Intent
	for _, i := range g.pending {
		if i.ID != id {
			left = append(left, i)
		}
	}
	was := len(g.pending)
	g.pending = left
	return len(left) < was
}

// shown is what a journal tells, all fields of it.
func shown(pending []Intent, last int) string { return fmt.Sprint(pending, last) }

func (g judge) told() string { return shown(g.pending, g.last) }

func told(j *Journal) string { return shown(j.Pending(), j.Last()) }

// holds holds that a Journal tells what the judge does.
func holds(t *testing.T, what string, j *Journal, g judge) {
	t.Helper()
	if told(j) != g.told() {
		t.Fatalf("%s:\n got %s\nwant %s", what, told(j), g.told())
	}
}

func code(t *testing.T, what string, got, want api.Errno) {
	t.Helper()
	if got != want {
		t.Fatalf("%s: %d, want %d", what, got, want)
	}
}

func store(t *testing.T, room int) *vstore.Store {
	t.Helper()
	s, e := vstore.New(room)
	code(t, "a store", e, api.OK)
	return s
}

func opened(t *testing.T, what string, s *vstore.Store) *Journal {
	t.Helper()
	j, e := Open(s)
	if e != api.OK || j == nil || j.Dead() {
		t.Fatalf("%s: Open is %v and %d", what, j != nil, e)
	}
	return j
}

// notOpened holds that Open refuses, and hands out nothing.
func notOpened(t *testing.T, what string, s *vstore.Store, want api.Errno) {
	t.Helper()
	if j, e := Open(s); j != nil || e != want {
		t.Fatalf("%s: Open is %v and %d, want none and %d", what, j != nil, e, want)
	}
}

// adds holds that an Intent is added, with the next ID.
func adds(t *testing.T, what string, j *Journal, g *judge, i Intent) {
	t.Helper()
	want := g.add(i)
	if id, e := j.Add(i); id != want || e != api.OK {
		t.Fatalf("%s: Add(%v) is %d, %d, want %d", what, i, id, e, want)
	}
}

// refuses holds that an Intent is refused, and that nothing tells of it.
func refuses(t *testing.T, what string, j *Journal, i Intent, want api.Errno) {
	t.Helper()
	was := told(j)
	if id, e := j.Add(i); id != 0 || e != want {
		t.Fatalf("%s: Add(%v) is %d, %d, want 0, %d", what, i, id, e, want)
	}
	if told(j) != was {
		t.Fatalf("%s: refused, it tells %s, ahead of it %s", what, told(j), was)
	}
}

// ends holds that Done tells what the judge does.
func ends(t *testing.T, what string, j *Journal, g *judge, id int) {
	t.Helper()
	want := api.OK
	if !g.done(id) {
		want = api.ErrNone
	}
	code(t, fmt.Sprintf("%s: Done(%d)", what, id), j.Done(id), want)
	holds(t, what, j, *g)
}

// journal is one in a store of its own, with n Intents of which these are done.
func journal(t *testing.T, room, n int, done ...int) (*vstore.Store, *Journal, judge) {
	t.Helper()
	s := store(t, room)
	j := opened(t, "a new store", s)
	var g judge
	for k := range n {
		adds(t, "at first", j, &g, intent(k+1))
	}
	for _, id := range done {
		ends(t, "at first", j, &g, id)
	}
	return s, j, g
}

// safe holds that what is told now is told behind any crash, and by another Open.
func safe(t *testing.T, what string, s *vstore.Store, g judge) {
	t.Helper()
	for _, left := range append(crashes(s), s) {
		holds(t, what+", opened", opened(t, what, left), g)
	}
}

// crashes is what may be left, by picks of names and of sectors.
func crashes(s *vstore.Store) []*vstore.Store {
	var out []*vstore.Store
	for names := range 5 {
		for _, sectors := range []int{0, -1, 0x15555555, 0x2aaaaaaa} {
			out = append(out, s.Crash(names, sectors, ^sectors, sectors))
		}
	}
	return out
}

// listed is all that a store tells of its files, without Stamps.
func listed(s *vstore.Store) string {
	out := ""
	for _, now := range s.List() {
		b, _ := s.Read(now.Path)
		out += fmt.Sprint(now.Path, now.Kind, now.Meta, b, "\n")
	}
	return out
}

// lay puts a file there, whatever there was.
func lay(s *vstore.Store, p string, b []byte) {
	s.Create(p)
	s.Truncate(p, 0)
	s.Write(p, 0, b)
	s.Sync(p)
	s.SyncDir()
}

// fill takes all room that is left but so many bytes; one file is not always enough.
func fill(t *testing.T, s *vstore.Store, room, free int) {
	t.Helper()
	for n := 0; s.Used() < room-free; n++ {
		lay(s, fmt.Sprint("fill", n), make([]byte, min(vstore.MaxSize, room-free-s.Used())))
	}
	if s.Used() != room-free {
		t.Fatalf("used %d of %d", s.Used(), room)
	}
}
