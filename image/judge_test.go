package image

import (
	"bytes"
	"fmt"
	"regexp"
	"sort"
	"strings"
	"testing"

	"linnet/api"
	"linnet/codec"
	"linnet/path"
	"linnet/vote"
	"linnet/vstore"
)

const roomy = 1 << 20

// file is a Ref, other in each field for another number.
func file(p string, n int) api.Ref {
	root := make([]byte, 32)
	for i := range root {
		root[i] = byte(n*31 + i*7 + len(p))
	}
	return api.Ref{Path: p, Kind: api.File, Size: n % 8193, Meta: n * 3, Stamp: 1<<63 + uint64(n), Root: root}
}

func dir(p string) api.Ref {
	return api.Ref{Path: p, Kind: api.Dir, Meta: 7, Stamp: 12}
}

// longPath is one of 60 bytes that begins with a number.
func longPath(i int) string {
	return fmt.Sprintf("%020d/%s/%s", i, strings.Repeat("x", 20), strings.Repeat("y", 18))
}

// many is n Refs that take as much room as Refs can.
func many(n int) []api.Ref {
	var refs []api.Ref
	for i := range n {
		refs = append(refs, file(longPath(i), i))
	}
	return refs
}

// someImages are images of many lengths, the greatest one among them.
func someImages() [][]api.Ref {
	return [][]api.Ref{
		nil,
		{file("a", 1)},
		{dir("d")},
		{file("a", 1), file("b", 2)},
		{file("a", 2), file("b", 2)},
		{dir("d"), file("d/a", 0), dir("d/b"), file("d/b/c", 8192), file("d.a", 5)},
		{{Path: "e", Kind: api.Dir, Size: 8192, Meta: 1<<31 - 1, Stamp: 1<<64 - 1}, {Path: "f", Kind: api.File, Size: 8192, Meta: 1<<31 - 1, Stamp: 1<<64 - 1, Root: make([]byte, 32)}},
		many(9),
		many(100),
	}
}

var (
	partForm = regexp.MustCompile(`^[a-z0-9._-]{1,20}$`)
	dots     = regexp.MustCompile(`^\.\.?$`)
)

// isPath is the judge of paths of users.
func isPath(s string) bool {
	for _, part := range strings.Split(s, "/") {
		if !partForm.MatchString(part) || dots.MatchString(part) {
			return false
		}
	}
	return len(s) <= 60 && !strings.HasPrefix(s, ".")
}

// isImage is the judge of May: paths are held against the same paths sorted by a key that has no two alike.
func isImage(refs []api.Ref) bool {
	var keys []string
	seen := map[string]bool{}
	for _, r := range refs {
		fields := r.Size == min(max(r.Size, 0), 8192) && uint(r.Meta) < 1<<31 && (r.Kind == 1 && len(r.Root) == 32 || r.Kind == 2 && len(r.Root) == 0)
		key := strings.ReplaceAll(r.Path, "/", "\x00")
		if !fields || !isPath(r.Path) || seen[key] {
			return false
		}
		seen[key] = true
		keys = append(keys, key)
	}
	return len(refs) <= 100 && sort.StringsAreSorted(keys)
}

// shown is an image, all fields of it.
func shown(gen int, refs []api.Ref) string { return fmt.Sprint(gen, refs) }

// told is what an Archive tells.
func told(a *Archive) string { return shown(a.Gen(), a.All()) }

// holds holds that an Archive tells this image, by all its calls.
func holds(t *testing.T, what string, a *Archive, gen int, refs []api.Ref) {
	t.Helper()
	if told(a) != shown(gen, refs) {
		t.Fatalf("%s:\n got %s\nwant %s", what, told(a), shown(gen, refs))
	}
	for _, want := range refs {
		if got, ok := a.Get(want.Path); !ok || fmt.Sprint(got) != fmt.Sprint(want) {
			t.Errorf("%s: Get(%q) is %v, %v", what, want.Path, got, ok)
		}
	}
}

func code(t *testing.T, what string, got, want api.Errno) {
	t.Helper()
	if got != want {
		t.Fatalf("%s: %d, want %d", what, got, want)
	}
}

func store(t *testing.T, room int) *vstore.Store {
	t.Helper()
	s, e := vstore.New(room)
	code(t, "a store", e, api.OK)
	return s
}

func opened(t *testing.T, what string, s *vstore.Store) *Archive {
	t.Helper()
	a, e := Open(s)
	if e != api.OK || a == nil {
		t.Fatalf("%s: Open is %v and %d", what, a != nil, e)
	}
	return a
}

// notOpened holds that Open refuses, and hands out nothing.
func notOpened(t *testing.T, what string, s *vstore.Store, want api.Errno) {
	t.Helper()
	if a, e := Open(s); a != nil || e != want {
		t.Fatalf("%s: Open is %v and %d, want none and %d", what, a != nil, e, want)
	}
}

// archive is one in a store of its own, with these Commits.
func archive(t *testing.T, room int, images ...[]api.Ref) (*vstore.Store, *Archive) {
	t.Helper()
	s := store(t, room)
	a := opened(t, "a new store", s)
	for _, refs := range images {
		code(t, "Commit", a.Commit(refs), api.OK)
	}
	return s, a
}

// copyOf is a copy's bytes, none of one that is not there.
func copyOf(s *vstore.Store, place int) []byte {
	b, _ := s.Read(Copies()[place])
	return b
}

// whole holds that all three copies are a page of this Gen, alike, and hold these Refs, now and behind any crash.
func whole(t *testing.T, what string, s *vstore.Store, gen int, refs []api.Ref) {
	t.Helper()
	page := copyOf(s, 0)
	p, e := vote.Decode(page)
	if e != api.OK || p.Gen != gen {
		t.Fatalf("%s: the first copy is of Gen %d, %d, want Gen %d", what, p.Gen, e, gen)
	}
	got, ok := refsOf(p.Body)
	if !ok || shown(gen, got) != shown(gen, refs) {
		t.Fatalf("%s: the first copy holds %v", what, got)
	}
	for _, left := range append(crashes(s), s) {
		for place := range 3 {
			if !bytes.Equal(copyOf(left, place), page) {
				t.Fatalf("%s: copy %d is not alike, or not safe", what, place)
			}
		}
	}
}

// crashes is what may be left, by picks of names and of sectors.
func crashes(s *vstore.Store) []*vstore.Store {
	var out []*vstore.Store
	for names := range 3 {
		for _, sectors := range []int{0, -1, 0x15555555, 0x2aaaaaaa} {
			out = append(out, s.Crash(names, sectors, ^sectors, sectors))
		}
	}
	return out
}

// damage is a way in which a copy is no page of the image any more; it may be done to any of the three.
type damage struct {
	name string
	do   func(s *vstore.Store, c string)
}

// lay puts a file there, whatever there was.
func lay(s *vstore.Store, c string, b []byte) {
	s.Mkdir(path.Parent(c))
	s.Create(c)
	s.Truncate(c, 0)
	s.Write(c, 0, b)
	s.Sync(c)
	s.SyncDir()
}

func laid(name string, b []byte) damage {
	return damage{name, func(s *vstore.Store, c string) { lay(s, c, b) }}
}

// pageWith is a page, whatever its Body.
func pageWith(gen int, body []byte) []byte {
	b, _ := vote.Encode(vote.Page{Gen: gen, Body: body})
	return b
}

// strangeBodies are none of an image.
func strangeBodies() [][]byte {
	bodyOf := func(refs ...api.Ref) []byte {
		var w codec.Writer
		for _, r := range refs {
			w.Text(r.Path).Num(r.Kind).Num(r.Size).Num(r.Meta).Word(r.Stamp).Bytes(r.Root)
		}
		b, _ := w.Done()
		return b
	}
	one, other := bodyOf(file("a", 1)), bodyOf(dir("a"))
	return [][]byte{
		other[:len(other)-1], other[:len(other)-4], other[:len(other)-5], append(bytes.Clone(one), other[:3]...),
		[]byte("x"), make([]byte, 60000), one[:len(one)-1], append(bytes.Clone(one), 0),
		bodyOf(file("b", 1), file("a", 1)), bodyOf(file("a", 1), file("a", 1)), bodyOf(file(".a", 1)), bodyOf(many(101)...),
		bodyOf(api.Ref{Path: "a", Kind: 3}), bodyOf(api.Ref{Path: "a", Kind: 2, Root: make([]byte, 32)}), bodyOf(api.Ref{Path: "a", Kind: 1, Root: make([]byte, 33)}),
		bodyOf(api.Ref{Path: "a", Kind: 2, Size: 8193}),
	}
}

// damages are those that leave a file.
func damages() []damage {
	out := []damage{
		{"the first byte rots", func(s *vstore.Store, c string) { s.Rot(c, 0, 1) }},
		{"a Gen rots", func(s *vstore.Store, c string) { s.Rot(c, 3, 0x40) }},
		{"the last byte rots", func(s *vstore.Store, c string) {
			now, _ := s.Stat(c)
			s.Rot(c, now.Size-1, 0x80)
		}},
		{"cut off", func(s *vstore.Store, c string) {
			now, _ := s.Stat(c)
			s.Truncate(c, now.Size-1)
		}},
		{"a nought more", func(s *vstore.Store, c string) {
			now, _ := s.Stat(c)
			s.Write(c, now.Size, []byte{0})
			s.Sync(c)
		}},
		laid("empty", nil),
		laid("a short one", []byte("bad")),
		laid("the longest one", bytes.Repeat([]byte("bad."), vstore.MaxSize/4)),
	}
	for i, body := range strangeBodies() {
		out = append(out, laid(fmt.Sprint("a page of no image, ", i), pageWith(1<<31-1, body)))
	}
	return out
}

// gone is the damage that leaves none.
func gone() damage {
	return damage{"gone", func(s *vstore.Store, c string) {
		s.Remove(c)
		s.SyncDir()
	}}
}

// chosen are the places that a mask of three names.
func chosen(mask int) []string {
	var out []string
	for i, c := range Copies() {
		if mask>>i&1 == 1 {
			out = append(out, c)
		}
	}
	return out
}

// listed is all that a store tells of its files, without Stamps.
func listed(s *vstore.Store) string {
	out := ""
	for _, now := range s.List() {
		b, _ := s.Read(now.Path)
		out += fmt.Sprint(now.Path, now.Kind, now.Meta, b, "\n")
	}
	return out
}
