package sched

import (
	"fmt"
	"reflect"
	"regexp"
	"slices"
	"strings"
	"testing"

	"linnet/api"
)

// judge is a ring of another shape: it lists all visits there are, and puts those behind the last one ahead of the others.
type judge struct {
	blocks map[string]int
	last   *Visit
}

func newJudge() *judge {
	return &judge{blocks: map[string]int{}}
}

var oneValid = regexp.MustCompile(`^[a-z0-9._-]{1,20}(/[a-z0-9._-]{1,20})*$`)

func judgeValid(p string) bool {
	if len(p) > 60 || !oneValid.MatchString(p) || strings.HasSuffix(p, "\n") {
		return false
	}
	parts := strings.Split(p, "/")
	return !slices.Contains(parts, ".") && !slices.Contains(parts, "..")
}

// key sorts by bytes as paths do by parts: no byte of a part is as low as what ends one.
func key(p string) string {
	return strings.ReplaceAll(p, "/", "\x00")
}

func compare(a, b Visit) int {
	if c := strings.Compare(key(a.Path), key(b.Path)); c != 0 {
		return c
	}
	return a.Block - b.Block
}

func (g *judge) set(p string, n int) api.Errno {
	if !judgeValid(p) || n < 0 || n > 4096 {
		return api.ErrArg
	}
	if _, there := g.blocks[p]; !there && len(g.blocks) >= 100 {
		return api.ErrFull
	}
	g.blocks[p] = n
	return api.OK
}

func (g *judge) drop(p string) bool {
	_, there := g.blocks[p]
	delete(g.blocks, p)
	return there
}

func (g *judge) total() int {
	total := 0
	for _, n := range g.blocks {
		total += n
	}
	return total
}

func (g *judge) paths() []string {
	paths := []string{}
	for p := range g.blocks {
		paths = append(paths, p)
	}
	slices.SortFunc(paths, func(a, b string) int { return strings.Compare(key(a), key(b)) })
	return paths
}

func (g *judge) all() []Visit {
	all := []Visit{}
	for p, n := range g.blocks {
		for b := range n {
			all = append(all, Visit{p, b})
		}
	}
	slices.SortFunc(all, compare)
	return all
}

func (g *judge) next(q int) []Visit {
	var ahead, behind []Visit
	for _, v := range g.all() {
		if g.last == nil || compare(v, *g.last) > 0 {
			behind = append(behind, v)
		} else {
			ahead = append(ahead, v)
		}
	}
	out := append(behind, ahead...)
	out = out[:max(0, min(q, 10000, len(out)))]
	if len(out) > 0 {
		last := out[len(out)-1]
		g.last = &last
	}
	return out
}

// pair is a Sched and its judge, to which the same is done.
type pair struct {
	t *testing.T
	s *Sched
	g *judge
}

func newPair(t *testing.T) *pair {
	return &pair{t, New(), newJudge()}
}

func (p *pair) set(path string, n int) {
	p.t.Helper()
	if got, want := p.s.Set(path, n), p.g.set(path, n); got != want {
		p.t.Fatalf("Set(%.80q, %d) is %d and not %d", path, n, got, want)
	}
	p.stands()
}

func (p *pair) drop(path string) {
	p.t.Helper()
	if got, want := p.s.Drop(path), p.g.drop(path); got != want {
		p.t.Fatalf("Drop(%.80q) is %v", path, got)
	}
	p.stands()
}

func (p *pair) next(q int) []Visit {
	p.t.Helper()
	got, want := p.s.Next(q), p.g.next(q)
	if !slices.Equal(got, want) {
		p.t.Fatalf("Next(%d) of %d:\n got %s\nwant %s", q, p.g.total(), short(got), short(want))
	}
	p.stands()
	return got
}

// stands holds what is there.
func (p *pair) stands() {
	p.t.Helper()
	same(p.t, "Total", p.s.Total(), p.g.total())
	same(p.t, "Paths", append([]string{}, p.s.Paths()...), p.g.paths())
}

// short is visits as words: of many their ends.
func short(visits []Visit) string {
	var out []string
	for i, v := range visits {
		if i < 10 || i >= len(visits)-10 {
			out = append(out, fmt.Sprint(v.Path, " ", v.Block))
		}
	}
	return fmt.Sprintf("%d: %s", len(visits), strings.Join(out, ", "))
}

func same(t *testing.T, what string, got, want any) {
	t.Helper()
	if !reflect.DeepEqual(got, want) {
		t.Fatalf("%s:\n got %v\nwant %v", what, got, want)
	}
}

// tells holds visits against words as of short.
func tells(t *testing.T, what string, got []Visit, want string) {
	t.Helper()
	var words []string
	for _, v := range got {
		words = append(words, fmt.Sprint(v.Path, " ", v.Block))
	}
	same(t, what, strings.Join(words, ", "), want)
}

// sets makes one with these, each with so many blocks.
func sets(t *testing.T, blocks int, paths ...string) *Sched {
	t.Helper()
	s := New()
	for _, p := range paths {
		same(t, "Set of "+p, s.Set(p, blocks), api.OK)
	}
	return s
}

// many is n paths.
func many(n int) []string {
	var paths []string
	for i := range n {
		paths = append(paths, fmt.Sprintf("f%03d", i))
	}
	return paths
}

// tangled is paths whose order by parts is not the one by bytes, in order.
func tangled() []string {
	return []string{"-", ".a", "0", "a", "a/-", "a/.b", "a/a", "a/a/a", "a/a-", "a/b", "a-", "a-/a", "a.", "a.b", "a.b/c", "a0", "a_", "aa", "aa/a", "ab", "b"}
}

func a(n int) string {
	return strings.Repeat("a", n)
}
