package path

import (
	"fmt"
	"math/rand"
	"regexp"
	"slices"
	"strings"
	"testing"

	"linnet/api"
)

// The judges of these tests: a path by a pattern, its parts by a walk over its bytes.
var pattern = regexp.MustCompile(`^[a-z0-9._-]{1,20}(/[a-z0-9._-]{1,20})*$`)

func judgeValid(s string) bool {
	return pattern.MatchString(s) && !strings.HasSuffix(s, "\n") && len(s) <= 60 && !strings.Contains("/"+s+"/", "/./") && !strings.Contains("/"+s+"/", "/../")
}

func judgeParts(s string) []string {
	if !judgeValid(s) {
		return nil
	}
	parts := []string{""}
	for _, r := range s {
		if r == '/' {
			parts = append(parts, "")
		} else {
			parts[len(parts)-1] += string(r)
		}
	}
	return parts
}

func same(t *testing.T, what string, got, want any) {
	t.Helper()
	if fmt.Sprintf("%q", got) != fmt.Sprintf("%q", want) {
		t.Errorf("%s:\n got %q\nwant %q", what, got, want)
	}
}

func a(n int) string { return strings.Repeat("a", n) }

// sixty is the longest path there may be, of three parts.
func sixty() string { return a(20) + "/" + a(19) + "/" + a(19) }

// goodOnes are Valid, edges among them.
func goodOnes() []string {
	return []string{
		"a", "z", "0", "9", "-", "_", "...", ".a", "..a", "a.", "a..", ".-", "-.", "._.", "....",
		a(20), "." + a(19), strings.Repeat(".", 20), sixty(), strings.Repeat("a/", 29) + "aa",
		"a/b", "a/b/c", "a/.b", ".a/b", ".../a", "a/...", "a/..b", "a/b..", "a/b.c-d_9", "ab/c", "a/bc",
		"abcdefghijklm/nopqrstuvwxyz/0123456789/.-_",
	}
}

// badOnes are not Valid, edges among them.
func badOnes() []string {
	return []string{
		"", ".", "..", "/", "//", "/a", "a/", "a//b", "//a", "a//", "a/b/", "/a/b", "./a", "../a", "a/.", "a/..", "a/./b", "a/../b", "././.",
		a(21), a(21) + "/a", "a/" + a(21), "a/" + a(21) + "/a", a(60), a(61), sixty() + "a", "a" + sixty(), "a/" + sixty(), strings.Repeat("a/", 30) + "a",
		"A", "Z", "aB", "a/B", "a b", " a", "a ", "a\n", "\na", "a\x00", "\x00", "a\\b", "a:b", "a+b", "a,b", "a;b", "a~", "`", "{", "@", "[", "^", "a/\tb", "\xff", "a\xc3", "é", "a/é", "ａ", "a\u0301",
	}
}

// hugeOnes are no paths either.
func hugeOnes() []string {
	return []string{strings.Repeat("a/", 1<<20), strings.Repeat("/", 1<<20), a(1 << 20)}
}

func TestP4_1Valid(t *testing.T) {
	for _, s := range goodOnes() {
		if !Valid(s) {
			t.Errorf("%q may be", s)
		}
	}
	for _, s := range append(badOnes(), hugeOnes()...) {
		if Valid(s) {
			t.Errorf("%.80q may not be", s)
		}
	}
}

func TestP4_1EachByte(t *testing.T) {
	const may = "abcdefghijklmnopqrstuvwxyz0123456789.-_"
	for n := range 256 {
		b := string([]byte{byte(n)})
		want := strings.Contains(may, b)
		for _, s := range []string{b + "a", "aa" + b, "a/" + b + "a/a", a(19) + b, sixty()[:59] + b} {
			if got := Valid(s); got != want {
				t.Errorf("byte %d: Valid(%q) is %v", n, s, got)
			}
		}
		if got := Valid("a" + b + "a"); got != (want || b == "/") {
			t.Errorf("byte %d between two: %v", n, got)
		}
		if got := Valid(b); got != (want && b != ".") {
			t.Errorf("byte %d alone: %v", n, got)
		}
	}
}

func TestP4_1EachLength(t *testing.T) {
	for n := range 70 {
		if got, want := Valid(a(n)), n >= 1 && n <= 20; got != want {
			t.Errorf("a part of %d bytes: %v", n, got)
		}
		if got, want := Valid("b/"+a(n)), n >= 1 && n <= 20; got != want {
			t.Errorf("a second part of %d bytes: %v", n, got)
		}
	}
	for n := 1; n <= 20; n++ {
		s := a(20) + "/" + a(20) + "/" + a(n)
		if got, want := Valid(s), len(s) <= api.MaxPath; got != want {
			t.Errorf("a path of %d bytes: %v", len(s), got)
		}
	}
	for n := 1; n <= 40; n++ {
		s := strings.Repeat("a/", n) + "a"
		if got, want := Valid(s), len(s) <= 60; got != want {
			t.Errorf("a path of %d parts: %v", n+1, got)
		}
	}
}

func TestP4_1Hidden(t *testing.T) {
	for _, s := range []string{".a", "...", "..a", ".a/b", ".../b", ".a/.b", ".-", "." + a(19), ".a/" + a(20)} {
		if !Hidden(s) {
			t.Errorf("%q is hidden", s)
		}
	}
	for _, s := range []string{"", ".", "..", "./a", "../a", ".A", ".a/", ".a//b", "." + a(20), "a", "a.", "a/.b", "a/.b/c", "-.a", "/.a", ".a/" + sixty()} {
		if Hidden(s) {
			t.Errorf("%q is not hidden", s)
		}
	}
}

func TestP4_1PartsParentName(t *testing.T) {
	for _, c := range []struct {
		s, parent, name string
		parts           []string
	}{
		{"a", "", "a", []string{"a"}},
		{"...", "", "...", []string{"..."}},
		{a(20), "", a(20), []string{a(20)}},
		{"a/b", "a", "b", []string{"a", "b"}},
		{"ab/c.d/..e", "ab/c.d", "..e", []string{"ab", "c.d", "..e"}},
		{sixty(), a(20) + "/" + a(19), a(19), []string{a(20), a(19), a(19)}},
		{".a/b", ".a", "b", []string{".a", "b"}},
	} {
		same(t, "Parts of "+c.s, Parts(c.s), c.parts)
		same(t, "Parent of "+c.s, Parent(c.s), c.parent)
		same(t, "Name of "+c.s, Name(c.s), c.name)
	}
	for _, s := range append(badOnes(), hugeOnes()...) {
		if len(Parts(s)) != 0 || Parent(s) != "" || Name(s) != "" {
			t.Errorf("%.80q: Parts %.80q, Parent %.80q, Name %.80q", s, Parts(s), Parent(s), Name(s))
		}
	}
	many := strings.Repeat("a/", 29) + "bb"
	same(t, "many parts", len(Parts(many)), 30)
	same(t, "Parent of many", Parent(many), many[:57])
	same(t, "Name of many", Name(many), "bb")
}

func TestP4_1PartsAreNew(t *testing.T) {
	first := Parts("a/b/c")
	second := Parts("a/b/c")
	for i := range first {
		first[i] = "x"
	}
	_ = append(first[:0], "y", "y")
	same(t, "another answer", second, []string{"a", "b", "c"})
	same(t, "a later answer", Parts("a/b/c"), []string{"a", "b", "c"})
}

func TestP4_1Join(t *testing.T) {
	for _, c := range []struct{ dir, name, want string }{
		{"", "a", "a"}, {"", "a/b", "a/b"}, {"a", "b", "a/b"}, {"a/b", "c", "a/b/c"}, {"a", "b/c", "a/b/c"}, {"a/b", "c/d", "a/b/c/d"},
		{".a", "..b", ".a/..b"}, {a(20), a(20), a(20) + "/" + a(20)}, {a(20) + "/" + a(19), a(19), sixty()}, {a(20), a(19) + "/" + a(19), sixty()}, {"", sixty(), sixty()},
		{"", "", ""}, {"a", "", ""}, {"a/b", "", ""}, {"a/", "b", ""}, {"a", "/b", ""}, {"/a", "b", ""}, {"/", "a", ""}, {"", "/a", ""}, {"", "a/", ""}, {"a", "b/", ""},
		{"a", ".", ""}, {"a", "..", ""}, {".", "a", ""}, {"..", "a", ""}, {"", ".", ""}, {"", "..", ""}, {"a", "./b", ""}, {"a", "B", ""}, {"A", "b", ""}, {"", "A", ""},
		{a(20) + "/" + a(19), a(20), ""}, {sixty(), "a", ""}, {"a", sixty(), ""}, {a(21), "a", ""}, {"a", a(21), ""}, {"", a(21), ""}, {"", sixty() + "a", ""}, {a(20), a(20) + "/" + a(18), a(20) + "/" + a(20) + "/" + a(18)},
	} {
		same(t, fmt.Sprintf("Join(%q, %q)", c.dir, c.name), Join(c.dir, c.name), c.want)
	}
}

func TestP4_1ApartAndTogether(t *testing.T) {
	for _, s := range goodOnes() {
		same(t, "together", Join(Parent(s), Name(s)), s)
		same(t, "parts together", strings.Join(Parts(s), "/"), s)
		parts := Parts(s)
		same(t, "the last part", Name(s), parts[len(parts)-1])
		same(t, "the parts above", Parent(s), strings.Join(parts[:len(parts)-1], "/"))
	}
}

// randomText is near to a path: now one, now not.
func randomText(r *rand.Rand) string {
	const bytes = "aab.-_0/"
	var out strings.Builder
	for range 1 + r.Intn(1+r.Intn(30)) {
		if r.Intn(60) == 0 {
			out.WriteString("A")
		} else {
			out.WriteByte(bytes[r.Intn(len(bytes))])
		}
	}
	return out.String()
}

func TestP4_1Random(t *testing.T) {
	r := rand.New(rand.NewSource(4))
	good := 0
	for range 20000 {
		s := randomText(r)
		want := judgeParts(s)
		if Valid(s) != (want != nil) || !slices.Equal(Parts(s), want) {
			t.Fatalf("%q: Valid %v, Parts %q", s, Valid(s), Parts(s))
		}
		if want == nil {
			want = []string{""}
		} else {
			good++
		}
		last := len(want) - 1
		if Name(s) != want[last] || Parent(s) != strings.Join(want[:last], "/") || Hidden(s) != strings.HasPrefix(want[0], ".") {
			t.Fatalf("%q: Name %q, Parent %q, Hidden %v", s, Name(s), Parent(s), Hidden(s))
		}
	}
	if good < 2000 || good > 18000 {
		t.Fatalf("%d of 20000 were paths: the texts are badly chosen", good)
	}
}
