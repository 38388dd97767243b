package path

import (
	"math/rand"
	"slices"
	"strings"
	"testing"
)

// key judges the order: with a byte less than all others between parts, the order by parts is the one by bytes; what is no path begins with a byte greater than all of those that may be.
func key(s string) string {
	if !judgeValid(s) {
		return "\xff" + s
	}
	return strings.ReplaceAll(s, "/", "\x00")
}

func judgeUnder(s, dir string) bool {
	return judgeValid(s) && (dir == "" || judgeValid(dir) && strings.HasPrefix(s, dir+"/"))
}

func sorted(l []string) []string {
	l = slices.Clone(l)
	slices.SortFunc(l, func(a, b string) int {
		switch {
		case Less(a, b):
			return -1
		case Less(b, a):
			return 1
		}
		return 0
	})
	return l
}

func TestP4_1Under(t *testing.T) {
	for _, c := range []struct {
		s, dir string
		want   bool
	}{
		{"a/b", "a", true}, {"a/b/c", "a", true}, {"a/b/c", "a/b", true}, {"a/a", "a", true}, {".a/b", ".a", true}, {"a/.b", "a", true}, {sixty(), a(20), true}, {sixty(), a(20) + "/" + a(19), true},
		{"a", "", true}, {"a/b", "", true}, {sixty(), "", true}, {".a", "", true},
		{"a", "a", false}, {"a/b", "a/b", false}, {"a", "a/b", false}, {"a/b", "a/b/c", false}, {"a/b/c", "a/c", false}, {"a/b/c", "b", false}, {"a/b", "b", false},
		{"ab", "a", false}, {"ab/c", "a", false}, {"a/bc", "a/b", false}, {"a/bc/d", "a/b", false}, {"a.b", "a", false}, {"a.b/c", "a", false}, {"a/b", "ab", false}, {"b/a", "a", false},
		{"", "", false}, {"", "a", false}, {"/", "", false}, {"A", "", false}, {"a/", "", false}, {"/a", "", false}, {".", "", false},
		{"a/b", "a/", false}, {"a/", "a", false}, {"a//b", "a", false}, {"/a/b", "/a", false}, {"A/b", "A", false}, {"a/B", "a", false}, {"a/..", "a", false}, {"./a", ".", false}, {"../a", "..", false}, {"a/b", ".", false}, {"a/b", "/", false}, {"a/b", "A", false},
		{sixty() + "a", a(20), false}, {a(21) + "/a", a(21), false},
	} {
		if got := Under(c.s, c.dir); got != c.want {
			t.Errorf("Under(%q, %q) is %v", c.s, c.dir, got)
		}
	}
}

func TestP4_2Less(t *testing.T) {
	for _, c := range []struct{ first, second string }{
		{"a", "b"}, {"a", "aa"}, {"a", "a/b"}, {"a/b", "a/b/c"}, {"a/b", "a.b"}, {"a/z", "a-a"}, {"a/z/z", "a.a"}, {"a/b", "aa"}, {"a/b", "a/c"}, {"a/b/z", "a/c"}, {"a/b/z", "a/c/a"}, {"a/z", "b"}, {"a/z", "b/a"},
		{"a-b", "a.b"}, {"a.b", "a0b"}, {"a0b", "a_b"}, {"a_b", "aab"}, {"-", "..."}, {"...", "0"}, {"9", "_"}, {"_", "a"}, {"a/b.c", "a/bc"}, {"a/b/c", "a/b.c"}, {"a/b", "a/b-"}, {"a/c/b", "a/c/b/a"},
		{a(19), a(20)}, {a(20) + "/a", a(20) + "/b"}, {sixty()[:59], sixty()}, {a(20) + "/" + a(19), sixty()},
		{"z", ""}, {"zzz/zzz", ""}, {"z", "A"}, {"z", "a/"}, {"z", "/"}, {"z", "a//b"}, {"z", "."}, {"z", a(21)}, {"a", "\x00"}, {"z", "\xff"}, {sixty(), "a/" + sixty()},
		{"", "A"}, {"", "/"}, {"", "."}, {".", ".."}, {"..", "/"}, {"/", "A"}, {"A", "AA"}, {"A", "B"}, {"A-b", "A/b"}, {"A.b", "A/b"}, {"A/b", "Ab"}, {"a//b", "a/B"}, {a(21), a(22)}, {"A", "\xff"}, {"\x00", "/"}, {"", "\x00"},
	} {
		if !Less(c.first, c.second) || Less(c.second, c.first) {
			t.Errorf("%q comes ahead of %q: %v, and the other way %v", c.first, c.second, Less(c.first, c.second), Less(c.second, c.first))
		}
	}
	for _, s := range hugeOnes() {
		if !Less("z", s) || Less(s, "z") || Under(s, "a") || Under("a/b", s) || Under(s, "") || Join("a", s) != "" || Join(s, "a") != "" {
			t.Errorf("%.20q .. is no path", s)
		}
	}
	for _, s := range slices.Concat(goodOnes(), badOnes(), hugeOnes()) {
		if Less(s, s) {
			t.Errorf("%.80q is less than itself", s)
		}
	}
}

func TestP4_2AllAgainstAll(t *testing.T) {
	all := append(goodOnes(), badOnes()...)
	r := rand.New(rand.NewSource(42))
	for range 300 {
		all = append(all, randomText(r))
	}
	for _, x := range all {
		for _, y := range all {
			if Less(x, y) != (key(x) < key(y)) {
				t.Fatalf("Less(%.80q, %.80q) is %v", x, y, Less(x, y))
			}
			if Under(x, y) != judgeUnder(x, y) {
				t.Fatalf("Under(%.80q, %.80q) is %v", x, y, Under(x, y))
			}
		}
	}
}

// TestP4_3DirectlyBehind: in a sorted list, what is Under a path is one run, and the path stands ahead of it.
func TestP4_3DirectlyBehind(t *testing.T) {
	r := rand.New(rand.NewSource(43))
	all := append(goodOnes(), "a/b/c", "a.b", "a-b", "a/b-c", "a/b.c/d", "a.b/c", "a/b/c/d", "a0", "a/0", "aa/b")
	for range 3000 {
		if s := randomText(r); judgeValid(s) {
			all = append(all, s)
		}
	}
	all = slices.Compact(sorted(all))
	most := 0
	for i, dir := range all {
		n := i + 1
		for n < len(all) && judgeUnder(all[n], dir) {
			n++
		}
		most = max(most, n-i-1)
		for j, s := range all {
			if judgeUnder(s, dir) != (i < j && j < n) {
				t.Fatalf("%q is at %d, and %q, which is not directly behind it, at %d", dir, i, s, j)
			}
		}
	}
	if most < 5 {
		t.Fatalf("at most %d stood under a path: the texts are badly chosen", most)
	}
}

func TestP4_3InTheRoot(t *testing.T) {
	l := sorted([]string{"", "b", "A", "a/b", "a//b", "a"})
	same(t, "sorted", l, []string{"a", "a/b", "b", "", "A", "a//b"})
	for i, s := range l {
		if Under(s, "") != (i < 3) {
			t.Errorf("%q at %d", s, i)
		}
	}
}
