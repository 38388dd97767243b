package ignore

import (
	"math/rand"
	"slices"
	"strings"
	"testing"

	"linnet/api"
)

// reads holds New of one line against whether it is a rule, and the judge, too.
func reads(t *testing.T, line string, want bool) {
	t.Helper()
	r, e := New([]string{line})
	switch {
	case want != judgeRule(line):
		t.Errorf("the judge of %.80q says %v", line, judgeRule(line))
	case want && (e != api.OK || r == nil || !slices.Equal(r.Lines(), []string{line})):
		t.Errorf("New of %.80q is %d", line, e)
	case !want && (e != api.ErrArg || r != nil):
		t.Errorf("New of %.80q is %v, %d", line, r, e)
	}
}

func TestP12_1Rules(t *testing.T) {
	for _, line := range []string{
		"a", "*", "**", "?", ".", "..", "A", "é", "\x00", "\xff", "\t", "\r", "\v", "\u00a0", "#", "#a", "\\", "[a]", "a!", "a!b", "!a", "!a!", "!!", "!!!", "!!a", "!!/", "!!a/",
		"//", "!//", "///", "!///", "/a", "!/a", "/a/", "!/a/", "a/", "!a/", "a//", "!a//", "a/b", "a/b/", "!a/b/", "/!", "/!/", "!/!", "*/", "!*/", "**/", "!**/**/",
		a(60), "!" + a(60), a(60) + "/", "!" + a(60) + "/", a(59) + "/", a(59) + "//", "/" + a(59), "!/" + a(59), "/" + a(59) + "/", a(30) + "/" + a(29) + "/", "!" + a(58) + "//", strings.Repeat("/", 61), "!" + strings.Repeat("!", 60), "!" + strings.Repeat("/", 61), strings.Repeat("*", 60), "!" + strings.Repeat("\xff", 60) + "/",
	} {
		reads(t, line, true)
	}
	for _, line := range []string{
		"", "!", "/", "!/", " ", "\n", "! ", "!\n", " /", "\n/", "! /", "!\n/", " !", "\n!", "/ ", "/\n", " a", "a ", "a b", "\na", "a\n", "a\nb", "!a b", "! a", "!a ", "a b/", "a /", "a/ ", "a/\n", "!a\n/", "a/b c", "a\n/b", "a  ", "a\r\n", " !a", "\n!a",
		a(61), "!" + a(61), a(61) + "/", "!" + a(61) + "/", a(60) + "//", "!" + a(60) + "//", "/" + a(60), "!/" + a(60), a(30) + "/" + a(30), strings.Repeat("/", 62), "!" + strings.Repeat("!", 61), "!" + strings.Repeat("/", 62), strings.Repeat("*", 61), a(59) + " ", a(60) + " ", a(59) + "\n/", a(1 << 20), strings.Repeat("!", 1<<20), strings.Repeat("/", 1<<20),
	} {
		reads(t, line, false)
	}
}

func TestP12_1EachByteOfARule(t *testing.T) {
	for x := range 256 {
		b := string([]byte{byte(x)})
		may := b != " " && b != "\n"
		for _, line := range []string{"a" + b + "a", "aa" + b, b + "aa", "!" + b + "a", "a" + b + "/", "!a/" + b, a(58) + b + "a", "!" + a(59) + b} {
			reads(t, line, may)
		}
		reads(t, b, may && b != "!" && b != "/")
		reads(t, "!"+b, may && b != "/")
		reads(t, b+"/", may && b != "!")
		reads(t, "!"+b+"/", may)
		reads(t, a(60)+b, b == "/")
		reads(t, b+a(60), b == "!")
	}
}

func TestP12_1EachShortLine(t *testing.T) {
	for _, line := range allTexts("!/a \n", 5) {
		reads(t, line, judgeRule(line))
	}
	for n := range 70 {
		for _, bytes := range []string{"a", "!", "/", "*"} {
			for _, ends := range [][2]string{{"", ""}, {"!", ""}, {"", "/"}, {"!", "/"}} {
				line := ends[0] + strings.Repeat(bytes, n) + ends[1]
				reads(t, line, judgeRule(line))
			}
		}
	}
}

func TestP12_1HowMany(t *testing.T) {
	for _, n := range []int{0, 1, 2, 49, 50, 51, 52, 1000} {
		for _, bad := range []int{-1, 0, n / 2, n - 1} {
			lines := slices.Repeat([]string{"a*"}, n)
			want := api.OK
			if bad >= 0 && bad < n {
				lines[bad] = "a b"
				want = api.ErrArg
			}
			if n > 50 {
				want = api.ErrBig
			}
			r, e := New(lines)
			if e != want || (r != nil) != (want == api.OK) {
				t.Fatalf("%d lines, the bad one being %d: %v, %d", n, bad, r, e)
			}
			if want == api.OK {
				same(t, "Lines", r.Lines(), lines)
			}
		}
	}
	for _, lines := range [][]string{{"a", ""}, {"", "a"}, {"a", "!", "b"}, {"/", "a"}, {"a", "b", "!/"}, make([]string, 50)} {
		r, e := New(lines)
		if e != api.ErrArg || r != nil {
			t.Errorf("%q: %v, %d", lines, r, e)
		}
	}
	r, e := New(make([]string, 51))
	if e != api.ErrBig || r != nil {
		t.Errorf("51 lines of nothing: %v, %d", r, e)
	}
}

func TestP12_2Ignored(t *testing.T) {
	const file, dir = 1, 2
	for _, c := range []struct {
		lines []string
		p     string
		as    int // as what it is ignored
	}{
		{nil, "a", 0}, {nil, ".a", 0}, {nil, "a/b", 0},

		{[]string{"*.o", "!a.o"}, "b/x.o", file | dir}, {[]string{"*.o", "!a.o"}, "a.o", 0}, {[]string{"*.o", "!a.o"}, "b/a.o", 0}, {[]string{"*.o", "!a.o"}, "x.o/a.o", file | dir}, {[]string{"*.o", "!a.o"}, "a.o/x.o", file | dir}, {[]string{"*.o", "!a.o"}, "a.o/x", 0}, {[]string{"*.o", "!a.o"}, "x.o/x", file | dir}, {[]string{"*.o", "!a.o"}, "x.oo", 0},
		{[]string{"!a.o", "*.o"}, "a.o", file | dir}, {[]string{"*.o", "!a.o", "a.*"}, "a.o", file | dir}, {[]string{"*.o", "!a.o", "a.*", "!*"}, "a.o", 0}, {[]string{"!a"}, "a", 0}, {[]string{"!*"}, "a/b", 0},

		{[]string{"a"}, "a", file | dir}, {[]string{"a"}, "b/a", file | dir}, {[]string{"a"}, "a/b", file | dir}, {[]string{"a"}, "b/a/c", file | dir}, {[]string{"a"}, "aa", 0}, {[]string{"a"}, "ab/b", 0}, {[]string{"a"}, "b", 0}, {[]string{"a"}, "b/ab", 0},
		{[]string{"a/b"}, "a/b", file | dir}, {[]string{"a/b"}, "a/b/c", file | dir}, {[]string{"a/b"}, "x/a/b", 0}, {[]string{"a/b"}, "a", 0}, {[]string{"a/b"}, "b", 0}, {[]string{"a/b"}, "a/bc", 0}, {[]string{"a/b"}, "a/c/b", 0},
		{[]string{"**/b"}, "a/b", file | dir}, {[]string{"**/b"}, "b", 0}, {[]string{"**/b"}, "a/c/b", file | dir}, {[]string{"**b"}, "a/cb", file | dir}, {[]string{"a**b"}, "a/b", 0}, {[]string{"a**b"}, "c/axb", file | dir}, {[]string{"a*/b"}, "ac/b", file | dir}, {[]string{"a*/b"}, "ac/d/b", 0}, {[]string{"a**/b"}, "ac/d/b", file | dir}, {[]string{"a/**"}, "a", 0}, {[]string{"a/**"}, "a/b/c", file | dir}, {[]string{"a/**"}, "b/a/c", 0},
		{[]string{"?"}, "a", file | dir}, {[]string{"?"}, "b/a", file | dir}, {[]string{"?"}, "bb/aa", 0}, {[]string{"?/?"}, "a/b", file | dir}, {[]string{"?/?"}, "aa/b", 0}, {[]string{"???"}, "a/b", 0},
		{[]string{"*"}, "a/b/c", file | dir}, {[]string{"*"}, ".a", file | dir}, {[]string{".*"}, ".a/b", file | dir}, {[]string{".*"}, "a/.b", file | dir}, {[]string{".*"}, "a/b", 0},
		{[]string{"/a"}, "a", 0}, {[]string{"/a"}, "b/a", 0}, {[]string{"/a"}, "a/b", 0}, {[]string{"/**"}, "a/b", 0}, {[]string{"/*"}, "a", 0}, {[]string{"//"}, "a/b", 0}, {[]string{"a//"}, "a", 0}, {[]string{"a//"}, "a/b", 0}, {[]string{"**/"}, "a", dir}, {[]string{"*/*/"}, "a/b", dir},
		{[]string{"A"}, "a", 0}, {[]string{"!!"}, "a", 0}, {[]string{"[a]"}, "a", 0}, {[]string{"#a"}, "a", 0},

		{[]string{"d/"}, "d", dir}, {[]string{"d/"}, "e/d", dir}, {[]string{"d/"}, "d/a", file | dir}, {[]string{"d/"}, "e/d/a", file | dir}, {[]string{"d/"}, "dd", 0}, {[]string{"d/"}, "e/dd/a", 0}, {[]string{"e/d/"}, "e/d", dir}, {[]string{"e/d/"}, "e/d/f/g", file | dir}, {[]string{"e/d/"}, "d", 0}, {[]string{"e/d/"}, "f/e/d", 0}, {[]string{"e/d/"}, "f/e/d/g", 0},
		{[]string{"*/"}, "a", dir}, {[]string{"*/"}, "a/b", file | dir},
		{[]string{"d", "!d/"}, "d", file}, {[]string{"d", "!d/"}, "d/a", 0}, {[]string{"d", "!d/"}, "d/d", file}, {[]string{"d/", "!d"}, "d", 0}, {[]string{"d/", "!d"}, "d/a", 0}, {[]string{"!d", "d/"}, "d", dir}, {[]string{"!d/", "d"}, "d", file | dir},

		{[]string{"d/", "!d/keep"}, "d/keep", file | dir}, {[]string{"d/", "!keep", "!*", "!d/**"}, "d/keep", 0}, {[]string{"d/", "!keep", "!d/**"}, "d/keep", file | dir}, {[]string{"d/**", "!d/keep"}, "d/keep", 0}, {[]string{"d/**", "!d/keep"}, "d/keep/a", file | dir}, {[]string{"d/*", "!d/keep"}, "d/keep/a", 0}, {[]string{"d/*", "!d/keep"}, "d/other/a", file | dir}, {[]string{"*", "!a"}, "a/b", file | dir}, {[]string{"*", "!a", "!b"}, "a/b", 0}, {[]string{"*", "!a", "!b"}, "c/b", file | dir}, {[]string{"*", "!?"}, "aa/b/a", file | dir}, {[]string{"a/b", "!**"}, "a/b/c", 0}, {[]string{"!**", "a/b"}, "a/b/c", file | dir}, {[]string{"a", "!a/**"}, "a/b", file | dir},
	} {
		r := rulesOf(t, c.lines...)
		for _, as := range []int{file, dir} {
			ignores(t, r, c.p, as == dir, c.as&as != 0)
			if judgeIgnored(c.lines, c.p, as == dir) != (c.as&as != 0) {
				t.Errorf("the judge of %q says else of %q", c.lines, c.p)
			}
		}
	}
}

func TestP12_2NotValid(t *testing.T) {
	r := rulesOf(t, "*", "**", "?", "**/**", "a", "a/b", "A", "/a", "a/", "**/", "..", ".", "é")
	for _, p := range []string{"", ".", "..", "/", "//", "/a", "a/", "a//b", "a/b/", "./a", "a/.", "a/..", "../a", "A", "a/A", "A/a", "a b", "a\n", "a\x00", "\xff", "é", "*", "a*", "?", a(21), "b/" + a(21), a(21) + "/b", strings.Repeat("a/", 30) + "a", strings.Repeat("/", 1<<20), strings.Repeat("a/", 1<<20), a(1 << 20)} {
		ignores(t, r, p, false, false)
		ignores(t, r, p, true, false)
	}
	for _, p := range []string{"a", "...", ".a", "a/.b", ".a/b", a(20), a(20) + "/" + a(20) + "/" + a(18), strings.Repeat("a/", 29) + "aa"} {
		ignores(t, r, p, false, true)
		ignores(t, r, p, true, true)
	}
}

func TestP12_2LongOnes(t *testing.T) {
	p := a(20) + "/" + a(20) + "/" + strings.Repeat("b", 18)
	for _, line := range []string{p, p + "/", strings.Repeat("*", 60), strings.Repeat("?", 18), a(20) + "/" + strings.Repeat("?", 20) + "/" + strings.Repeat("?", 18), strings.Repeat("*b", 18) + "*"} {
		ignores(t, rulesOf(t, line), p, true, true)
		ignores(t, rulesOf(t, line), p, false, line[len(line)-1] != '/')
		ignores(t, rulesOf(t, line), p[:59]+"c", true, !strings.Contains(line, "b"))
	}
	fifty := slices.Repeat([]string{"x"}, 50)
	for _, place := range []int{0, 24, 49} {
		lines := slices.Clone(fifty)
		lines[place] = "a"
		ignores(t, rulesOf(t, lines...), "a", false, true)
		lines[place] = "!x"
		ignores(t, rulesOf(t, lines...), "x", false, place != 49)
	}
}

func TestP12_2Nil(t *testing.T) {
	var none *Rules
	for _, r := range []*Rules{none, {}, rulesOf(t), rulesOf(t, []string{}...)} {
		for _, p := range []string{"", "a", "a/b", ".a", "A"} {
			ignores(t, r, p, false, false)
			ignores(t, r, p, true, false)
		}
		if len(r.Lines()) != 0 {
			t.Errorf("no rules, and the lines are %q", r.Lines())
		}
	}
}

// randomRule is a rule over few bytes, so that many match.
func randomRule(r *rand.Rand) string {
	for {
		line := textOf(r, "aab//***?..", 1+r.Intn(6))
		if r.Intn(3) == 0 {
			line = "!" + line
		}
		if r.Intn(4) == 0 {
			line += "/"
		}
		if judgeRule(line) {
			return line
		}
	}
}

func TestP12_2Random(t *testing.T) {
	r := rand.New(rand.NewSource(122))
	yes, valid := 0, 0
	for range 4000 {
		var lines []string
		for range r.Intn(1 + r.Intn(9)) {
			lines = append(lines, randomRule(r))
		}
		rules := rulesOf(t, lines...)
		for range 20 {
			p, dir := textOf(r, "aab//.", 1+r.Intn(10)), r.Intn(2) == 0
			want := judgeIgnored(lines, p, dir)
			ignores(t, rules, p, dir, want)
			if judgeValid(p) {
				valid++
			}
			if want {
				yes++
			}
		}
		if t.Failed() {
			t.FailNow()
		}
	}
	if yes < valid/10 || yes > valid-valid/10 {
		t.Errorf("%d of %d were ignored: the texts are badly chosen", yes, valid)
	}
}
