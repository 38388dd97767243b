package ignore

import (
	"math/rand"
	"strings"
	"testing"
)

// matches holds Match against what is wanted, and the judges, too.
func matches(t *testing.T, pattern, s string, want bool) {
	t.Helper()
	if got := Match(pattern, s); got != want {
		t.Errorf("Match(%.80q, %.80q) is %v", pattern, s, got)
	}
	if judge := judgeMatch(pattern, s); judge != want {
		t.Errorf("the judge of Match(%.80q, %.80q) says %v", pattern, s, judge)
	}
}

func TestP12_1Match(t *testing.T) {
	for _, c := range []struct {
		pattern  string
		yes, not []string
	}{
		{"", []string{""}, []string{"a", "/", " ", "\x00", "*"}},
		{"a", []string{"a"}, []string{"", "aa", "b", "A", "a/", "/a", "a "}},
		{"/", []string{"/"}, []string{"", "//", "a", "/a", "a/"}},
		{"ab/c", []string{"ab/c"}, []string{"ab", "ab/", "abc", "ab//c", "ab/cd", "xab/c"}},
		{"*", []string{"", "a", "abc", " ", "\n", "\x00\xff", "*", "?", "!", "é"}, []string{"/", "a/", "/a", "a/b", "a/b/c"}},
		{"**", []string{"", "a", "/", "//", "a/b", "a/b/c", "/a/", "\n/\xff", "**"}, nil},
		{"***", []string{"", "a", "/", "a/b", "a/b/c", "///"}, nil},
		{"****", []string{"", "a", "/", "a/b", "a/b/c", "///"}, nil},
		{"?", []string{"a", " ", "?", "*", "\x00", "\xff", "\n"}, []string{"", "/", "aa", "é", "a/"}},
		{"??", []string{"ab", "é", "??"}, []string{"", "a", "abc", "a/", "/a", "//"}},
		{"?*", []string{"a", "ab", "abc"}, []string{"", "/", "/a", "a/", "a/b"}},
		{"*?", []string{"a", "ab", "abc"}, []string{"", "/", "/a", "a/", "a/b"}},
		{"?**", []string{"a", "a/", "a/b"}, []string{"", "/", "/a"}},
		{"**?", []string{"a", "/a", "a/b"}, []string{"", "/", "a/"}},
		{"*?*", []string{"a", "ab"}, []string{"", "/", "a/b"}},
		{"**?**", []string{"a", "/a", "a/", "/a/", "a/b"}, []string{"", "/", "//"}},
		{"a*c", []string{"ac", "abc", "abbc", "acc", "aacac", "a*c"}, []string{"", "a", "c", "ab/c", "a/c", "ab", "bc", "abcd", "xac"}},
		{"a**c", []string{"ac", "abc", "a/c", "ab/c", "a/b/c", "a//c", "accc", "a/c/c"}, []string{"", "a", "c", "ab", "a/b", "a/c/", "xa/c"}},
		{"a***c", []string{"ac", "a/c", "a/b/c"}, []string{"", "ab", "a/b"}},
		{"a?c", []string{"abc", "a?c", "a c", "a\nc"}, []string{"ac", "a/c", "abbc", "ab", "bc"}},
		{"*.o", []string{".o", "x.o", "..o", ".o.o", "x.y.o"}, []string{"", "o", "x.oo", "x/.o", "/x.o", "x.o/"}},
		{"**.o", []string{".o", "x.o", "x/.o", "/x.o", "a/b/c.o"}, []string{"", "o", "x.o/", "x.oo"}},
		{"a*", []string{"a", "ab", "aaa"}, []string{"", "b", "ba", "a/", "a/b", "ab/c"}},
		{"a**", []string{"a", "ab", "a/", "a/b", "ab/c"}, []string{"", "b", "ba", "/a"}},
		{"*a", []string{"a", "ba", "aaa"}, []string{"", "b", "ab", "/a", "b/a"}},
		{"**a", []string{"a", "ba", "/a", "b/a", "a/a"}, []string{"", "b", "ab", "a/", "a/b"}},
		{"*a*b*", []string{"ab", "xaxbx", "aab", "abb", "bab"}, []string{"", "ba", "xbxax", "a/b", "ab/", "/ab"}},
		{"**a**b**", []string{"ab", "a/b", "/a/b/", "b/a/x/b/a"}, []string{"", "ba", "b/a", "bbbaaa"}},
		{"*/*", []string{"/", "a/", "/b", "a/b"}, []string{"", "a", "//", "a/b/c", "/a/"}},
		{"**/**", []string{"/", "//", "a/", "/b", "a/b/c"}, []string{"", "a", "abc"}},
		{"**/b", []string{"/b", "a/b", "a/a/b", "b/b", "/b/b"}, []string{"", "b", "a/bb", "a/b/", "ab"}},
		{"a/**", []string{"a/", "a/b", "a/b/c", "a//"}, []string{"", "a", "ab", "b/a/"}},
		{"a/**/b", []string{"a//b", "a/x/b", "a/x/y/b", "a/b/b"}, []string{"a/b", "ab", "a/x/c", "a/x/bb"}},
		{"a/*/b", []string{"a//b", "a/x/b", "a/xyz/b"}, []string{"a/b", "a/x/y/b", "a/x/", "a///b"}},
		{"*/a/*", []string{"/a/", "x/a/y", "a/a/a"}, []string{"a/", "/a", "x/y/a/z", "x/a/y/z", "x/aa/y"}},
		{"**/a*b", []string{"/ab", "x/ab", "x/axb", "a/a/axb", "ab/ab"}, []string{"ab", "x/a/b", "x/ab/c", "a/b"}},
		{"**a*b", []string{"ab", "a/ab", "a/axb", "a/b/ab", "ba/aab"}, []string{"a/b", "a/xb", "ab/", "ba/ba"}},
		{"*a**b", []string{"ab", "xa/b", "a/ab/b", "xab"}, []string{"x/a/b", "/ab", "ba"}},
		{"**a*b**c*d", []string{"abcd", "a/ab/c/cxd", "axb//cd", "a/b/ab/d/cd"}, []string{"a/bc/d", "abc/d", "a/ab/c/x/d", "ab/cd/"}},
		{"*aab", []string{"aab", "aaab", "aaaaab", "xaab"}, []string{"ab", "aaba", "aa/b", "a/aab"}},
		{"*aba*", []string{"aba", "ababa", "abaaba", "aababab"}, []string{"", "abba", "ab/a", "aba/"}},
		{"[a]", []string{"[a]"}, []string{"a", "[b]"}},
		{"a\\*", []string{"a\\", "a\\b"}, []string{"a*", "a"}},
		{"a{b,c}.$^+()|", []string{"a{b,c}.$^+()|"}, []string{"ab", "ac"}},
		{"!a", []string{"!a"}, []string{"a", "b"}},
		{"a/", []string{"a/"}, []string{"a", "a/b"}},
		{" \n", []string{" \n"}, []string{"", " ", "\n"}},
		{"\x00*\xff", []string{"\x00\xff", "\x00\x80\xff", "\x00\x00\xff\xff"}, []string{"\x00", "\xff", "\x00/\xff"}},
		{"\xc3?", []string{"é", "\xc3a"}, []string{"\xc3", "e", "\xc3/"}},
		{"é", []string{"é", "\xc3\xa9"}, []string{"e", "É", "e\u0301"}},
	} {
		for _, s := range c.yes {
			matches(t, c.pattern, s, true)
		}
		for _, s := range c.not {
			matches(t, c.pattern, s, false)
		}
	}
}

func TestP12_1EachByte(t *testing.T) {
	for x := range 256 {
		b := string([]byte{byte(x)})
		for _, s := range []string{"", "a", b, b + b, "a" + b, b + "a", "a" + b + "a", "a/" + b, b + "/a"} {
			for _, pattern := range []string{"?", "*", "**", "?*", "a?", "?a", "a?a", "a/?", "*/?", "**?"} {
				matches(t, pattern, s, expression(pattern).MatchString(wide(s)))
			}
		}
		if b == "*" || b == "?" {
			continue
		}
		for y := range 256 {
			c := string([]byte{byte(y)})
			matches(t, b, c, x == y)
			matches(t, "a"+b+"*", "a"+c+"z", x == y)
			matches(t, "**"+b, "/"+c, x == y)
			matches(t, "*"+b, c, x == y)
		}
	}
}

func TestP12_1Lengths(t *testing.T) {
	for _, n := range []int{199, 200, 201, 202, 1000, 1 << 20} {
		fits := n <= 200
		matches(t, a(n), a(n), fits)
		matches(t, "*", a(n), fits)
		matches(t, "**", a(n), fits)
		matches(t, "**", strings.Repeat("/", n), fits)
		matches(t, strings.Repeat("*", n), "", fits)
		matches(t, strings.Repeat("*", n), "a/b", fits)
		matches(t, strings.Repeat("?", n), a(n), fits)
		matches(t, "*"+a(n-1), a(n-1), fits)
		matches(t, "**"+a(n-2), a(n-2), fits)
		matches(t, strings.Repeat("*", n-1)+"a", "a", fits)
		matches(t, "", a(n), false)
		matches(t, a(n), "", false)
		matches(t, a(n), "a", false)
	}
	matches(t, "*", a(200)+"/", false)
	matches(t, a(200), a(199)+"b", false)
	matches(t, a(200), a(199), false)
	matches(t, a(199), a(200), false)
}

// TestP12_1ManyStars: what goes back to each star in turn would never end here.
func TestP12_1ManyStars(t *testing.T) {
	for _, unit := range []string{"*a", "**a", "?*", "*?", "**?", "*a**", "**a*a"} {
		n := 199 / len(unit)
		for _, s := range []string{a(200), a(199) + "b", "b" + a(199), strings.Repeat("ab", 100), strings.Repeat("a/", 100), strings.Repeat("aa/", 66), a(100) + "/" + a(99), a(n), a(n - 1), ""} {
			for _, last := range []string{"", "b", "/", "a", "*", "c"} {
				pattern := strings.Repeat(unit, n) + last
				for _, cut := range []string{pattern, pattern[len(pattern)/2:], pattern[:min(20, len(pattern))], "**" + pattern[:min(20, len(pattern))]} {
					matches(t, cut, s, judgeMatch(cut, s))
				}
			}
		}
	}
	matches(t, "**"+strings.Repeat("*a", 98)+"bc", a(198)+"bb", false)
	matches(t, "**"+strings.Repeat("*a", 40)+"*/*b", a(198)+"/c", false)
	matches(t, strings.Repeat("*a", 99)+"b*", strings.Repeat("a", 99)+"b"+a(100), true)
}

func TestP12_1AllShortOnes(t *testing.T) {
	texts := allTexts("a/", 6)
	for _, pattern := range allTexts("a/*?", 6) {
		for _, s := range texts {
			if Match(pattern, s) != judgeMatch(pattern, s) {
				t.Fatalf("Match(%q, %q) is %v", pattern, s, Match(pattern, s))
			}
		}
	}
	texts = allTexts("ab/", 5)
	for _, pattern := range allTexts("ab/*", 5) {
		for _, s := range texts {
			if Match(pattern, s) != judgeMatch(pattern, s) {
				t.Fatalf("Match(%q, %q) is %v", pattern, s, Match(pattern, s))
			}
		}
	}
}

func TestP12_1TheJudgesAgree(t *testing.T) {
	texts := allTexts("a/", 5)
	for _, pattern := range allTexts("a/*?", 4) {
		form := expression(pattern)
		for _, s := range texts {
			if form.MatchString(s) != judgeMatch(pattern, s) {
				t.Fatalf("the judges of %q and %q do not agree", pattern, s)
			}
		}
	}
}

// near is a text that a pattern stands for, with now and then another byte in it.
func near(r *rand.Rand, pattern string) string {
	var out strings.Builder
	for i := range len(pattern) {
		switch pattern[i] {
		case '*':
			bytes := "ab"
			if i > 0 && pattern[i-1] == '*' {
				bytes = "ab/"
			}
			out.WriteString(textOf(r, bytes, 4))
		case '?':
			out.WriteString("a")
		default:
			out.WriteByte(pattern[i])
		}
		if r.Intn(40) == 0 {
			out.WriteString(textOf(r, "ab/\x00", 1))
		}
	}
	return out.String()
}

func TestP12_1Random(t *testing.T) {
	r := rand.New(rand.NewSource(121))
	yes := 0
	const rounds = 20000
	for range rounds {
		pattern := textOf(r, "aaabb//**?\x00\xff", 4+r.Intn(60))
		form := expression(pattern)
		for _, s := range []string{near(r, pattern), textOf(r, "ab/", 20)} {
			want := len(s) <= 200 && form.MatchString(wide(s))
			matches(t, pattern, s, want)
			if want {
				yes++
			}
		}
		if t.Failed() {
			t.FailNow()
		}
	}
	if yes < rounds/10 || yes > 2*rounds-rounds/10 {
		t.Errorf("%d of %d matched: the texts are badly chosen", yes, 2*rounds)
	}
}
