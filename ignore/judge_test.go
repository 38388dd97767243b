package ignore

import (
	"fmt"
	"math/rand"
	"regexp"
	"slices"
	"strings"
	"testing"

	"linnet/api"
)

// The judges of these tests: a pattern is followed by the set of all places in the text that it can have come to, and, where there is time, by a regular expression; a path is looked at from its first part down.

// judgeMatch tells by places.
func judgeMatch(pattern, s string) bool {
	if len(pattern) > 200 || len(s) > 200 {
		return false
	}
	at := make([]bool, len(s)+1)
	at[0] = true
	for pattern != "" {
		next := make([]bool, len(s)+1)
		switch {
		case strings.HasPrefix(pattern, "**"):
			pattern = pattern[1:]
			for i := range next {
				next[i] = at[i] || i > 0 && next[i-1]
			}
		case pattern[0] == '*':
			for i := range next {
				next[i] = at[i] || i > 0 && next[i-1] && s[i-1] != '/'
			}
		default:
			for i := 1; i < len(next); i++ {
				next[i] = at[i-1] && (pattern[0] == s[i-1] || pattern[0] == '?' && s[i-1] != '/')
			}
		}
		at, pattern = next, pattern[1:]
	}
	return at[len(s)]
}

// wide is a text with a rune for each byte.
func wide(s string) string {
	var out strings.Builder
	for i := range len(s) {
		out.WriteRune(rune(s[i]))
	}
	return out.String()
}

// expression is a pattern as a regular expression over wide texts.
func expression(pattern string) *regexp.Regexp {
	var out strings.Builder
	for i := 0; i < len(pattern); i++ {
		switch {
		case strings.HasPrefix(pattern[i:], "**"):
			out.WriteString(".*")
			i++
		case pattern[i] == '*':
			out.WriteString("[^/]*")
		case pattern[i] == '?':
			out.WriteString("[^/]")
		default:
			out.WriteString(regexp.QuoteMeta(wide(pattern[i : i+1])))
		}
	}
	return regexp.MustCompile(`(?s)\A(?:` + out.String() + `)\z`)
}

var ruleForm = regexp.MustCompile(`(?s)\A!?([^ \n]{1,60}?)/?\z`)

// judgeRule tells whether a line is a rule, by its bytes' form; the three that the document names by name.
func judgeRule(line string) bool {
	return line != "!" && line != "/" && line != "!/" && ruleForm.MatchString(wide(line))
}

// judgeSays tells what one rule says of a path alone: 1 ignored, -1 not, 0 nothing.
func judgeSays(line, p string, dir bool) int {
	says := 1
	if line[0] == '!' {
		says, line = -1, line[1:]
	}
	if line[len(line)-1] == '/' {
		if !dir {
			return 0
		}
		line = line[:len(line)-1]
	}
	if !strings.Contains(line, "/") {
		p = p[strings.LastIndexByte(p, '/')+1:]
	}
	if !judgeMatch(line, p) {
		return 0
	}
	return says
}

var pathForm = regexp.MustCompile(`\A[a-z0-9._-]{1,20}(/[a-z0-9._-]{1,20})*\z`)

func judgeValid(p string) bool {
	return pathForm.MatchString(p) && len(p) <= 60 && !strings.Contains("/"+p+"/", "/./") && !strings.Contains("/"+p+"/", "/../")
}

// judgeIgnored goes from the first part down.
func judgeIgnored(lines []string, p string, dir bool) bool {
	if !judgeValid(p) {
		return false
	}
	for i := 1; i <= len(p); i++ {
		if i < len(p) && p[i] != '/' {
			continue
		}
		said := 0
		for _, line := range lines {
			if says := judgeSays(line, p[:i], dir || i < len(p)); says != 0 {
				said = says
			}
		}
		if said == 1 {
			return true
		}
	}
	return false
}

func same(t *testing.T, what string, got, want any) {
	t.Helper()
	if fmt.Sprintf("%q", got) != fmt.Sprintf("%q", want) {
		t.Errorf("%s:\n got %q\nwant %q", what, got, want)
	}
}

func a(n int) string { return strings.Repeat("a", n) }

// rulesOf makes some that may be.
func rulesOf(t *testing.T, lines ...string) *Rules {
	t.Helper()
	r, e := New(lines)
	if e != api.OK || r == nil {
		t.Fatalf("New(%q) is %d", lines, e)
	}
	return r
}

// ignores holds Ignored against what is wanted.
func ignores(t *testing.T, r *Rules, p string, dir, want bool) {
	t.Helper()
	if got := r.Ignored(p, dir); got != want {
		t.Errorf("%q: Ignored(%q, %v) is %v", r.Lines(), p, dir, got)
	}
}

// textOf is up to most bytes of those.
func textOf(r *rand.Rand, bytes string, most int) string {
	b := make([]byte, r.Intn(most+1))
	for i := range b {
		b[i] = bytes[r.Intn(len(bytes))]
	}
	return string(b)
}

// allTexts is each text of up to most of those bytes.
func allTexts(bytes string, most int) []string {
	all := []string{""}
	last := all
	for range most {
		var next []string
		for _, s := range last {
			for i := range len(bytes) {
				next = append(next, s+bytes[i:i+1])
			}
		}
		all = slices.Concat(all, next)
		last = next
	}
	return all
}
