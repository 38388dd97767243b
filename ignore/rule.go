package ignore

import (
	"strings"

	"linnet/path"
)

const (
	slash      = "/"
	notSign    = "!"
	noPattern  = " \n"
	maxPattern = 60
)

// rule is a line, and what it says.
type rule struct {
	line    string
	pattern string
	not     bool
	dirs    bool // directories alone
	whole   bool // held against the whole path
}

func ruleOf(line string) rule {
	pattern, not := strings.CutPrefix(line, notSign)
	pattern, dirs := strings.CutSuffix(pattern, slash)
	return rule{line: line, pattern: pattern, not: not, dirs: dirs, whole: strings.Contains(pattern, slash)}
}

func (r rule) mayBe() bool {
	n := len(r.pattern)
	return n > 0 && n <= maxPattern && !strings.ContainsAny(r.pattern, noPattern)
}

func (r rule) matches(p string, dir bool) bool {
	switch {
	case r.dirs && !dir:
		return false
	case r.whole:
		return Match(r.pattern, p)
	}
	return Match(r.pattern, path.Name(p))
}
