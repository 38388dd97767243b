package ignore

import "strings"

const (
	star     = "*"
	twoStars = "**"
	maxMatch = 200
)

// spot is how far a pattern and a text are walked.
type spot struct {
	in, at int
}

// back is where a star can take a byte more: what stands behind it in the pattern, and in the text; not set before there is a star.
type back struct {
	spot
	set bool
}

// Match tells what a pattern stands for.
//
// Only the last star of each kind need be kept: what stands ahead of it stands as early as it can, and that leaves it the most to choose from. (A piece with a slash in it has one place only, since a single star ahead of it cannot pass over that slash.)
func Match(pattern, s string) bool {
	if len(pattern) > maxMatch || len(s) > maxMatch {
		return false
	}
	var now spot
	var one, two back
	matches := false
walk:
	for {
		rest := pattern[now.in:]
		switch {
		case strings.HasPrefix(rest, twoStars):
			now.in += len(twoStars)
			one, two = back{}, back{now, true}
		case strings.HasPrefix(rest, star):
			now.in += len(star)
			one = back{now, true}
		case now.at == len(s):
			// What is left of a pattern asks for bytes, and a star would only take some.
			matches = rest == ""
			break walk
		case rest != "" && standsFor(rest[0], s[now.at]):
			now.in++
			now.at++
		case one.set && s[one.at] != '/':
			one.at++
			now = one.spot
		case two.set:
			one = back{}
			two.at++
			now = two.spot
		default:
			break walk
		}
	}
	return matches
}

// standsFor holds a byte of a pattern that is no star against one of a text.
func standsFor(b, c byte) bool {
	if b == '?' {
		return c != '/'
	}
	return b == c
}
