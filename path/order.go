package path

// Under tells whether one stands under another.
func Under(s, dir string) bool {
	if dir == "" {
		return Valid(s)
	}
	below, above := Parts(s), Parts(dir)
	return len(above) > 0 && len(below) > len(above) && alike(below, above) == len(above)
}

// Less orders two.
func Less(a, b string) bool {
	validA, validB := Valid(a), Valid(b)
	switch {
	case validA != validB:
		return validA
	case !validA:
		return a < b
	}
	return lessParts(Parts(a), Parts(b))
}

func lessParts(a, b []string) bool {
	n := alike(a, b)
	switch n {
	case len(b):
		return false
	case len(a):
		return true
	}
	return a[n] < b[n]
}

// alike is how many parts two have in common from the front.
func alike(a, b []string) int {
	n := 0
walk:
	for i, part := range a {
		switch {
		case i < len(b) && part == b[i]:
			n++
		default:
			break walk
		}
	}
	return n
}
