package image

import (
	"fmt"
	"math"
	"math/rand"
	"strings"
	"testing"

	"linnet/api"
)

// may holds that Refs are an image, or not, by the judge's word too.
func may(t *testing.T, what string, want bool, refs ...api.Ref) {
	t.Helper()
	if isImage(refs) != want {
		t.Fatalf("%s: the judge says %v", what, !want)
	}
	if May(refs) != want {
		t.Errorf("%s: May is %v", what, !want)
	}
}

// with is a file, or a directory, with something else.
func with(kind int, turn func(r *api.Ref)) api.Ref {
	r := file("m", 5)
	if kind == api.Dir {
		r = dir("m")
	}
	turn(&r)
	return r
}

func TestP10_1MayOfHowMany(t *testing.T) {
	may(t, "nil", true)
	may(t, "none", true, []api.Ref{}...)
	for _, n := range []int{1, 2, 99, 100} {
		may(t, fmt.Sprint(n), true, many(n)...)
	}
	for _, n := range []int{101, 102, 200, 1000} {
		may(t, fmt.Sprint(n), false, many(n)...)
	}
}

func TestP10_1MayOfPaths(t *testing.T) {
	good := []string{"a", "z", "0", "9", "-", "_", "a.b", "a..", "-.", "a/.b", "a/b/c", strings.Repeat("a", 20), longPath(1)}
	bad := []string{"", "/", "a/", "/a", "a//b", ".", "..", "a/.", "a/..", "A", "a b", "a\n", "\xff", "é", ".a", ".a/b", "...", ".archive", strings.Repeat("a", 21), longPath(1) + "z", "a\x00"}
	for _, kind := range []int{api.File, api.Dir} {
		for _, p := range good {
			may(t, p, true, with(kind, func(r *api.Ref) { r.Path = p }))
		}
		for _, p := range bad {
			may(t, p, false, with(kind, func(r *api.Ref) { r.Path = p }))
		}
	}
	for _, c := range Copies() {
		may(t, c, false, file(c, 1))
	}
}

func TestP10_1MayOfKinds(t *testing.T) {
	may(t, "a file", true, file("a", 1))
	may(t, "a directory", true, dir("a"))
	for _, kind := range []int{0, 3, 4, -1, -2, 1<<32 + 1, 1<<32 + 2, math.MinInt, math.MaxInt} {
		may(t, "a kind", false, with(api.File, func(r *api.Ref) { r.Kind = kind }))
		may(t, "a kind without Root", false, with(api.Dir, func(r *api.Ref) { r.Kind = kind }))
	}
	may(t, "a file that is said to be a directory", false, with(api.File, func(r *api.Ref) { r.Kind = api.Dir }))
	may(t, "a directory that is said to be a file", false, with(api.Dir, func(r *api.Ref) { r.Kind = api.File }))
}

func TestP10_1MayOfNumbers(t *testing.T) {
	for _, kind := range []int{api.File, api.Dir} {
		for _, size := range []int{0, 1, 8191, 8192} {
			may(t, "a Size", true, with(kind, func(r *api.Ref) { r.Size = size }))
		}
		for _, size := range []int{-1, -8192, 8193, 65536, 1 << 32, 1<<32 + 5, math.MinInt, math.MaxInt} {
			may(t, "a Size", false, with(kind, func(r *api.Ref) { r.Size = size }))
		}
		for _, meta := range []int{0, 1, 1 << 30, 1<<31 - 1} {
			may(t, "a Meta", true, with(kind, func(r *api.Ref) { r.Meta = meta }))
		}
		for _, meta := range []int{-1, 1 << 31, 1 << 32, 1<<32 + 5, math.MinInt, math.MaxInt} {
			may(t, "a Meta", false, with(kind, func(r *api.Ref) { r.Meta = meta }))
		}
		for _, stamp := range []uint64{0, 1, 1 << 31, 1 << 63, math.MaxUint64} {
			may(t, "a Stamp", true, with(kind, func(r *api.Ref) { r.Stamp = stamp }))
		}
	}
}

func TestP10_1MayOfRoots(t *testing.T) {
	for _, n := range []int{0, 1, 31, 32, 33, 64} {
		may(t, "a file's Root", n == 32, with(api.File, func(r *api.Ref) { r.Root = make([]byte, n) }))
		may(t, "a directory's Root", n == 0, with(api.Dir, func(r *api.Ref) { r.Root = make([]byte, n) }))
	}
	may(t, "a file without Root", false, with(api.File, func(r *api.Ref) { r.Root = nil }))
}

func TestP10_1MayOfOrder(t *testing.T) {
	rising := []string{"a", "a/b", "a/b/c", "a/c", "a-", "a.b", "a0", "b"}
	var refs []api.Ref
	for i, p := range rising {
		refs = append(refs, file(p, i))
	}
	may(t, "rising", true, refs...)
	for i := range refs {
		for j := range refs {
			may(t, rising[i]+" "+rising[j], i < j, refs[i], refs[j])
			may(t, rising[i]+" "+rising[j]+" behind one", i < j, file("0", 1), refs[i], refs[j])
			may(t, rising[i]+" "+rising[j]+" ahead of one", i < j, refs[i], refs[j], file("z", 1))
		}
		may(t, "twice, of two kinds", false, refs[i], dir(rising[i]))
	}
	last := append(many(98), many(100)[99], many(99)[98])
	may(t, "a hundred, the last two turned round", false, last...)
	may(t, "a hundred, the last one bad", false, append(many(99), with(api.File, func(r *api.Ref) { r.Size = -1 }))...)
}

// Any Refs at all, most of them almost an image.
func TestP10_1MayAgainstTheJudge(t *testing.T) {
	random := rand.New(rand.NewSource(101))
	paths := []string{"a", "a/b", "a.b", "b", "b/a", "c", "c", "c/.a", "d", ".e", "e/", "f"}
	pick := func(some ...int) int { return some[random.Intn(len(some))] }
	yes := 0
	for range 100000 {
		var refs []api.Ref
		at := 0
		for range random.Intn(5) {
			at = min(at+1+random.Intn(3), len(paths)-1)
			if random.Intn(12) == 0 {
				at = random.Intn(len(paths))
			}
			r := api.Ref{Path: paths[at], Kind: pick(1, 1, 1, 2), Size: pick(0, 8192, 5), Meta: pick(0, 1<<31-1, 5), Stamp: random.Uint64()}
			if r.Kind == 1 {
				r.Root = make([]byte, 32)
			}
			switch random.Intn(40) {
			case 0:
				r.Kind = pick(0, 3, 1, 2)
			case 1:
				r.Size = pick(-1, 8193)
			case 2:
				r.Meta = pick(-1, 1<<31)
			case 3:
				r.Root = make([]byte, pick(0, 31, 32, 33))
			}
			refs = append(refs, r)
		}
		want := isImage(refs)
		if May(refs) != want {
			t.Fatalf("May is %v of %v", !want, refs)
		}
		if want {
			yes++
		}
	}
	if yes < 10000 || yes > 90000 {
		t.Errorf("%d of 100000 were images", yes)
	}
}
