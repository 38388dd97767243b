package classify

import (
	"bytes"
	"math"
	"testing"

	"linnet/api"
)

// mustBe asks for one class.
func mustBe(t *testing.T, what string, got, want int) {
	t.Helper()
	if got != want {
		t.Errorf("%s: got %d (%s), want %d", what, got, Word(got), want)
	}
}

func TestP8_1OfWhatIsThereOrNot(t *testing.T) {
	for _, kind := range []int{api.File, api.Dir, 0, 3} {
		ref := was(kind)
		now := unchanged(ref)
		mustBe(t, "neither", Of(ref, false, now, false, ref.Root), 0)
		mustBe(t, "no Ref", Of(ref, false, now, true, ref.Root), api.New)
		mustBe(t, "nothing there", Of(ref, true, now, false, ref.Root), api.Gone)
		mustBe(t, "both", Of(ref, true, now, true, ref.Root), api.Same)
	}
	mustBe(t, "neither, all zero", Of(api.Ref{}, false, api.Stat{}, false, nil), 0)
	mustBe(t, "no Ref, all zero", Of(api.Ref{}, false, api.Stat{}, true, nil), api.New)
	mustBe(t, "nothing there, all zero", Of(api.Ref{}, true, api.Stat{}, false, nil), api.Gone)
	mustBe(t, "both, all zero", Of(api.Ref{}, true, api.Stat{}, true, nil), api.Same)
	other := unchanged(was(api.Dir))
	mustBe(t, "no Ref, of another kind", Of(was(api.File), false, other, true, nil), api.New)
	mustBe(t, "nothing there, of another kind", Of(was(api.File), true, other, false, nil), api.Gone)
}

func TestP8_1OfOtherKinds(t *testing.T) {
	for _, from := range []int{api.File, api.Dir, 0, 3, -1} {
		for _, to := range []int{api.File, api.Dir, 0, 3, -1} {
			if from == to {
				continue
			}
			ref := was(from)
			now := unchanged(ref)
			now.Kind = to
			mustBe(t, "only the Kind", Of(ref, true, now, true, ref.Root), api.Other)
			now.Stamp++
			now.Meta++
			now.Size++
			mustBe(t, "all", Of(ref, true, now, true, rootOf(bytesAre)), api.Other)
		}
	}
}

func TestP8_1OfDirectories(t *testing.T) {
	ref := was(api.Dir)
	of := func(meta int, stamp uint64, size int, root []byte) int {
		return Of(ref, true, api.Stat{Path: ref.Path, Kind: api.Dir, Size: size, Meta: meta, Stamp: stamp}, true, root)
	}
	mustBe(t, "as it was", of(ref.Meta, ref.Stamp, ref.Size, nil), api.Same)
	mustBe(t, "another Meta", of(ref.Meta+1, ref.Stamp, ref.Size, nil), api.Meta)
	mustBe(t, "another Stamp", of(ref.Meta, ref.Stamp+1, ref.Size, nil), api.Meta)
	mustBe(t, "both", of(ref.Meta-1, ref.Stamp-1, ref.Size, nil), api.Meta)
	mustBe(t, "a Size and a root do not count", of(ref.Meta, ref.Stamp, 0, rootOf(bytesAre)), api.Same)
	mustBe(t, "nor beside another Stamp", of(ref.Meta, ref.Stamp+1, 0, rootOf(bytesAre)), api.Meta)
	ref.Root = rootOf(bytesWere)
	mustBe(t, "nor a Ref's root", of(ref.Meta, ref.Stamp, ref.Size, nil), api.Same)
}

func TestP8_1OfFiles(t *testing.T) {
	for _, kind := range []int{api.File, 0, 3, -1, math.MaxInt, math.MinInt} {
		ref := was(kind)
		were, are := ref.Root, rootOf(bytesAre)
		of := func(stamp uint64, size, meta int, root []byte) int {
			return Of(ref, true, api.Stat{Path: ref.Path, Kind: kind, Size: size, Meta: meta, Stamp: stamp}, true, root)
		}
		mustBe(t, "as it was", of(ref.Stamp, 30, 4, were), api.Same)
		mustBe(t, "the same Stamp, another Size", of(ref.Stamp, 31, 4, were), api.Rot)
		mustBe(t, "the same Stamp, another Meta", of(ref.Stamp, 30, 5, were), api.Rot)
		mustBe(t, "the same Stamp, another root", of(ref.Stamp, 30, 4, are), api.Rot)
		mustBe(t, "the same Stamp, all others", of(ref.Stamp, 29, 3, are), api.Rot)
		for _, stamp := range []uint64{ref.Stamp + 1, ref.Stamp - 1, ref.Stamp ^ 1<<63, 0, math.MaxUint64} {
			mustBe(t, "another Stamp, nothing else", of(stamp, 30, 4, were), api.Meta)
			mustBe(t, "another Stamp and Meta", of(stamp, 30, 5, were), api.Meta)
			mustBe(t, "another Stamp and Size", of(stamp, 31, 4, were), api.Edit)
			mustBe(t, "another Stamp and root", of(stamp, 30, 4, are), api.Edit)
			mustBe(t, "another Stamp, Meta and Size", of(stamp, 29, 3, were), api.Edit)
			mustBe(t, "another Stamp, Meta and root", of(stamp, 30, 3, are), api.Edit)
		}
	}
}

func TestP8_1OfRootsThatAreNone(t *testing.T) {
	ref := was(api.File)
	now := unchanged(ref)
	edited := now
	edited.Stamp++
	short := ref.Root[:31]
	long := append(bytes.Clone(ref.Root), 0)
	for _, root := range [][]byte{nil, {}, short, long} {
		mustBe(t, "against one", Of(ref, true, now, true, root), api.Rot)
		mustBe(t, "against one, another Stamp", Of(ref, true, edited, true, root), api.Edit)
		less := ref
		less.Root = root
		mustBe(t, "one against it", Of(less, true, now, true, ref.Root), api.Rot)
		mustBe(t, "one against it, another Stamp", Of(less, true, edited, true, ref.Root), api.Edit)
		mustBe(t, "against itself", Of(less, true, now, true, bytes.Clone(root)), api.Same)
	}
	ref.Root = nil
	mustBe(t, "an empty one against none", Of(ref, true, now, true, []byte{}), api.Same)
	ref.Root = []byte{}
	mustBe(t, "none against an empty one", Of(ref, true, now, true, nil), api.Same)
	mustBe(t, "the same, another Stamp", Of(ref, true, edited, true, nil), api.Meta)
}

func TestP8_1OfDoesNotAskForThePath(t *testing.T) {
	for _, kind := range []int{api.File, api.Dir} {
		ref := was(kind)
		now := unchanged(ref)
		now.Path = "elsewhere"
		mustBe(t, "another Path", Of(ref, true, now, true, ref.Root), api.Same)
	}
}

// states are all ways to put together a few values of each field, wrong ones too.
func states() []api.Ref {
	var all []api.Ref
	for _, kind := range []int{0, api.File, api.Dir, 9} {
		for _, size := range []int{-1, 0, 7} {
			for _, meta := range []int{-1, 0, 7} {
				for _, stamp := range []uint64{0, math.MaxUint64} {
					for _, root := range [][]byte{nil, {0}, rootOf(nil), rootOf(bytesWere)} {
						all = append(all, api.Ref{Path: "a", Kind: kind, Size: size, Meta: meta, Stamp: stamp, Root: root})
					}
				}
			}
		}
	}
	return all
}

// everyPair calls f with each state that was, and each that may be there now.
func everyPair(f func(ref api.Ref, now api.Stat, root []byte)) {
	all := states()
	for _, ref := range all {
		for _, next := range all {
			f(ref, unchanged(next), next.Root)
		}
	}
}

func TestP8_1OfAgainstTheTable(t *testing.T) {
	everyPair(func(ref api.Ref, now api.Stat, root []byte) {
		for n := range 4 {
			has, is := n&1 != 0, n&2 != 0
			got, want := Of(ref, has, now, is, root), classOf(ref, has, now, is, root)
			if got != want {
				t.Fatalf("Of(%v, %v, %v, %v, %x): got %d, want %d", ref, has, now, is, root, got, want)
			}
		}
	})
}

func TestP8_2RefKeepsAllFields(t *testing.T) {
	now := api.Stat{Path: "d/a", Kind: api.File, Size: 30, Meta: 4, Stamp: math.MaxUint64}
	root := rootOf(bytesWere)
	sameRef(t, "a file", Ref(now, root), api.Ref{Path: "d/a", Kind: 1, Size: 30, Meta: 4, Stamp: math.MaxUint64, Root: root})
	sameRef(t, "a file without a root", Ref(now, nil), api.Ref{Path: "d/a", Kind: 1, Size: 30, Meta: 4, Stamp: math.MaxUint64})
	sameRef(t, "a root of any length", Ref(now, []byte{1}), api.Ref{Path: "d/a", Kind: 1, Size: 30, Meta: 4, Stamp: math.MaxUint64, Root: []byte{1}})
	sameRef(t, "all zero", Ref(api.Stat{}, nil), api.Ref{})
	for _, kind := range []int{0, 3, -1, math.MaxInt, math.MinInt} {
		now.Kind = kind
		sameRef(t, "a Kind that is none", Ref(now, root), api.Ref{Path: "d/a", Kind: kind, Size: 30, Meta: 4, Stamp: math.MaxUint64, Root: root})
	}
	wrong := api.Stat{Path: "//\xff", Kind: api.File, Size: -1, Meta: math.MinInt}
	sameRef(t, "what no store tells", Ref(wrong, root), api.Ref{Path: "//\xff", Kind: 1, Size: -1, Meta: math.MinInt, Root: root})
}

func TestP8_2RefOfADirectoryHasNoRoot(t *testing.T) {
	now := api.Stat{Path: "d", Kind: api.Dir, Size: 9, Meta: 4, Stamp: 5}
	for _, root := range [][]byte{nil, {}, {1}, rootOf(bytesWere)} {
		sameRef(t, "a directory", Ref(now, root), api.Ref{Path: "d", Kind: 2, Size: 9, Meta: 4, Stamp: 5})
	}
}

func TestP8_2OfARefIsSame(t *testing.T) {
	for _, state := range states() {
		now, root := unchanged(state), state.Root
		if got := Of(Ref(now, root), true, now, true, root); got != api.Same {
			t.Fatalf("Of the Ref of %v and %x: got %d", now, root, got)
		}
	}
}

func TestP8_2SameAsksForEachField(t *testing.T) {
	turns := []struct {
		what string
		turn func(r *api.Ref)
	}{
		{"Path", func(r *api.Ref) { r.Path += "b" }},
		{"Path, none", func(r *api.Ref) { r.Path = "" }},
		{"Kind", func(r *api.Ref) { r.Kind += 2 }},
		{"Size", func(r *api.Ref) { r.Size++ }},
		{"Meta", func(r *api.Ref) { r.Meta = -r.Meta }},
		{"Stamp", func(r *api.Ref) { r.Stamp ^= 1 << 63 }},
		{"Root, a bit", func(r *api.Ref) { r.Root = bytes.Clone(r.Root); r.Root[31] ^= 1 }},
		{"Root, shorter", func(r *api.Ref) { r.Root = r.Root[:31] }},
		{"Root, none", func(r *api.Ref) { r.Root = nil }},
		{"Root, empty", func(r *api.Ref) { r.Root = []byte{} }},
	}
	for _, kind := range []int{api.File, api.Dir, 0, 3} {
		a := was(kind)
		a.Root = rootOf(bytesWere) // Same asks for a directory's, too
		b := a
		b.Root = bytes.Clone(a.Root)
		if !Same(a, b) || !Same(a, a) {
			t.Errorf("kind %d: not the same as a copy, or as itself", kind)
		}
		for _, one := range turns {
			b := a
			one.turn(&b)
			if Same(a, b) || Same(b, a) {
				t.Errorf("kind %d: the same, with an unlike %s", kind, one.what)
			}
		}
	}
}

func TestP8_2SameOfNoRoots(t *testing.T) {
	none, empty := was(api.Dir), was(api.Dir)
	none.Root, empty.Root = nil, []byte{}
	if !Same(none, empty) || !Same(empty, none) || !Same(none, none) || !Same(empty, empty) {
		t.Error("no root and an empty one do not mean the same")
	}
	if !Same(api.Ref{}, api.Ref{}) || Same(api.Ref{}, none) {
		t.Error("zero Refs")
	}
}

func TestP8_2WordAndRotten(t *testing.T) {
	words := []struct {
		class int
		word  string
	}{
		{api.Same, "same"}, {api.New, "new"}, {api.Gone, "gone"}, {api.Edit, "edit"},
		{api.Meta, "meta"}, {api.Rot, "rot"}, {api.Other, "other"},
		{0, ""}, {-1, ""}, {8, ""}, {9, ""}, {255, ""}, {256 + api.Rot, ""}, {1<<32 + api.Rot, ""}, {-api.Rot, ""},
		{math.MaxInt, ""}, {math.MinInt, ""},
	}
	for _, one := range words {
		if got := Word(one.class); got != one.word {
			t.Errorf("Word(%d): got %q, want %q", one.class, got, one.word)
		}
		if got := Rotten(one.class); got != (one.word == "rot") {
			t.Errorf("Rotten(%d): got %v", one.class, got)
		}
	}
}
