package classify

import (
	"bytes"
	"testing"

	"linnet/api"
	"linnet/merkle"
)

// rootOf is a file's root, as the layers above take it.
func rootOf(data []byte) []byte { return merkle.Root(merkle.Leaves(data, 16)) }

// Two states of a file's bytes, of one size.
var (
	bytesWere = []byte("the quick brown fox jumps over")
	bytesAre  = []byte("the quick brown fix jumps over")
)

// was is an acknowledged path of a kind.
func was(kind int) api.Ref {
	ref := api.Ref{Path: "d/a", Kind: kind, Size: 30, Meta: 4, Stamp: 1<<63 + 5}
	if kind != api.Dir {
		ref.Root = rootOf(bytesWere)
	}
	return ref
}

// unchanged is what a store tells of a path that is as it was.
func unchanged(ref api.Ref) api.Stat {
	return api.Stat{Path: ref.Path, Kind: ref.Kind, Size: ref.Size, Meta: ref.Meta, Stamp: ref.Stamp}
}

// classOf is the judge of Of: a table by what is alike, not a walk through conditions.
func classOf(ref api.Ref, has bool, now api.Stat, is bool, root []byte) int {
	there := [2][2]int{{0, api.New}, {api.Gone, -1}}
	if c := there[bit(has)][bit(is)]; c >= 0 {
		return c
	}
	if ref.Kind != now.Kind {
		return api.Other
	}
	stamp, meta := bit(ref.Stamp == now.Stamp), bit(ref.Meta == now.Meta)
	if now.Kind == api.Dir {
		return [2][2]int{{api.Meta, api.Meta}, {api.Meta, api.Same}}[stamp][meta]
	}
	size, same := bit(ref.Size == now.Size), bit(bytes.Equal(ref.Root, root))
	ofFile := [2][2][2][2]int{
		{ // another Stamp: by Size, root, Meta
			{{api.Edit, api.Edit}, {api.Edit, api.Edit}},
			{{api.Edit, api.Edit}, {api.Meta, api.Meta}},
		},
		{ // the same Stamp
			{{api.Rot, api.Rot}, {api.Rot, api.Rot}},
			{{api.Rot, api.Rot}, {api.Rot, api.Same}},
		},
	}
	return ofFile[stamp][size][same][meta]
}

func bit(b bool) int {
	if b {
		return 1
	}
	return 0
}

// roomy is b with spare room behind it, and the whole of that memory.
func roomy(b []byte) (part, whole []byte) {
	whole = append(bytes.Clone(b), 0xa5, 0xa5, 0xa5, 0xa5)
	return whole[:len(b)], whole
}

// spoil turns all of b, its spare room too.
func spoil(b []byte) {
	b = b[:cap(b)]
	for i := range b {
		b[i] ^= 0xff
	}
}

func sameRef(t *testing.T, what string, got, want api.Ref) {
	t.Helper()
	if got.Path != want.Path || got.Kind != want.Kind || got.Size != want.Size || got.Meta != want.Meta || got.Stamp != want.Stamp || !bytes.Equal(got.Root, want.Root) {
		t.Errorf("%s:\n got %v\nwant %v", what, got, want)
	}
}
