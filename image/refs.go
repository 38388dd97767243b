package image

import (
	"bytes"

	"linnet/api"
	"linnet/codec"
	"linnet/path"
	"linnet/vote"
)

const (
	maxMeta  = 1<<31 - 1
	rootSize = 32
)

// May tells whether they are an image.
func May(refs []api.Ref) bool {
	if len(refs) > api.MaxFiles {
		return false
	}
	for i, ref := range refs {
		if !mayBe(ref) || i > 0 && !path.Less(refs[i-1].Path, ref.Path) {
			return false
		}
	}
	return true
}

// mayBe is whether an image may have it, whatever stands beside it.
func mayBe(ref api.Ref) bool {
	switch {
	case !path.Valid(ref.Path) || path.Hidden(ref.Path):
		return false
	case ref.Size < 0 || ref.Size > api.MaxFile:
		return false
	case ref.Meta < 0 || ref.Meta > maxMeta:
		return false
	}
	switch ref.Kind {
	case api.File:
		return len(ref.Root) == rootSize
	case api.Dir:
		return len(ref.Root) == 0
	}
	return false
}

// cloned is the same Refs in other memory.
func cloned(refs ...api.Ref) []api.Ref {
	var out []api.Ref
	for _, ref := range refs {
		ref.Root = bytes.Clone(ref.Root)
		out = append(out, ref)
	}
	return out
}

// pageOf is an image as it stands in a copy.
func pageOf(gen int, refs []api.Ref) ([]byte, api.Errno) {
	var w codec.Writer
	for _, ref := range refs {
		w.Text(ref.Path).Num(ref.Kind).Num(ref.Size).Num(ref.Meta).Word(ref.Stamp).Bytes(ref.Root)
	}
	body, _ := w.Done() // an image has no number that makes the Writer bad
	return vote.Encode(vote.Page{Gen: gen, Body: body})
}

// refsOf is the image whose page has this Body; false, if there is none.
func refsOf(body []byte) ([]api.Ref, bool) {
	r := codec.NewReader(body)
	var refs []api.Ref
	for r.Left() > 0 {
		var ref api.Ref
		ref.Path = r.Text(api.MaxPath)
		ref.Kind, ref.Size, ref.Meta = r.Num(), r.Num(), r.Num()
		ref.Stamp = r.Word()
		ref.Root = r.Bytes(rootSize)
		refs = append(refs, ref)
	}
	if r.Err() != api.OK || !May(refs) {
		return nil, false
	}
	return refs, true
}

// ofAnImage is a copy, if it is the page of an image; what stands in any other page has no vote.
func ofAnImage(b []byte) []byte {
	p, _ := vote.Decode(b) // what is no page has no vote either way
	if _, ok := refsOf(p.Body); !ok {
		return nil
	}
	return b
}
