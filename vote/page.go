package vote

import (
	"linnet/api"
	"linnet/codec"
)

const (
	maxGen  = 1<<31 - 1
	maxBody = 60000
)

// Encode writes one.
func Encode(p Page) ([]byte, api.Errno) {
	if !mayBe(p) {
		return nil, api.ErrArg
	}
	var w codec.Writer
	b, _ := w.Num(p.Gen).Bytes(p.Body).Done() // what may be has no number that makes the Writer bad
	return codec.Seal(b), api.OK
}

// Decode reads one.
func Decode(b []byte) (Page, api.Errno) {
	fields, err := codec.Unseal(b)
	if err != api.OK {
		return Page{}, api.ErrRot
	}
	r := codec.NewReader(fields)
	var p Page
	p.Gen = r.Num()
	p.Body = r.Bytes(maxBody)
	if r.Err() != api.OK || r.Left() > 0 || !mayBe(p) {
		return Page{}, api.ErrRot
	}
	return p, api.OK
}

// mayBe is whether a page is within its limits.
func mayBe(p Page) bool {
	return p.Gen >= 1 && p.Gen <= maxGen && len(p.Body) <= maxBody
}
