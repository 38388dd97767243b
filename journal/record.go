package journal

import (
	"linnet/api"
	"linnet/codec"
	"linnet/path"
)

const (
	maxNum   = 1<<31 - 1
	rootSize = 32
)

// mayBe is whether an Intent may be added, whatever its ID.
func mayBe(i Intent) bool {
	switch {
	case !path.Valid(i.Path) || !mayStand(i.Temp) || !mayStand(i.Aside):
		return false
	case len(i.Root) != 0 && len(i.Root) != rootSize:
		return false
	}
	return isNum(i.Size) && isNum(i.Meta)
}

// mayStand is whether a path that may be wanting is none, or one.
func mayStand(p string) bool {
	return p == "" || path.Valid(p)
}

func isNum(n int) bool {
	return n >= 0 && n <= maxNum
}

// encode is an Intent's record; its ID is told by where that stands.
func encode(i Intent) []byte {
	var w codec.Writer
	w.Text(i.Path).Text(i.Temp).Text(i.Aside).Bytes(i.Root).Num(i.Size).Num(i.Meta)
	b, _ := w.Done() // what may be has no number that makes the Writer bad
	return codec.Seal(b)
}

// decode is the Intent whose record it is, without its ID; false, if it is none.
func decode(b []byte) (Intent, bool) {
	fields, err := codec.Unseal(b)
	if err != api.OK {
		return Intent{}, false
	}
	r := codec.NewReader(fields)
	var i Intent
	i.Path, i.Temp, i.Aside = r.Text(api.MaxPath), r.Text(api.MaxPath), r.Text(api.MaxPath)
	i.Root = r.Bytes(rootSize)
	i.Size, i.Meta = r.Num(), r.Num()
	if r.Err() != api.OK || r.Left() > 0 || !mayBe(i) {
		return Intent{}, false
	}
	return i, true
}
