package codec

import (
	"bytes"
	"slices"

	"linnet/api"
	"linnet/digest"
)

// Seal puts the sum of the bytes behind them.
func Seal(b []byte) []byte {
	return slices.Concat(b, digest.Sum(b))
}

// Unseal takes it off, if it is the sum of what stands before it.
func Unseal(b []byte) ([]byte, api.Errno) {
	cut := len(b) - digest.Size
	if cut < 0 || !digest.Equal(digest.Sum(b[:cut]), b[cut:]) {
		return nil, api.ErrBad
	}
	return bytes.Clone(b[:cut]), api.OK
}
