// Package digest is SHA-256: see DOC.md, chapter 1.
package digest

import "bytes"

// Size is how long a sum is.
const Size = 32

// Sum is of all bytes, one piece behind the other.
func Sum(b ...[]byte) []byte {
	var h Hasher
	for _, piece := range b {
		h.Add(piece)
	}
	return h.Sum()
}

// Hasher sums what comes; a zero one has had nothing. It holds arrays and no slices, so that a copied one shares nothing.
type Hasher struct {
	chain   chain // means nothing before the first whole block: a zero Hasher must do
	blocks  int
	waiting block // noughts behind the bytes that wait
	waits   int   // always less than a block
}

// Add adds some, and answers the Hasher itself.
func (h *Hasher) Add(b []byte) *Hasher {
	if h == nil {
		return nil
	}
	for len(b) > 0 {
		n := copy(h.waiting[h.waits:], b)
		h.waits += n
		b = b[n:]
		if h.waits == blockSize {
			h.takeBlock()
		}
	}
	return h
}

func (h *Hasher) takeBlock() {
	if h.blocks == 0 {
		h.chain = firstChain()
	}
	h.chain = mix(h.chain, h.waiting)
	h.blocks++
	h.waiting = block{} // what was mixed in is not kept
	h.waits = 0
}

// Sum is of what was added.
func (h *Hasher) Sum() []byte {
	if h == nil {
		return nil
	}
	end := *h // the padding goes to a copy, so that h may go on
	end.Add(padding(h.Len()))
	return end.chain.asBytes()
}

// Copy is another one, which goes on by itself.
func (h *Hasher) Copy() *Hasher {
	if h == nil {
		return nil
	}
	other := *h
	return &other
}

// Len is how many bytes were added.
func (h *Hasher) Len() int {
	if h == nil {
		return 0
	}
	return h.blocks*blockSize + h.waits
}

// Equal tells whether both are the same bytes.
func Equal(a, b []byte) bool { return bytes.Equal(a, b) }
