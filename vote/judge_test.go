package vote

import (
	"bytes"
	"cmp"
	"crypto/sha256"
	"encoding/binary"
	"math"
	"slices"
	"testing"

	"linnet/api"
)

// text is n bytes in which no two neighbours are alike.
func text(n int) []byte {
	out := make([]byte, n)
	for i := range out {
		out[i] = byte(i*7 + i/256*31 + 1)
	}
	return out
}

func numOf(n uint32) []byte { return binary.LittleEndian.AppendUint32(nil, n) }

// sealedOf is the judge of seals: the library's own SHA-256.
func sealedOf(fields ...[]byte) []byte {
	b := slices.Concat(fields...)
	s := sha256.Sum256(b)
	return slices.Concat(b, s[:])
}

// bytesOf is the judge of Encode.
func bytesOf(p Page) []byte {
	return sealedOf(numOf(uint32(p.Gen)), numOf(uint32(len(p.Body))), p.Body)
}

func page(gen int, body string) Page { return Page{Gen: gen, Body: []byte(body)} }

// wrongGens are those that no page has.
func wrongGens() []int {
	return []int{0, -1, -2, 1 << 31, 1<<31 + 1, 1 << 32, 1<<32 + 1, 1<<32 + 258, -1 << 31, math.MaxInt, math.MinInt}
}

// heldCopy is a copy, and the page whose Encode it is; of none the Gen is 0.
type heldCopy struct {
	b []byte
	p Page
}

func copyOf(gen int, body string) heldCopy {
	p := page(gen, body)
	return heldCopy{b: bytesOf(p), p: p}
}

// someCopies are pages of a few Gens and Bodies, and copies that are no page's, in many ways.
func someCopies() []heldCopy {
	return []heldCopy{
		copyOf(1, "x"), copyOf(1, "y"), copyOf(1, ""), copyOf(2, "x"), copyOf(2, "y"), copyOf(3, "z"), copyOf(258, "x"), copyOf(math.MaxInt32, "x"),
		{}, {b: []byte{}}, {b: []byte("bad")}, {b: make([]byte, 40)},
		{b: bytesOf(page(9, "x"))[:40]}, {b: append(bytesOf(page(9, "x")), 0)},
		{b: sealedOf()}, {b: sealedOf(numOf(0), numOf(1), []byte("x"))}, {b: sealedOf(numOf(1<<31), numOf(1), []byte("x"))},
	}
}

// verdict is what Vote tells.
type verdict struct {
	p        Page
	minority []int
	e        api.Errno
}

// verdictOf is the judge of Vote: it ranks copies by their votes and their Gens, rather than comparing two by two.
func verdictOf(copies ...heldCopy) verdict {
	votes := map[string]int{}
	for _, c := range copies {
		votes[string(c.b)]++
	}
	rank := func(c heldCopy) int {
		if c.p.Gen > 0 && votes[string(c.b)] > 1 {
			return math.MaxInt
		}
		return c.p.Gen
	}
	best := slices.MaxFunc(copies, func(a, b heldCopy) int { return cmp.Compare(rank(a), rank(b)) }) // the first of several
	if best.p.Gen == 0 {
		return verdict{e: api.ErrRot}
	}
	v := verdict{p: best.p}
	for i, c := range copies {
		if !bytes.Equal(c.b, best.b) {
			v.minority = append(v.minority, i)
		}
	}
	return v
}

func same(t *testing.T, what string, got, want []byte) {
	t.Helper()
	if !bytes.Equal(got, want) {
		t.Errorf("%s:\n got %x\nwant %x", what, got, want)
	}
}

// samePage looks field by field, so that Same itself can be judged.
func samePage(t *testing.T, what string, got, want Page) {
	t.Helper()
	if got.Gen != want.Gen || !bytes.Equal(got.Body, want.Body) {
		t.Errorf("%s:\n got Gen %d, Body %x\nwant Gen %d, Body %x", what, got.Gen, got.Body, want.Gen, want.Body)
	}
}

// votes holds that three copies say this.
func votes(t *testing.T, what string, a, b, c []byte, want verdict) {
	t.Helper()
	p, minority, e := Vote(a, b, c)
	if e != want.e || !slices.Equal(minority, want.minority) {
		t.Errorf("%s: minority %v and %d, want %v and %d", what, minority, e, want.minority, want.e)
	}
	samePage(t, what, p, want.p)
}

// refused holds that Decode finds no page in the bytes.
func refused(t *testing.T, what string, b []byte) {
	t.Helper()
	if p, e := Decode(b); e != api.ErrRot || p.Gen != 0 || len(p.Body) != 0 {
		t.Errorf("%s: Gen %d, Body %x and %d, want none and ErrRot", what, p.Gen, p.Body, e)
	}
}

// roomy is a copy with spare room that holds 0xee.
func roomy(b []byte) []byte {
	all := append(bytes.Clone(b), bytes.Repeat([]byte{0xee}, 9)...)
	return all[:len(b)]
}

// spoil overwrites every byte, those of the spare room too.
func spoil(b []byte) {
	b = b[:cap(b)]
	for i := range b {
		b[i] ^= 0xff
	}
}
