package sidecar

import (
	"bytes"
	"crypto/sha256"
	"encoding/binary"
	"slices"
	"strconv"
	"testing"

	"linnet/api"
)

// text is n bytes in which no two blocks are alike.
func text(n int) []byte {
	out := make([]byte, n)
	for i := range out {
		out[i] = byte(i*7 + i/16*31 + i/4096*5 + 1)
	}
	return out
}

func sumOf(pieces ...[]byte) []byte {
	s := sha256.Sum256(slices.Concat(pieces...))
	return s[:]
}

// rootOf is the judge of roots: from above, not level by level. The left half is the greatest power of two that leaves something to the right one.
func rootOf(leaves [][]byte) []byte {
	switch len(leaves) {
	case 0:
		return sumOf()
	case 1:
		return bytes.Clone(leaves[0])
	}
	half := 1
	for half*2 < len(leaves) {
		half *= 2
	}
	return sumOf([]byte{1}, rootOf(leaves[:half]), rootOf(leaves[half:]))
}

// sideOf is the judge of Make: the library's own SHA-256, and parities byte by byte.
func sideOf(data []byte, block, k int) Side {
	s := Side{Size: len(data), Block: block, K: k}
	for b := range slices.Chunk(data, block) {
		s.Leaves = append(s.Leaves, sumOf([]byte{0}, b))
	}
	for i, b := range data {
		if i%(block*k) == 0 {
			s.Parity = append(s.Parity, make([]byte, block))
		}
		s.Parity[i/(block*k)][i%block] ^= b
	}
	s.Root = rootOf(s.Leaves)
	return s
}

func numOf(n int) []byte { return binary.LittleEndian.AppendUint32(nil, uint32(n)) }

// fieldsOf is what stands ahead of the seal, of any Side, Sound or not.
func fieldsOf(s Side) []byte {
	out := slices.Concat(numOf(s.Size), numOf(s.Block), numOf(s.K))
	for _, one := range slices.Concat(s.Leaves, s.Parity) {
		out = append(out, numOf(len(one))...)
		out = append(out, one...)
	}
	return out
}

func sealedOf(fields []byte) []byte { return slices.Concat(fields, sumOf(fields)) }

// made is Make of what may be.
func made(t *testing.T, data []byte, block, k int) Side {
	t.Helper()
	s, err := Make(data, block, k)
	if err != api.OK {
		t.Fatalf("Make of %d bytes by %d and %d: %d", len(data), block, k, err)
	}
	return s
}

func same(t *testing.T, what string, got, want []byte) {
	t.Helper()
	if !bytes.Equal(got, want) {
		t.Errorf("%s:\n got %x\nwant %x", what, got, want)
	}
}

func samePlaces(t *testing.T, what string, got, want []int) {
	t.Helper()
	if !slices.Equal(got, want) {
		t.Errorf("%s:\n got %v\nwant %v", what, got, want)
	}
}

// sameSide looks field by field, so that Same itself can be judged.
func sameSide(t *testing.T, what string, got, want Side) {
	t.Helper()
	if got.Size != want.Size || got.Block != want.Block || got.K != want.K {
		t.Errorf("%s: numbers %d %d %d, want %d %d %d", what, got.Size, got.Block, got.K, want.Size, want.Block, want.K)
	}
	same(t, what+": Root", got.Root, want.Root)
	if !slices.EqualFunc(got.Leaves, want.Leaves, bytes.Equal) {
		t.Errorf("%s: Leaves\n got %x\nwant %x", what, got.Leaves, want.Leaves)
	}
	if !slices.EqualFunc(got.Parity, want.Parity, bytes.Equal) {
		t.Errorf("%s: Parity\n got %x\nwant %x", what, got.Parity, want.Parity)
	}
}

func isZero(s Side) bool {
	return s.Size == 0 && s.Block == 0 && s.K == 0 && len(s.Root) == 0 && len(s.Leaves) == 0 && len(s.Parity) == 0
}

func clones(list [][]byte) [][]byte {
	var out [][]byte
	for _, b := range list {
		out = append(out, bytes.Clone(b))
	}
	return out
}

func cloned(s Side) Side {
	s.Root, s.Leaves, s.Parity = bytes.Clone(s.Root), clones(s.Leaves), clones(s.Parity)
	return s
}

// turned is data with the bytes at these places changed.
func turned(data []byte, places ...int) []byte {
	out := bytes.Clone(data)
	for _, i := range places {
		out[i] ^= 0x55
	}
	return out
}

// roomy is a copy with spare room that holds 0xee.
func roomy(b []byte) []byte {
	all := append(bytes.Clone(b), bytes.Repeat([]byte{0xee}, 9)...)
	return all[:len(b)]
}

// roomyList is a copy of roomy ones, with spare room that holds a list.
func roomyList(list [][]byte) [][]byte {
	out := make([][]byte, 0, len(list)+3)
	for _, b := range list {
		out = append(out, roomy(b))
	}
	return append(out, []byte{1}, []byte{2})[:len(list)]
}

// spoil overwrites every byte, those of the spare room too.
func spoil(b []byte) {
	b = b[:cap(b)]
	for i := range b {
		b[i] ^= 0xff
	}
}

// listsOf is all lists of bytes of a Side.
func listsOf(s Side) [][]byte {
	return slices.Concat([][]byte{s.Root}, s.Leaves, s.Parity)
}

// spoilSide overwrites all that a Side holds.
func spoilSide(s Side) {
	for _, b := range listsOf(s) {
		spoil(b)
	}
	clear(s.Leaves[:cap(s.Leaves)])
	clear(s.Parity[:cap(s.Parity)])
}

// unsound is a Side that may not be, and why.
type unsound struct {
	why string
	s   Side
	// Whether the fault is gone when it is written and read: the Root is not written.
	unseen bool
}

// unsounds are Sides of 83 bytes by 16 and 2 (6 leaves, 3 parities), each with one fault.
func unsounds() []unsound {
	var out []unsound
	add := func(why string, change func(s *Side)) {
		s := sideOf(text(83), 16, 2)
		change(&s)
		out = append(out, unsound{why: why, s: s})
	}
	numberFaults(add)
	listFaults("leaf", func(s *Side) *[][]byte { return &s.Leaves }, add)
	listFaults("parity", func(s *Side) *[][]byte { return &s.Parity }, add)
	emptyFaults(add)
	rooted := len(out)
	rootFaults(add)
	for i := range out[rooted:] {
		out[rooted+i].unseen = true
	}
	return out
}

// far is cut to 32 bits where it is written; neither it nor -far becomes 0 by that, which is a Size that may be.
const far = 1<<62 - 1

func numberFaults(add func(string, func(s *Side))) {
	for _, n := range []int{-1, -83, -far, 0, 1, 80, 97, 8192, 8193, 1 << 20, 1<<20 + 1, far} {
		add("Size "+strconv.Itoa(n), func(s *Side) { s.Size = n })
	}
	for _, n := range []int{-16, -1, 0, 1, 13, 15, 17, 4096, 4097, 83, far, -far} {
		add("Block "+strconv.Itoa(n), func(s *Side) { s.Block = n })
	}
	for _, n := range []int{-1, 0, 1, 3, 8, 9, far, -far} {
		add("K "+strconv.Itoa(n), func(s *Side) { s.K = n })
	}
}

// emptyFaults have no leaves, no parities and their Root: as many as numbers make that may not be.
func emptyFaults(add func(string, func(s *Side))) {
	for _, c := range [][3]int{{-1, 16, 1}, {-far, 16, 1}, {1<<20 + 1, 16, 1}, {far, 16, 1}, {83, 0, 1}, {83, 4097, 1}, {0, 15, 1}, {0, 4097, 1}, {0, 16, 0}, {0, 16, 9}, {0, 16, -1}} {
		what := "none, of " + strconv.Itoa(c[0]) + " by " + strconv.Itoa(c[1]) + " and " + strconv.Itoa(c[2])
		add(what, func(s *Side) { *s = Side{Size: c[0], Block: c[1], K: c[2], Root: sumOf()} })
	}
}

// listFaults keeps the Root that of the leaves, so that nothing else is wrong.
func listFaults(name string, of func(s *Side) *[][]byte, add func(string, func(s *Side))) {
	fault := func(why string, change func(list [][]byte) [][]byte) {
		add(name+": "+why, func(s *Side) {
			list := of(s)
			*list = change(*list)
			s.Root = rootOf(s.Leaves)
		})
	}
	fault("one too few", func(list [][]byte) [][]byte { return list[:len(list)-1] })
	fault("none", func(list [][]byte) [][]byte { return nil })
	fault("one too many", func(list [][]byte) [][]byte { return append(list, bytes.Clone(list[0])) })
	fault("an empty one too many", func(list [][]byte) [][]byte { return append(list, nil) })
	for _, at := range []int{0, 2} {
		fault("a nil one", func(list [][]byte) [][]byte { list[at] = nil; return list })
		fault("a short one", func(list [][]byte) [][]byte { list[at] = list[at][1:]; return list })
		fault("a long one", func(list [][]byte) [][]byte { list[at] = append(list[at], 0); return list })
	}
	fault("a byte moved to the neighbour", func(list [][]byte) [][]byte {
		list[1] = slices.Concat(list[0][len(list[0])-1:], list[1])
		list[0] = list[0][:len(list[0])-1]
		return list
	})
}

func rootFaults(add func(string, func(s *Side))) {
	add("no Root", func(s *Side) { s.Root = nil })
	add("a short Root", func(s *Side) { s.Root = s.Root[:31] })
	add("a long Root", func(s *Side) { s.Root = append(s.Root, 0) })
	add("a changed Root", func(s *Side) { s.Root[31] ^= 1 })
	add("a Root of other data", func(s *Side) { s.Root = sideOf(text(82), 16, 2).Root })
	add("a leaf as Root", func(s *Side) { s.Root = bytes.Clone(s.Leaves[0]) })
	add("a Root of nothing", func(s *Side) { s.Root = sumOf() })
	add("a changed leaf", func(s *Side) { s.Leaves[5][0] ^= 1 })
	add("leaves that have changed places", func(s *Side) { s.Leaves[0], s.Leaves[1] = s.Leaves[1], s.Leaves[0] })
}
