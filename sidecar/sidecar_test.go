package sidecar

import (
	"math"
	"math/rand"
	"testing"

	"linnet/api"
)

func TestP7_1MakeAgainstTheJudge(t *testing.T) {
	for _, size := range []int{0, 1, 15, 16, 17, 31, 32, 33, 64, 127, 128, 129, 255, 256, 257, 4095, 4096, 4097, 8191, 8192} {
		for _, block := range []int{16, 17, 31, 100, 4095, 4096} {
			for k := 1; k <= 8; k++ {
				sameSide(t, "Make", made(t, text(size), block, k), sideOf(text(size), block, k))
			}
		}
	}
	rnd := rand.New(rand.NewSource(71))
	for range 300 {
		data := make([]byte, rnd.Intn(600))
		rnd.Read(data)
		block, k := 16+rnd.Intn(50), 1+rnd.Intn(8)
		sameSide(t, "Make", made(t, data, block, k), sideOf(data, block, k))
	}
}

func TestP7_1MakeOfNoBytes(t *testing.T) {
	for _, data := range [][]byte{nil, {}} {
		for _, block := range []int{16, 4096} {
			for _, k := range []int{1, 8} {
				s := made(t, data, block, k)
				if s.Size != 0 || s.Block != block || s.K != k || len(s.Leaves) != 0 || len(s.Parity) != 0 || !Sound(s) {
					t.Errorf("Make of no bytes by %d and %d: %v", block, k, s)
				}
				same(t, "Root", s.Root, sumOf())
			}
		}
	}
}

func TestP7_1MakeAtTheLimits(t *testing.T) {
	s := made(t, text(8192), 16, 1)
	if len(s.Leaves) != 512 || len(s.Parity) != 512 || !Sound(s) {
		t.Errorf("8192 bytes by 16 and 1: %d leaves, %d parities", len(s.Leaves), len(s.Parity))
	}
	s = made(t, text(8192), 4096, 8)
	if len(s.Leaves) != 2 || len(s.Parity) != 1 || !Sound(s) {
		t.Errorf("8192 bytes by 4096 and 8: %d leaves, %d parities", len(s.Leaves), len(s.Parity))
	}
}

func TestP7_1MakeRefused(t *testing.T) {
	for _, c := range []struct {
		data     []byte
		block, k int
	}{
		{text(9), 15, 1}, {nil, 15, 1}, {nil, 4097, 1}, {text(9), 4097, 8}, {nil, 0, 1}, {nil, -1, 1}, {nil, -16, 1}, {nil, 1, 1}, {nil, math.MaxInt, 1}, {nil, math.MinInt, 1},
		{text(9), 16, 0}, {nil, 16, 0}, {nil, 16, 9}, {text(9), 4096, 9}, {nil, 16, -1}, {nil, 16, math.MaxInt}, {nil, 16, math.MinInt},
		{text(8193), 16, 1}, {text(8193), 4096, 8}, {text(1 << 20), 4096, 8}, {text(1<<20 + 1), 4096, 8}, {text(8193), 0, 0}, {text(8193), 4097, 9},
	} {
		if s, err := Make(c.data, c.block, c.k); err != api.ErrArg || !isZero(s) {
			t.Errorf("Make of %d bytes by %d and %d: %v and %d, want none and ErrArg", len(c.data), c.block, c.k, s, err)
		}
	}
}

func TestP7_1Sound(t *testing.T) {
	for size := range 200 {
		s := sideOf(text(size), 16+size%40, 1+size%8)
		if !Sound(s) {
			t.Errorf("%d bytes by %d and %d: not Sound", size, s.Block, s.K)
		}
	}
	for _, c := range [][3]int{{0, 16, 1}, {0, 4096, 8}, {8192, 16, 8}, {8192, 4096, 1}, {8191, 4095, 7}} {
		if !Sound(sideOf(text(c[0]), c[1], c[2])) {
			t.Errorf("%v: not Sound", c)
		}
	}
}

func TestP7_1NotSound(t *testing.T) {
	if Sound(Side{}) {
		t.Error("a zero Side is Sound")
	}
	for _, u := range unsounds() {
		if Sound(u.s) {
			t.Errorf("%q: Sound", u.why)
		}
	}
	for _, c := range [][3]int{{8193, 16, 1}, {8193, 4096, 8}, {32, 15, 2}, {5000, 4097, 2}, {200, 16, 9}} {
		if Sound(sideOf(text(c[0]), c[1], c[2])) {
			t.Errorf("%v: Sound, though the numbers may not be", c)
		}
	}
	if s := sideOf(nil, 16, 1); Sound(Side{Block: 16, K: 1, Root: s.Root, Leaves: [][]byte{s.Root}}) || Sound(Side{Block: 16, K: 1}) {
		t.Error("no bytes, with a leaf or with no Root: Sound")
	}
}

// Sound asks for the form alone: which bytes the leaves and the parities have, no data tells here.
func TestP7_1SoundOfOtherBytes(t *testing.T) {
	s := sideOf(text(83), 16, 2)
	for i := range s.Leaves {
		spoil(s.Leaves[i])
	}
	for i := range s.Parity {
		spoil(s.Parity[i])
	}
	s.Root = rootOf(s.Leaves)
	if !Sound(s) {
		t.Error("other leaves and parities, and their Root: not Sound")
	}
	for size := 81; size <= 96; size++ {
		if s.Size = size; !Sound(s) {
			t.Errorf("as many blocks, %d bytes: not Sound", size)
		}
	}
}

func TestP7_2Same(t *testing.T) {
	s := sideOf(text(83), 16, 2)
	if !Same(s, s) || !Same(s, cloned(s)) || !Same(Side{}, Side{}) {
		t.Error("what is alike is not the Same")
	}
	if !Same(Side{}, Side{Root: []byte{}, Leaves: [][]byte{}, Parity: [][]byte{}}) || !Same(Side{Leaves: [][]byte{nil}}, Side{Leaves: [][]byte{{}}}) {
		t.Error("nil and an empty list are not the Same")
	}
	unlike := append(unsounds(), unsound{why: "a changed parity", s: sideOf(text(83), 16, 2)})
	unlike[len(unlike)-1].s.Parity[2][15] ^= 1
	for _, n := range []int{81, 84, 96} {
		other := cloned(s)
		other.Size = n
		unlike = append(unlike, unsound{why: "another Size", s: other})
	}
	for _, u := range append(unlike, unsound{why: "a zero Side"}) {
		if Same(s, u.s) || Same(u.s, s) {
			t.Errorf("%q: the Same", u.why)
		}
		if !Same(u.s, cloned(u.s)) {
			t.Errorf("%q: not the Same as itself", u.why)
		}
	}
}

// One leaf more and one parity less are other fields, though the same lists stand there one behind the other.
func TestP7_2SameKeepsListsApart(t *testing.T) {
	one, two := []byte("one"), []byte("two")
	a := Side{Leaves: [][]byte{one}, Parity: [][]byte{two}}
	for _, b := range []Side{
		{Leaves: [][]byte{one, two}},
		{Parity: [][]byte{one, two}},
		{Root: one, Parity: [][]byte{two}},
		{Leaves: [][]byte{two}, Parity: [][]byte{one}},
		{Leaves: [][]byte{append([]byte("one"), two...)}, Parity: [][]byte{nil}},
		{Leaves: [][]byte{one, nil}, Parity: [][]byte{two}},
	} {
		if Same(a, b) || Same(b, a) {
			t.Errorf("%v and %v are the Same", a, b)
		}
	}
}
