package merkle

import (
	"bytes"
	"crypto/sha256"
	"math"
	"slices"
	"testing"

	"linnet/api"
)

// text is n bytes in which no two neighbours, and no two blocks, are alike.
func text(n int) []byte {
	out := make([]byte, n)
	for i := range out {
		out[i] = byte(i*7 + i/16*31 + i/4096*5 + 1)
	}
	return out
}

// sumOf is the judge of hashes: the library's own SHA-256.
func sumOf(mark []byte, parts ...[]byte) []byte {
	all := bytes.Clone(mark)
	for _, p := range parts {
		all = append(all, p...)
	}
	s := sha256.Sum256(all)
	return s[:]
}

func pairOf(a, b []byte) []byte { return sumOf([]byte{1}, a, b) }

// rootOf is the judge of trees: a lone last one that goes up as it is makes the left part the greatest power of two that leaves something to the right.
func rootOf(leaves [][]byte) []byte {
	switch len(leaves) {
	case 0:
		return sumOf(nil)
	case 1:
		return leaves[0]
	}
	left := 1
	for left*2 < len(leaves) {
		left *= 2
	}
	return pairOf(rootOf(leaves[:left]), rootOf(leaves[left:]))
}

// leavesOf are n that are all unlike, of lengths 0 and on.
func leavesOf(n int) [][]byte {
	out := make([][]byte, n)
	for i := range out {
		out[i] = text(i)
	}
	return out
}

// hashedLeaves are n that are all unlike, as blocks have them.
func hashedLeaves(n int) [][]byte {
	out := make([][]byte, n)
	for i := range out {
		out[i] = sumOf([]byte{0}, []byte{byte(i), byte(i >> 8)})
	}
	return out
}

func same(t *testing.T, what string, got, want []byte) {
	t.Helper()
	if !bytes.Equal(got, want) {
		t.Errorf("%s:\n got %x\nwant %x", what, got, want)
	}
}

func sameList(t *testing.T, what string, got, want [][]byte) {
	t.Helper()
	if !slices.EqualFunc(got, want, bytes.Equal) {
		t.Errorf("%s:\n got %x\nwant %x", what, got, want)
	}
}

func clones(list [][]byte) [][]byte {
	var out [][]byte
	for _, b := range list {
		out = append(out, bytes.Clone(b))
	}
	return out
}

// spoil overwrites every byte, those of the spare room too.
func spoil(b []byte) {
	b = b[:cap(b)]
	for i := range b {
		b[i] ^= 0xff
	}
}

func TestP2_1Count(t *testing.T) {
	for _, c := range []struct{ size, block, want int }{
		{0, 4, 0}, {1, 4, 1}, {3, 4, 1}, {4, 4, 1}, {5, 4, 2}, {8, 4, 2}, {9, 4, 3},
		{0, 1, 0}, {1, 1, 1}, {7, 1, 7}, {1, 4096, 1}, {4096, 4096, 1}, {4097, 4096, 2},
		{1 << 20, 1, 1 << 20}, {1 << 20, 4096, 256}, {1<<20 - 1, 4096, 256}, {1<<20 - 4096, 4096, 255}, {1 << 20, 3, 349526},
		{-1, 4, 0}, {-1, 1, 0}, {1<<20 + 1, 4, 0}, {1<<20 + 1, 4096, 0}, {5, 0, 0}, {5, -1, 0}, {5, 4097, 0}, {0, 0, 0},
		{math.MaxInt, 4, 0}, {math.MinInt, 4, 0}, {5, math.MaxInt, 0}, {5, math.MinInt, 0}, {math.MaxInt, math.MaxInt, 0}, {math.MinInt, math.MinInt, 0},
	} {
		if got := Count(c.size, c.block); got != c.want {
			t.Errorf("Count(%d, %d) is %d, want %d", c.size, c.block, got, c.want)
		}
	}
}

func TestP2_1BlocksMakeUpTheData(t *testing.T) {
	for size := range 70 {
		data := text(size)
		for block := 1; block < 20; block++ {
			var all []byte
			n := Count(size, block)
			for k := range n {
				one := Block(data, block, k)
				if k < n-1 && len(one) != block || len(one) == 0 || len(one) > block {
					t.Errorf("block %d of %d bytes by %d has %d", k, size, block, len(one))
				}
				all = append(all, one...)
			}
			same(t, "all blocks", all, data)
		}
	}
}

func TestP2_1NoSuchBlock(t *testing.T) {
	data := text(10)
	for _, c := range []struct {
		data     []byte
		block, k int
	}{
		{data, 4, 3}, {data, 4, -1}, {data, 4, math.MaxInt}, {data, 4, math.MinInt}, {data, 4, math.MaxInt/4 + 1},
		{data, 0, 0}, {data, -4, 0}, {data, 4097, 0}, {data, math.MaxInt, 0}, {data, math.MinInt, 0},
		{nil, 4, 0}, {[]byte{}, 4, 0}, {text(8), 4, 2}, {text(1<<20 + 1), 4096, 0},
	} {
		if got := Block(c.data, c.block, c.k); got != nil {
			t.Errorf("Block(%d bytes, %d, %d) is %x, want none", len(c.data), c.block, c.k, got)
		}
	}
}

func TestP2_1AtTheLimits(t *testing.T) {
	data := text(1 << 20)
	same(t, "the last of the greatest", Block(data, 4096, 255), data[1<<20-4096:])
	same(t, "the last of the most", Block(data, 1, 1<<20-1), data[1<<20-1:])
	leaves := Leaves(data, 4096)
	if len(leaves) != 256 {
		t.Fatalf("%d leaves, want 256", len(leaves))
	}
	same(t, "the last leaf", leaves[255], sumOf([]byte{0}, data[1<<20-4096:]))
	if got := Leaves(text(1<<20+1), 4096); len(got) != 0 {
		t.Errorf("%d leaves of too many bytes", len(got))
	}
}

func TestP2_1Leaf(t *testing.T) {
	for _, n := range []int{0, 1, 4, 63, 64, 4096, 5000} {
		same(t, "Leaf", Leaf(text(n)), sumOf([]byte{0}, text(n)))
	}
	same(t, "Leaf of nil", Leaf(nil), sumOf([]byte{0}))
}

func TestP2_1Leaves(t *testing.T) {
	data := text(33)
	for _, block := range []int{1, 2, 11, 16, 32, 33, 34, 4096} {
		var want [][]byte
		for k := range Count(len(data), block) {
			want = append(want, sumOf([]byte{0}, data[k*block:min(k*block+block, len(data))]))
		}
		sameList(t, "Leaves", Leaves(data, block), want)
	}
	for _, block := range []int{0, -1, 4097, math.MinInt, math.MaxInt} {
		if got := Leaves(data, block); len(got) != 0 {
			t.Errorf("Leaves by %d: %d, want none", block, len(got))
		}
	}
	if got := Leaves(nil, 16); len(got) != 0 {
		t.Errorf("Leaves of nothing: %d", len(got))
	}
}

func TestP2_2LevelsByHand(t *testing.T) {
	l := leavesOf(6)[1:]
	ab, cd := pairOf(l[0], l[1]), pairOf(l[2], l[3])
	abcd := pairOf(ab, cd)
	for n, want := range [][][][]byte{
		{},
		{l[:1]},
		{l[:2], {ab}},
		{l[:3], {ab, l[2]}, {pairOf(ab, l[2])}},
		{l[:4], {ab, cd}, {abcd}},
		{l[:5], {ab, cd, l[4]}, {abcd, l[4]}, {pairOf(abcd, l[4])}},
	} {
		got := Levels(l[:n])
		if len(got) != len(want) {
			t.Errorf("%d leaves: %d levels, want %d", n, len(got), len(want))
			continue
		}
		for i := range want {
			sameList(t, "level", got[i], want[i])
		}
	}
	if got := Levels(nil); len(got) != 0 {
		t.Errorf("Levels of no leaves: %d", len(got))
	}
}

func TestP2_2RootIsTheTop(t *testing.T) {
	for n := range 70 {
		for _, l := range [][][]byte{leavesOf(n), hashedLeaves(n)} {
			root := Root(l)
			same(t, "Root", root, rootOf(l))
			levels := Levels(l)
			if n == 0 {
				continue
			}
			last := levels[len(levels)-1]
			if len(last) != 1 {
				t.Fatalf("%d leaves: the last level has %d", n, len(last))
			}
			same(t, "the last level's only one", last[0], root)
			for i, level := range levels[1:] {
				if len(level) != (len(levels[i])+1)/2 {
					t.Errorf("%d leaves: %d above %d", n, len(level), len(levels[i]))
				}
			}
		}
	}
}

func TestP2_2RootOfNoLeavesAndOfOne(t *testing.T) {
	same(t, "no leaves", Root(nil), sumOf(nil))
	same(t, "an empty list", Root([][]byte{}), sumOf(nil))
	same(t, "one", Root([][]byte{[]byte("x")}), []byte("x"))
	same(t, "one that is empty", Root([][]byte{nil}), nil)
	same(t, "two that are empty", Root([][]byte{nil, {}}), sumOf([]byte{1}))
}

// proofOf is the judge of proofs: of each level, if there is a neighbour, that one.
func proofOf(leaves [][]byte, k int) [][]byte {
	var proof [][]byte
	for width := 1; width < len(leaves); width *= 2 {
		from := (k/width ^ 1) * width
		if from < len(leaves) {
			proof = append(proof, rootOf(leaves[from:min(from+width, len(leaves))]))
		}
	}
	return proof
}

func TestP2_3ProofsAreTheNeighbours(t *testing.T) {
	for n := 1; n < 40; n++ {
		for _, l := range [][][]byte{leavesOf(n), hashedLeaves(n)} {
			for k := range n {
				got, err := Prove(l, k)
				if err != api.OK {
					t.Fatalf("Prove %d of %d: %d", k, n, err)
				}
				sameList(t, "Prove", got, proofOf(l, k))
			}
		}
	}
}

func TestP2_3ProofByHand(t *testing.T) {
	l := leavesOf(4)[1:]
	first, _ := Prove(l, 0)
	sameList(t, "the first of three", first, [][]byte{l[1], l[2]})
	second, _ := Prove(l, 1)
	sameList(t, "the second of three", second, [][]byte{l[0], l[2]})
	lone, _ := Prove(l, 2)
	sameList(t, "the lone one of three", lone, [][]byte{pairOf(l[0], l[1])})
	only, err := Prove(l[:1], 0)
	if len(only) != 0 || err != api.OK {
		t.Errorf("the only one: %x, %d", only, err)
	}
}

func TestP2_3NoSuchLeafToProve(t *testing.T) {
	for _, n := range []int{0, 1, 2, 5} {
		for _, k := range []int{-1, n, n + 1, math.MinInt, math.MaxInt} {
			if got, err := Prove(leavesOf(n), k); got != nil || err != api.ErrArg {
				t.Errorf("Prove %d of %d: %x, %d, want none and ErrArg", k, n, got, err)
			}
		}
	}
}

func TestP2_3VerifyRefusesPlacesThatAreNot(t *testing.T) {
	l := hashedLeaves(5)
	root := Root(l)
	proof, _ := Prove(l, 4)
	for _, c := range []struct{ k, n int }{
		{-1, 5}, {5, 5}, {6, 5}, {math.MinInt, 5}, {math.MaxInt, 5}, {0, 0}, {-1, 0}, {-1, -1}, {0, -1}, {-2, -1},
		{math.MinInt, math.MinInt}, {math.MaxInt, math.MaxInt}, {math.MinInt, math.MaxInt},
	} {
		if Verify(root, l[4], c.k, c.n, proof) || Verify(root, root, c.k, c.n, nil) {
			t.Errorf("%d of %d is taken", c.k, c.n)
		}
	}
}

func TestP2_3VerifyOfOneAndOfNothing(t *testing.T) {
	x := []byte("x")
	if !Verify(x, x, 0, 1, nil) || !Verify(x, x, 0, 1, [][]byte{}) || !Verify(nil, []byte{}, 0, 1, nil) {
		t.Error("an only leaf is its own root")
	}
	if Verify(x, x, 0, 1, [][]byte{nil}) || Verify(x, []byte("y"), 0, 1, nil) || Verify(nil, x, 0, 1, nil) {
		t.Error("an only leaf has no neighbour, and no other root")
	}
	if Verify(sumOf(nil), nil, 0, 0, nil) || Verify(nil, nil, 0, 0, nil) {
		t.Error("of no leaves there is none")
	}
	if !Verify(sumOf([]byte{1}), nil, 1, 2, [][]byte{nil}) || Verify(sumOf([]byte{1}), nil, 1, 2, nil) {
		t.Error("two empty leaves: the proof has one that is empty")
	}
}

// The most leaves that an int can count: 63 levels, at the edge of what adding one to the count would stand.
func TestP2_3VerifyOfGreatCounts(t *testing.T) {
	leaf, beside := []byte("leaf"), []byte("beside")
	for _, n := range []int{1<<62 + 1, math.MaxInt - 1, math.MaxInt} {
		for _, k := range []int{0, 1, 1 << 61, n - 2, n - 1} {
			var proof [][]byte
			root, at := leaf, k
			for width := uint64(n); width > 1; width = (width + 1) / 2 {
				if other := uint64(at) ^ 1; other < width {
					proof = append(proof, beside)
					if at%2 == 0 {
						root = pairOf(root, beside)
					} else {
						root = pairOf(beside, root)
					}
				}
				at /= 2
			}
			if !Verify(root, leaf, k, n, proof) {
				t.Errorf("%d of %d is not taken", k, n)
			}
			if Verify(root, leaf, k, n, proof[1:]) || Verify(root, leaf, k, n, append(proof, beside)) {
				t.Errorf("%d of %d: a wrong count of neighbours is taken", k, n)
			}
		}
	}
}

func TestP2_4Differ(t *testing.T) {
	l := hashedLeaves(5)
	changed := clones(l)
	changed[1][31] ^= 1
	changed[4] = nil
	for _, c := range []struct {
		name string
		a, b [][]byte
		want []int
	}{
		{"none", nil, nil, nil},
		{"no leaves of either kind", nil, [][]byte{}, nil},
		{"alike", l, clones(l), nil},
		{"some unlike", l, changed, []int{1, 4}},
		{"the second shorter", l, l[:3], []int{3, 4}},
		{"the first shorter", l[:3], l, []int{3, 4}},
		{"the first none", nil, l, []int{0, 1, 2, 3, 4}},
		{"the second none", l, nil, []int{0, 1, 2, 3, 4}},
		{"unlike and shorter", changed[:3], l, []int{1, 3, 4}},
		{"shifted", l[1:], l, []int{0, 1, 2, 3, 4}},
		{"of unlike lengths", [][]byte{{1}, {1, 2}, {}}, [][]byte{{1, 2}, {1, 2}, nil}, []int{0}},
		{"an empty one against none", [][]byte{nil}, nil, []int{0}},
		{"none against an empty one", nil, [][]byte{{}}, []int{0}},
	} {
		if got := Differ(c.a, c.b); !slices.Equal(got, c.want) {
			t.Errorf("%s: %v, want %v", c.name, got, c.want)
		}
	}
}

func TestP2_5VerifyOfProveHolds(t *testing.T) {
	for n := 1; n < 70; n++ {
		for _, l := range [][][]byte{leavesOf(n), hashedLeaves(n)} {
			root := Root(l)
			for k := range n {
				proof, _ := Prove(l, k)
				if !Verify(root, l[k], k, n, proof) {
					t.Errorf("%d of %d is not taken", k, n)
				}
			}
		}
	}
}

func TestP2_5VerifyOfNothingElse(t *testing.T) {
	for n := 1; n < 20; n++ {
		l := hashedLeaves(n)
		root := Root(l)
		for k := range n {
			proof, _ := Prove(l, k)
			for other := range n {
				if Verify(root, l[other], k, n, proof) != (other == k) || Verify(root, l[k], other, n, proof) != (other == k) {
					t.Errorf("%d of %d passes for %d", k, n, other)
				}
			}
			flipped := bytes.Clone(root)
			flipped[0] ^= 1
			if Verify(flipped, l[k], k, n, proof) || Verify(root[:31], l[k], k, n, proof) || Verify(nil, l[k], k, n, proof) {
				t.Errorf("%d of %d: another root is taken", k, n)
			}
			refuseOtherProofs(t, root, l[k], k, n, proof)
		}
	}
}

func refuseOtherProofs(t *testing.T, root, leaf []byte, k, n int, proof [][]byte) {
	t.Helper()
	for i := range proof {
		changed := clones(proof)
		changed[i][len(changed[i])-1] ^= 1
		missing := slices.Delete(clones(proof), i, i+1)
		twice := slices.Insert(clones(proof), i, proof[i])
		if Verify(root, leaf, k, n, changed) || Verify(root, leaf, k, n, missing) || Verify(root, leaf, k, n, twice) {
			t.Errorf("%d of %d: a turned proof is taken", k, n)
		}
	}
	for _, more := range [][]byte{nil, root, leaf} {
		if Verify(root, leaf, k, n, append(clones(proof), more)) {
			t.Errorf("%d of %d: a proof with one too many is taken", k, n)
		}
	}
	if turned := clones(proof); len(turned) > 1 {
		slices.Reverse(turned)
		if Verify(root, leaf, k, n, turned) {
			t.Errorf("%d of %d: a proof in the wrong order is taken", k, n)
		}
	}
}

// A leaf's text begins with another byte than a pair's, so that a pair does not pass for a block.
func TestP2_5PairsAreNoLeaves(t *testing.T) {
	l := hashedLeaves(4)
	block := append(bytes.Clone(l[0]), l[1]...)
	if bytes.Equal(Leaf(block), Levels(l)[1][0]) {
		t.Error("a block of two leaves has their pair as its leaf")
	}
	proof, _ := Prove(l, 0)
	if Verify(Root(l), Leaf(block), 0, 2, proof[1:]) {
		t.Error("a block of two leaves passes for their pair")
	}
}

func TestP2_5AnswersAreNewMemory(t *testing.T) {
	for n := 1; n < 9; n++ {
		l := hashedLeaves(n)
		spoil(Root(l))
		ownMemory(t, "Levels", slices.Concat(Levels(l)...))
		for k := range n {
			proof, _ := Prove(l, k)
			ownMemory(t, "Prove", proof)
		}
		sameList(t, "the leaves handed in", l, hashedLeaves(n))
	}
	data := text(20)
	spoil(Block(data, 8, 1))
	spoil(Block(data, 20, 0))
	ownMemory(t, "Leaves", Leaves(data, 8))
	same(t, "the data handed in", data, text(20))
}

// ownMemory fills each list with a number of its own: those that share some do not all keep theirs.
func ownMemory(t *testing.T, what string, lists [][]byte) {
	t.Helper()
	fill := func(list []byte, with int) {
		list = list[:cap(list)]
		for i := range list {
			list[i] = byte(with)
		}
	}
	for i, list := range lists {
		fill(list, i)
	}
	for i, list := range lists {
		same(t, what+": a list of its own", list, bytes.Repeat([]byte{byte(i)}, len(list)))
	}
}

// Each of an answer's lists has room of its own: one that grows does not run into the next.
func TestP2_5ListsGrowAlone(t *testing.T) {
	l := hashedLeaves(5)
	levels := Levels(l)
	for i := range levels {
		_ = append(levels[i], []byte("x"))
		for j := range levels[i] {
			_ = append(levels[i][j], 'x')
		}
	}
	for i, want := range Levels(l) {
		sameList(t, "level", levels[i], want)
	}
	leaves := Leaves(text(40), 8)
	for i := range leaves {
		_ = append(leaves[i], 'x')
	}
	sameList(t, "leaves", leaves, Leaves(text(40), 8))
}

func TestArgumentsAreNotChanged(t *testing.T) {
	roomy := func(list [][]byte) [][]byte {
		out := make([][]byte, 0, len(list)+3)
		for _, b := range list {
			out = append(out, append(make([]byte, 0, len(b)+40), b...))
		}
		return out
	}
	unchanged := func(what string, got, want [][]byte) {
		t.Helper()
		sameList(t, what, got, want)
		for _, b := range got[len(got):cap(got)] {
			if b != nil {
				t.Errorf("%s: the list's spare room was written", what)
			}
		}
		for _, b := range got {
			same(t, what+": spare room", b[len(b):cap(b)], make([]byte, cap(b)-len(b)))
		}
	}
	for n := range 8 {
		want := hashedLeaves(n)
		l, other := roomy(want), roomy(want)
		proof, _ := Prove(l, n-1)
		given := roomy(proof)
		Levels(l)
		Differ(l, other)
		Verify(Root(l), slices.Concat(l...), n-1, n, given)
		unchanged("leaves", l, want)
		unchanged("other leaves", other, want)
		unchanged("proof", given, proof)
	}
	data := append(make([]byte, 0, 60), text(21)...)
	Leaf(data)
	Leaves(data, 8)
	Block(data, 8, 2)
	same(t, "data", data, text(21))
	same(t, "data's spare room", data[21:60], make([]byte, 39))
}
