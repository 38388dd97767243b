package digest

import (
	"bytes"
	"crypto/sha256"
	"encoding/binary"
	"encoding/hex"
	"math/rand"
	"strings"
	"testing"
)

// text is n bytes in which no two neighbours, and no two blocks, are alike.
func text(n int) []byte {
	out := make([]byte, n)
	for i := range out {
		out[i] = byte(i*7 + i/64*31 + 1)
	}
	return out
}

func same(t *testing.T, what string, got, want []byte) {
	t.Helper()
	if !bytes.Equal(got, want) {
		t.Errorf("%s:\n got %x\nwant %x", what, got, want)
	}
}

// sumOf is the judge: the library's own SHA-256.
func sumOf(b []byte) []byte {
	s := sha256.Sum256(b)
	return s[:]
}

func TestP1_1KnownSums(t *testing.T) {
	for _, c := range []struct{ name, in, want string }{
		{"nothing", "", "e3b0c44298fc1c149afbf4c8996fb92427ae41e4649b934ca495991b7852b855"},
		{"abc", "abc", "ba7816bf8f01cfea414140de5dae2223b00361a396177a9cb410ff61f20015ad"},
		{"56 bytes", "abcdbcdecdefdefgefghfghighijhijkijkljklmklmnlmnomnopnopq", "248d6a61d20638b8e5c026930c3e6039a33ce45964ff2167f6ecedd419db06c1"},
		{"112 bytes", "abcdefghbcdefghicdefghijdefghijkefghijklfghijklmghijklmnhijklmnoijklmnopjklmnopqklmnopqrlmnopqrsmnopqrstnopqrstu", "cf5b16a778af8380036ce59e7b0492370b249b11e8f07a51afac45037afee9d1"},
		{"a million", strings.Repeat("a", 1000000), "cdc76e5c9914fb9281a1c7e284d73e67f1809a48a497200e046d39ccc7112cd0"},
	} {
		want, err := hex.DecodeString(c.want)
		if err != nil {
			t.Fatal(err)
		}
		same(t, c.name, Sum([]byte(c.in)), want)
		same(t, c.name+" by a Hasher", new(Hasher).Add([]byte(c.in)).Sum(), want)
	}
}

func TestP1_1EveryLengthAboutBlocks(t *testing.T) {
	for n := range 4*blockSize + 2 {
		b := text(n)
		got := Sum(b)
		if len(got) != Size || Size != 32 {
			t.Fatalf("a sum of %d bytes", len(got))
		}
		same(t, "Sum", got, sumOf(b))
		var h Hasher
		same(t, "Hasher", h.Add(b).Sum(), sumOf(b))
		if h.Len() != n {
			t.Errorf("Len is %d, want %d", h.Len(), n)
		}
	}
}

func TestP1_1BytesOfAllValues(t *testing.T) {
	for v := range 256 {
		b := bytes.Repeat([]byte{byte(v)}, 70)
		same(t, "Sum", Sum(b), sumOf(b))
	}
}

func TestP1_1NothingAdded(t *testing.T) {
	want := sumOf(nil)
	same(t, "Sum()", Sum(), want)
	same(t, "Sum(nil)", Sum(nil), want)
	same(t, "Sum of no pieces", Sum([][]byte{}...), want)
	same(t, "Sum of empty pieces", Sum(nil, []byte{}, nil), want)
	var h Hasher
	same(t, "zero Hasher", h.Sum(), want)
	same(t, "zero Hasher with nil", h.Add(nil).Add([]byte{}).Sum(), want)
	same(t, "copy of a zero Hasher", h.Copy().Sum(), want)
	if h.Len() != 0 || h.Copy().Len() != 0 {
		t.Errorf("Len of nothing: %d, %d", h.Len(), h.Copy().Len())
	}
}

func TestP1_1AddTellsTheHasher(t *testing.T) {
	var h Hasher
	for _, n := range []int{0, 1, 63, 64, 65, 200} {
		if h.Add(text(n)) != &h {
			t.Errorf("Add of %d bytes tells another one", n)
		}
	}
}

func TestP1_1GoesOnAfterSum(t *testing.T) {
	b := text(200)
	var h Hasher
	for i := range b {
		h.Add(b[i : i+1])
		same(t, "told", h.Sum(), sumOf(b[:i+1]))
		same(t, "told again", h.Sum(), sumOf(b[:i+1]))
		if h.Len() != i+1 {
			t.Fatalf("Len is %d, want %d", h.Len(), i+1)
		}
	}
}

func TestP1_1CopyGoesOnByItself(t *testing.T) {
	b := text(300)
	for _, at := range []int{0, 1, 63, 64, 65, 127, 128, 150} {
		var h Hasher
		h.Add(b[:at])
		c := h.Copy()
		if c == &h {
			t.Fatal("Copy is the Hasher itself")
		}
		same(t, "copy as it is", c.Sum(), sumOf(b[:at]))
		c.Add(b[at : at+130])
		same(t, "first, the copy having gone on", h.Sum(), sumOf(b[:at]))
		h.Add(b[200:])
		same(t, "copy, the first having gone on", c.Sum(), sumOf(b[:at+130]))
		same(t, "first", h.Sum(), sumOf(append(bytes.Clone(b[:at]), b[200:]...)))
		if h.Len() != at+100 || c.Len() != at+130 {
			t.Errorf("at %d: Len %d and %d", at, h.Len(), c.Len())
		}
	}
}

func TestP1_1NilHasher(t *testing.T) {
	var none *Hasher
	for _, b := range [][]byte{nil, {}, text(3), text(64), text(200)} {
		if none.Add(b) != nil {
			t.Errorf("Add of %d bytes to nil tells a Hasher", len(b))
		}
	}
	if none.Sum() != nil || none.Copy() != nil || none.Len() != 0 {
		t.Errorf("nil Hasher: %x, %v, %d", none.Sum(), none.Copy(), none.Len())
	}
	if none.Add(text(1)).Copy().Add(text(2)).Sum() != nil {
		t.Error("a chain of calls on nil tells a sum")
	}
}

func TestP1_1Equal(t *testing.T) {
	b := text(70)
	other := bytes.Clone(b)
	other[69]++
	for _, c := range []struct {
		a, b []byte
		want bool
	}{
		{nil, nil, true},
		{nil, []byte{}, true},
		{[]byte{}, nil, true},
		{nil, []byte{0}, false},
		{[]byte{0}, []byte{}, false},
		{[]byte{0}, []byte{0, 0}, false},
		{[]byte{1, 2}, []byte{2, 1}, false},
		{b, bytes.Clone(b), true},
		{b, b, true},
		{b, other, false},
		{b, b[:69], false},
		{b[1:], b, false},
	} {
		if Equal(c.a, c.b) != c.want {
			t.Errorf("Equal(%x, %x) is not %v", c.a, c.b, c.want)
		}
	}
}

// The count of bits needs its upper bytes only for texts longer than a test should be.
func TestP1_1PaddingOfGreatLengths(t *testing.T) {
	for _, n := range []int{0, 55, 56, 63, 64, 1<<29 - 1, 1 << 29, 1<<29 + 55, 1<<31 - 1} {
		p := padding(n)
		if (n+len(p))%blockSize != 0 || len(p) < 9 || len(p) > 72 {
			t.Fatalf("length %d: padding of %d", n, len(p))
		}
		want := make([]byte, len(p)-lengthSize)
		want[0] = 0x80
		want = binary.BigEndian.AppendUint64(want, uint64(n)*8)
		same(t, "padding", p, want)
	}
}

func TestP1_2AnyCutInThree(t *testing.T) {
	b := text(140)
	want := sumOf(b)
	for i := range len(b) + 1 {
		for j := i; j <= len(b); j++ {
			if !bytes.Equal(Sum(b[:i], b[i:j], b[j:]), want) {
				t.Fatalf("Sum cut at %d and %d", i, j)
			}
			var h Hasher
			if !bytes.Equal(h.Add(b[:i]).Add(b[i:j]).Add(b[j:]).Sum(), want) || h.Len() != len(b) {
				t.Fatalf("Hasher cut at %d and %d", i, j)
			}
		}
	}
}

func TestP1_2ManyPieces(t *testing.T) {
	r := rand.New(rand.NewSource(1))
	for range 200 {
		b := text(r.Intn(2000))
		var pieces [][]byte
		for rest := b; len(rest) > 0; {
			n := min(r.Intn(150), len(rest))
			pieces = append(pieces, rest[:n])
			rest = rest[n:]
		}
		var h Hasher
		for _, p := range pieces {
			h.Add(p)
		}
		same(t, "Sum", Sum(pieces...), sumOf(b))
		same(t, "Hasher", h.Sum(), sumOf(b))
	}
}

func TestP1_2EveryByteAndItsPlaceCount(t *testing.T) {
	b := text(130)
	was := Sum(b)
	for i := range b {
		other := bytes.Clone(b)
		other[i] ^= 0x80
		if Equal(Sum(other), was) {
			t.Errorf("byte %d does not count", i)
		}
	}
	if Equal(Sum(b[:60], b[60:]), Sum(b[60:], b[:60])) {
		t.Error("the order of pieces does not count")
	}
}

func TestP1_2AnswersAreNewMemory(t *testing.T) {
	b := text(100)
	want := sumOf(b)
	spoil := func(s []byte) {
		s = s[:cap(s)]
		for i := range s {
			s[i] ^= 0xff
		}
	}
	var h Hasher
	h.Add(b)
	first, second := h.Sum(), h.Sum()
	spoil(first)
	same(t, "told before the first was spoilt", second, want)
	spoil(second)
	same(t, "told after", h.Sum(), want)
	same(t, "told by a copy", h.Copy().Sum(), want)
	loose := Sum(b)
	spoil(Sum(b))
	same(t, "Sum", loose, want)
	same(t, "Sum again", Sum(b), want)
}

func TestArgumentsAreNeitherChangedNorKept(t *testing.T) {
	room := text(300)
	was := bytes.Clone(room)
	b := room[10:110] // with spare room behind
	want := sumOf(b)
	pieces := [][]byte{b[:50], b[50:]}
	same(t, "Sum", Sum(pieces...), want)
	var h Hasher
	same(t, "Hasher", h.Add(b).Sum(), want)
	Equal(b, room)
	same(t, "argument and its spare room", room, was)
	clear(room)
	same(t, "Hasher, its argument being gone", h.Sum(), want)
}

func TestNoMoreIsKeptThanWaits(t *testing.T) {
	b := text(150)
	for at := range b {
		var whole, cut Hasher
		whole.Add(b)
		cut.Add(b[:at]).Add(b[at:])
		if whole != cut {
			t.Errorf("cut at %d: the Hasher is another one", at)
		}
		for _, left := range cut.waiting[cut.waits:] {
			if left != 0 {
				t.Fatalf("cut at %d: bytes of a block that is done are kept", at)
			}
		}
	}
}

func TestHashersHaveNothingInCommon(t *testing.T) {
	x, y := new(Hasher), new(Hasher)
	a, b := text(150), text(151)[1:]
	for i := range a {
		x.Add(a[i : i+1])
		y.Add(b[i : i+1])
	}
	same(t, "one", x.Sum(), sumOf(a))
	same(t, "other", y.Sum(), sumOf(b))
}
