package vote

import (
	"bytes"
	"math"
	"math/rand"
	"slices"
	"testing"

	"linnet/api"
)

// goesAndComes holds that a page is written as the judge writes it, and read as it was.
func goesAndComes(t *testing.T, p Page) {
	t.Helper()
	b, e := Encode(p)
	if e != api.OK {
		t.Errorf("Encode of Gen %d and %d bytes: %d", p.Gen, len(p.Body), e)
	}
	same(t, "Encode", b, bytesOf(p))
	got, e := Decode(bytesOf(p))
	if e != api.OK {
		t.Errorf("Decode of Gen %d and %d bytes: %d", p.Gen, len(p.Body), e)
	}
	samePage(t, "Decode", got, p)
}

func TestP9_1GoesAndComes(t *testing.T) {
	for _, gen := range []int{1, 2, 255, 256, 258, 65536, 1 << 24, 1 << 30, 1<<31 - 2, 1<<31 - 1} {
		for _, size := range []int{0, 1, 2, 255, 256, 257, 4096, 59999, 60000} {
			goesAndComes(t, Page{Gen: gen, Body: text(size)})
		}
		goesAndComes(t, Page{Gen: gen})
	}
	random := rand.New(rand.NewSource(91))
	for range 500 {
		p := Page{Gen: 1 + random.Intn(math.MaxInt32)>>random.Intn(31), Body: make([]byte, random.Intn(300))}
		random.Read(p.Body)
		goesAndComes(t, p)
	}
}

func TestP9_1EncodeByHand(t *testing.T) {
	b, _ := Encode(page(258, "xy"))
	same(t, "two bytes", b, sealedOf([]byte{2, 1, 0, 0, 2, 0, 0, 0, 'x', 'y'}))
	b, _ = Encode(Page{Gen: 1<<31 - 1})
	same(t, "nothing, the greatest Gen", b, sealedOf([]byte{0xff, 0xff, 0xff, 0x7f, 0, 0, 0, 0}))
	b, _ = Encode(Page{Gen: 1, Body: text(60000)})
	same(t, "60000 bytes", b[:8], []byte{1, 0, 0, 0, 0x60, 0xea, 0, 0})
}

func TestP9_1EncodeRefused(t *testing.T) {
	arg := func(p Page) {
		t.Helper()
		if b, e := Encode(p); e != api.ErrArg || len(b) != 0 {
			t.Errorf("Gen %d and %d bytes: %d bytes and %d, want none and ErrArg", p.Gen, len(p.Body), len(b), e)
		}
	}
	arg(Page{})
	for _, gen := range wrongGens() {
		for _, size := range []int{0, 1, 60000, 60001} {
			arg(Page{Gen: gen, Body: text(size)})
		}
	}
	for _, size := range []int{60001, 65536, 120000, 1 << 20} {
		for _, gen := range []int{1, 2, 1<<31 - 1} {
			arg(Page{Gen: gen, Body: text(size)})
		}
	}
}

func TestP9_1DecodeOfChangedBytes(t *testing.T) {
	for _, p := range []Page{{Gen: 1}, page(258, "xy"), {Gen: 1<<31 - 1, Body: text(100)}} {
		b := bytesOf(p)
		for i := range b {
			for x := 1; x < 256; x++ {
				changed := bytes.Clone(b)
				changed[i] ^= byte(x)
				refused(t, "another byte", changed)
			}
			refused(t, "cut off", b[:i])
			refused(t, "cut off in front", b[i+1:])
			refused(t, "a byte taken out", slices.Delete(bytes.Clone(b), i, i+1))
			refused(t, "a byte put in", slices.Insert(bytes.Clone(b), i, 0x5a))
		}
		for _, more := range []byte{0, 1, 0xff} {
			refused(t, "one byte more", append(bytes.Clone(b), more))
			refused(t, "one byte more in front", append([]byte{more}, b...))
		}
		refused(t, "twice", slices.Concat(b, b))
		refused(t, "sealed twice", sealedOf(b))
		refused(t, "not sealed", b[:len(b)-32])
	}
	refused(t, "nil", nil)
	refused(t, "empty", []byte{})
	for n := range 100 {
		refused(t, "noughts", make([]byte, n))
	}
}

func TestP9_1DecodeOfOtherFieldsSealed(t *testing.T) {
	body := func(n int) []byte { return slices.Concat(numOf(uint32(n)), text(n)) }
	for _, gen := range []uint32{0, 1 << 31, 1<<31 + 1, math.MaxUint32} {
		for _, size := range []int{0, 1, 60000} {
			refused(t, "a Gen that may not be", sealedOf(numOf(gen), body(size)))
		}
	}
	for _, size := range []int{60001, 65536, 120000} {
		refused(t, "too many bytes", sealedOf(numOf(1), body(size)))
	}
	refused(t, "too many bytes told of, just as many as may be there", sealedOf(numOf(1), numOf(60001), text(60000)))
	refused(t, "no fields", sealedOf())
	refused(t, "a Gen alone", sealedOf(numOf(1)))
	refused(t, "the fields in the other order", sealedOf(body(2), numOf(1)))
	refused(t, "a Gen of eight bytes", sealedOf(numOf(1), numOf(0), body(2)))
	refused(t, "a length of eight bytes", sealedOf(numOf(1), numOf(2), numOf(0), text(2)))
	refused(t, "a length of 2^31", sealedOf(numOf(1), numOf(1<<31), text(2)))
	refused(t, "a length of 2^32 - 1", sealedOf(numOf(1), numOf(math.MaxUint32), text(2)))
	refused(t, "a second Body", sealedOf(numOf(1), body(2), body(0)))
	whole := slices.Concat(numOf(258), body(20))
	for i := range whole {
		refused(t, "cut off, sealed", sealedOf(whole[:i]))
		refused(t, "more, sealed", sealedOf(whole, make([]byte, i+1)))
	}
}

// Any bytes at all behind a true seal: what is read is a page, and is written as it was.
func TestP9_1OneForm(t *testing.T) {
	random := rand.New(rand.NewSource(92))
	read := 0
	for range 20000 {
		fields := slices.Concat(numOf(uint32(random.Intn(3))), numOf(uint32(random.Intn(4))), text(random.Intn(4)))
		for range random.Intn(3) {
			fields[random.Intn(len(fields))] = byte(random.Intn(256) >> random.Intn(9))
		}
		b := sealedOf(fields)
		p, e := Decode(b)
		if e != api.OK {
			refused(t, "what is refused", b)
			continue
		}
		read++
		again, e := Encode(p)
		if e != api.OK {
			t.Fatalf("%x is read as what may not be: Gen %d", b, p.Gen)
		}
		same(t, "read and written again", again, b)
	}
	if read < 1000 || read > 19000 {
		t.Errorf("%d of 20000 were read", read)
	}
}
