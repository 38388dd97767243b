package sidecar

import (
	"bytes"
	"math/rand"
	"slices"
	"testing"

	"linnet/merkle"
)

func check(t *testing.T, what string, s Side, data []byte, ok bool, bad ...int) {
	t.Helper()
	got, gotOk := Check(s, data)
	samePlaces(t, what+": bad", got, bad)
	if gotOk != ok {
		t.Errorf("%s: ok is %v, want %v", what, gotOk, ok)
	}
}

func repair(t *testing.T, what string, s Side, data, want []byte, left ...int) {
	t.Helper()
	fixed, gotLeft := Repair(s, data)
	same(t, what+": fixed", fixed, want)
	samePlaces(t, what+": left", gotLeft, left)
}

// longer is data with these bytes behind it.
func longer(data []byte, more ...byte) []byte { return slices.Concat(data, more) }

// filled is data with noughts up to that size.
func filled(data []byte, size int) []byte { return longer(data, make([]byte, size-len(data))...) }

// 83 bytes by 16 and 2: blocks 0 to 5, the last of 3 bytes, in groups 0 1, 2 3, 4 5.
func TestP7_3Check(t *testing.T) {
	data := text(83)
	s := sideOf(data, 16, 2)
	check(t, "as it was", s, data, true)
	check(t, "the first byte", s, turned(data, 0), false, 0)
	check(t, "the last byte", s, turned(data, 82), false, 5)
	check(t, "one a group", s, turned(data, 16, 47, 64), false, 1, 2, 4)
	check(t, "two in a group", s, turned(data, 31, 0), false, 0, 1)
	check(t, "all", s, turned(data, 0, 16, 32, 48, 64, 80), false, 0, 1, 2, 3, 4, 5)
	check(t, "one byte more", s, longer(data, 0), false)
	check(t, "many more", s, longer(data, text(9000)...), false)
	check(t, "more, and a bad one", s, longer(turned(data, 33), 9), false, 2)
	check(t, "one byte less", s, data[:82], false, 5)
	check(t, "a block less", s, data[:80], false, 5)
	check(t, "two blocks less", s, data[:64], false, 4, 5)
	check(t, "one byte", s, data[:1], false, 0, 1, 2, 3, 4, 5)
	check(t, "none", s, nil, false, 0, 1, 2, 3, 4, 5)
	check(t, "an empty one", s, []byte{}, false, 0, 1, 2, 3, 4, 5)
}

// What is filled up with noughts may have the leaf; it is not ok all the same.
func TestP7_3CheckOfNoughtsAtTheEnd(t *testing.T) {
	data := filled(text(40), 60)
	s := sideOf(data, 16, 2)
	check(t, "as it was", s, data, true)
	for _, n := range []int{59, 48, 47, 41, 40} {
		check(t, "noughts cut off", s, data[:n], false)
		repair(t, "noughts cut off", s, data[:n], data)
	}
	check(t, "more than noughts cut off", s, data[:39], false, 2)
	noughts := make([]byte, 33)
	check(t, "noughts alone", sideOf(noughts, 16, 1), noughts, true)
	check(t, "no noughts", sideOf(noughts, 16, 1), nil, false)
	repair(t, "no noughts", sideOf(noughts, 16, 1), nil, noughts)
}

func TestP7_3OfASizeOfNone(t *testing.T) {
	s := sideOf(nil, 16, 1)
	check(t, "none", s, nil, true)
	check(t, "an empty one", s, []byte{}, true)
	check(t, "a byte", s, []byte{0}, false)
	check(t, "many", s, text(9000), false)
	repair(t, "none", s, nil, nil)
	repair(t, "many", s, text(9000), nil)
}

func TestP7_3Repair(t *testing.T) {
	data := text(83)
	s := sideOf(data, 16, 2)
	repair(t, "as it was", s, data, data)
	repair(t, "one", s, turned(data, 20), data)
	repair(t, "one a group", s, turned(data, 16, 47, 46, 80), data)
	repair(t, "two in a group", s, turned(data, 31, 0), turned(data, 31, 0), 0, 1)
	repair(t, "two in one group, one in the others", s, turned(data, 31, 40, 63, 82), turned(data, 40, 63), 2, 3)
	repair(t, "one byte more", s, longer(data, 0), data)
	repair(t, "many more, and one a group", s, longer(turned(data, 0, 63, 79), text(9000)...), data)
	repair(t, "one byte less", s, data[:82], data)
	repair(t, "a block less", s, data[:80], data)
	repair(t, "a byte of the next block less", s, data[:79], filled(data[:79], 83), 4, 5)
	repair(t, "two blocks less, and one in the others", s, turned(data, 5, 55)[:64], filled(data[:64], 83), 4, 5)
	repair(t, "none", s, nil, make([]byte, 83), 0, 1, 2, 3, 4, 5)
	repair(t, "none, of groups of one", sideOf(data, 16, 1), nil, data)
	repair(t, "an empty one, of one block", sideOf(data[:9], 16, 8), []byte{}, data[:9])
}

func TestP7_3RepairBySidesOfOtherBytes(t *testing.T) {
	data := text(83)
	s := sideOf(data, 16, 2)
	s.Parity[0][4] ^= 1
	repair(t, "a wrong parity", s, turned(data, 20, 40), turned(data, 20), 1)
	repair(t, "a wrong parity that is not needed", s, turned(data, 40), data)
	s = sideOf(data, 16, 2)
	s.Leaves[1] = make([]byte, 32)
	s.Root = rootOf(s.Leaves)
	check(t, "a leaf of nothing", s, data, false, 1)
	repair(t, "a leaf of nothing", s, turned(data, 64), data, 1)
	s = sideOf(data, 16, 2)
	s.Size = 90
	check(t, "a Size that is not the leaves'", s, filled(data, 90), false, 5)
	repair(t, "a Size that is not the leaves'", s, turned(filled(data, 90), 3), filled(data, 90), 5)
}

func TestP7_3OfWhatIsNotSound(t *testing.T) {
	data := text(83)
	for _, u := range append(unsounds(), unsound{why: "a zero Side"}) {
		for _, d := range [][]byte{data, turned(data, 1), data[:70], longer(data, 1), nil} {
			check(t, u.why, u.s, d, false)
			repair(t, u.why, u.s, d, nil)
		}
	}
}

func TestP7_3AtTheLimits(t *testing.T) {
	data := text(8192)
	s := sideOf(data, 16, 8)
	check(t, "by 16 and 8", s, turned(data, 0, 8191), false, 0, 511)
	repair(t, "by 16 and 8", s, turned(data, 0, 8191), data)
	s = sideOf(data, 4096, 8)
	check(t, "by 4096 and 8", s, turned(data, 4095), false, 0)
	repair(t, "by 4096 and 8", s, turned(data, 4095), data)
	repair(t, "both of a group", s, turned(data, 4095, 4096), turned(data, 4095, 4096), 0, 1)
	s = sideOf(data, 4096, 1)
	repair(t, "by 4096 and 1", s, nil, data)
}

func TestP7_4OneOfAGroupComesBack(t *testing.T) {
	rnd := rand.New(rand.NewSource(74))
	for range 1500 {
		data := make([]byte, rnd.Intn(800))
		rnd.Read(data)
		block, k := 16+rnd.Intn(30), 1+rnd.Intn(8)
		s := made(t, data, block, k)
		bad := bytes.Clone(data)
		for g := range s.Parity {
			first := g * k
			at := (first + rnd.Intn(min(k, len(s.Leaves)-first))) * block
			rnd.Read(bad[at:min(at+block, len(data))])
		}
		switch rnd.Intn(4) {
		case 0:
			bad = longer(bad, make([]byte, rnd.Intn(50))...)
		case 1:
			bad = slices.Concat(bad, text(rnd.Intn(50)))
		}
		fixed, left := Repair(s, bad)
		same(t, "fixed", fixed, data)
		samePlaces(t, "left", left, nil)
		same(t, "the Root of what is fixed", merkle.Root(merkle.Leaves(fixed, block)), s.Root)
		check(t, "what is fixed", s, fixed, true)
	}
}

// Behind Encode and Decode a Side heals as before.
func TestP7_4ASideThatWasReadHeals(t *testing.T) {
	data := text(500)
	b, _ := Encode(made(t, data, 20, 5))
	s, _ := Decode(b)
	repair(t, "one a group", s, turned(data, 0, 199, 250, 330, 499), data)
}

func TestP7_4NothingHandedInChanges(t *testing.T) {
	data, bad := roomy(text(83)), roomy(turned(text(83), 5, 40, 60))
	s := sideOf(data, 16, 2)
	s.Root, s.Leaves, s.Parity = roomy(s.Root), roomyList(s.Leaves), roomyList(s.Parity)
	b := roomy(sealedOf(fieldsOf(s)))
	wrong := roomy(sealedOf(text(60)))
	lists := slices.Concat([][]byte{data, bad, b, wrong}, listsOf(s), s.Leaves[6:9][:2], s.Parity[3:6][:2])
	var before [][]byte
	for _, one := range lists {
		before = append(before, bytes.Clone(one[:cap(one)]))
	}
	Make(data, 16, 2)
	Make(data, 15, 2)
	Sound(s)
	Encode(s)
	Decode(b)
	Decode(wrong)
	Same(s, s)
	for _, d := range [][]byte{data, bad, bad[:50], data[:90], nil} {
		Check(s, d)
		Repair(s, d)
	}
	for i, one := range lists {
		same(t, "a list that was handed in", one[:cap(one)], before[i])
	}
	sameSide(t, "the Side", s, sideOf(text(83), 16, 2))
	for i, list := range [][][]byte{s.Leaves, s.Parity} {
		behind := list[:cap(list)][len(list):]
		same(t, "behind the list", behind[0], lists[len(lists)-4+2*i])
		same(t, "behind the list", behind[1], []byte{2})
	}
}

func TestP7_4AnswersAreNotWhatWasHandedIn(t *testing.T) {
	want := sideOf(text(83), 16, 2)
	data := text(83)
	first := made(t, data, 16, 2)
	one := made(t, data[:9], 16, 2)
	spoil(data)
	sameSide(t, "Make, the data being gone", first, want)
	sameSide(t, "Make of one block, the data being gone", one, sideOf(text(9), 16, 2))

	given := cloned(want)
	b, _ := Encode(given)
	data = turned(text(83), 5)
	fixed, _ := Repair(given, data)
	all, _ := Repair(given, data[:0])
	spoilSide(given)
	spoil(data)
	same(t, "Encode, the Side being gone", b, sealedOf(fieldsOf(want)))
	same(t, "Repair, the Side and the data being gone", fixed, text(83))
	same(t, "Repair of none, the Side being gone", all, make([]byte, 83))

	s, _ := Decode(b)
	spoil(b)
	sameSide(t, "Decode, the bytes being gone", s, want)
}

func TestP7_4AnswersShareNothing(t *testing.T) {
	for _, size := range []int{9, 16, 17, 83} {
		for _, k := range []int{1, 2} {
			want := sideOf(text(size), 16, k)
			read, _ := Decode(sealedOf(fieldsOf(want)))
			for _, s := range []Side{made(t, text(size), 16, k), read} {
				lists := listsOf(s)
				for i := range lists {
					before := clones(lists)
					spoil(lists[i])
					for j := range lists {
						if j != i {
							same(t, "another list", lists[j], before[j])
						}
					}
					spoil(lists[i])
				}
				sameSide(t, "spoilt and mended", s, want)
			}
		}
	}
}

func TestP7_4AnswersThatAreChangedChangeNothing(t *testing.T) {
	data := turned(text(83), 5, 20, 40)
	s := sideOf(text(83), 16, 2)
	for range 2 {
		bad, _ := Check(s, data)
		samePlaces(t, "bad", bad, []int{0, 1, 2})
		fixed, left := Repair(s, data)
		same(t, "fixed", fixed, turned(text(83), 5, 20))
		samePlaces(t, "left", left, []int{0, 1})
		b, _ := Encode(s)
		same(t, "Encode", b, sealedOf(fieldsOf(s)))
		read, _ := Decode(b)
		sameSide(t, "Decode", read, s)
		bad[0], left[0] = 99, 99
		spoil(fixed)
		spoil(b)
		spoilSide(read)
		spoilSide(made(t, text(83), 16, 2))
	}
	sameSide(t, "Make", made(t, text(83), 16, 2), s)
}
