package classify

import (
	"bytes"
	"testing"

	"linnet/api"
)

func TestP8_3AnotherStampIsNeverRot(t *testing.T) {
	everyPair(func(ref api.Ref, now api.Stat, root []byte) {
		if now.Stamp != ref.Stamp && Rotten(Of(ref, true, now, true, root)) {
			t.Fatalf("rot under another Stamp: %v, %v, %x", ref, now, root)
		}
	})
}

func TestP8_3TheSameStampAndOtherBytesAreRot(t *testing.T) {
	everyPair(func(ref api.Ref, now api.Stat, root []byte) {
		isFile := now.Kind == ref.Kind && now.Kind != api.Dir
		otherBytes := now.Size != ref.Size || !bytes.Equal(root, ref.Root)
		if isFile && now.Stamp == ref.Stamp && otherBytes && !Rotten(Of(ref, true, now, true, root)) {
			t.Fatalf("no rot under the same Stamp: %v, %v, %x", ref, now, root)
		}
	})
}

func TestP8_3EachTurnedByteIsRot(t *testing.T) {
	ref := was(api.File)
	now := unchanged(ref)
	for i := range bytesWere {
		for b := range 8 {
			data := bytes.Clone(bytesWere)
			data[i] ^= 1 << b
			mustBe(t, "a bit turned", Of(ref, true, now, true, rootOf(data)), api.Rot)
			edited := now
			edited.Stamp++
			mustBe(t, "a bit turned by an edit", Of(ref, true, edited, true, rootOf(data)), api.Edit)
		}
	}
	mustBe(t, "none turned", Of(ref, true, now, true, rootOf(bytesWere)), api.Same)
}

func TestP8_3NothingHandedInIsChanged(t *testing.T) {
	want := rootOf(bytesWere)
	for _, kind := range []int{api.File, api.Dir, 0} {
		ref := was(kind)
		now := unchanged(ref)
		var refWhole, rootWhole []byte
		ref.Root, refWhole = roomy(want)
		root, rootWhole := roomy(want)
		refBefore, rootBefore := bytes.Clone(refWhole), bytes.Clone(rootWhole)
		Of(ref, true, now, true, root)
		Ref(now, root)
		Same(ref, ref)
		if !bytes.Equal(refWhole, refBefore) || !bytes.Equal(rootWhole, rootBefore) {
			t.Errorf("kind %d: an argument, or its spare room, was changed", kind)
		}
	}
}

func TestP8_3WhatIsAnsweredIsNewMemory(t *testing.T) {
	for _, kind := range []int{api.File, 0, 3} {
		want := was(kind)
		now := unchanged(want)
		root, whole := roomy(want.Root)
		first, second := Ref(now, root), Ref(now, root)

		spoil(whole)
		sameRef(t, "behind what was handed in being changed", first, want)
		spoil(first.Root)
		sameRef(t, "behind another answer being changed", second, want)
		spoil(whole)
		spoil(second.Root)
		if !bytes.Equal(root, want.Root) || !bytes.Equal(whole[len(root):], []byte{0xa5, 0xa5, 0xa5, 0xa5}) {
			t.Errorf("kind %d: what was handed in changed with an answer", kind)
		}
		sameRef(t, "once more", Ref(now, root), want)
	}
}

func TestP8_3NothingIsKept(t *testing.T) {
	ref := was(api.File)
	now := unchanged(ref)
	root := bytes.Clone(ref.Root)
	mustBe(t, "as it was", Of(ref, true, now, true, root), api.Same)
	root[0] ^= 1
	mustBe(t, "turned in between", Of(ref, true, now, true, root), api.Rot)
	ref.Root[0] ^= 1
	mustBe(t, "both turned", Of(ref, true, now, true, root), api.Same)
	other := ref
	other.Root = bytes.Clone(ref.Root)
	if !Same(ref, other) {
		t.Error("a copy is not the same")
	}
	other.Root[0] ^= 1
	if Same(ref, other) {
		t.Error("the same, with a root that was turned in between")
	}
}
