package vstore

import (
	"math"
	"strings"
	"testing"

	"linnet/api"
)

func TestP5_2ReadStat(t *testing.T) {
	s := fresh(t, 100)
	for _, c := range []struct {
		at        string
		read, sta api.Errno
	}{{"a", api.OK, api.OK}, {"d/x", api.OK, api.OK}, {"d", api.ErrKind, api.OK}, {"q", api.ErrNone, api.ErrNone}, {"a/b", api.ErrNone, api.ErrNone}, {"d/q", api.ErrNone, api.ErrNone}} {
		_, read := s.Read(c.at)
		_, sta := s.Stat(c.at)
		same(t, c.at, []api.Errno{read, sta}, []api.Errno{c.read, c.sta})
	}
	for _, at := range append(wrongPaths(), "d", "q") {
		if b, err := s.Read(at); len(b) > 0 || err == api.OK {
			t.Errorf("Read(%q) is %q, %d", at, b, err)
		}
	}
	for _, at := range append(wrongPaths(), "q") {
		if x, err := s.Stat(at); x != (api.Stat{}) || err != api.ErrNone {
			t.Errorf("Stat(%q) is %v, %d", at, x, err)
		}
		same(t, "Rot", s.Rot(at, 0, 1), api.ErrNone)
	}
	same(t, "a directory", statOf(t, s, "d"), api.Stat{Path: "d", Kind: api.Dir, Stamp: 3})
	same(t, "no acts", s.Ops(), 5)
}

func TestP5_2List(t *testing.T) {
	s, _ := New(10)
	same(t, "nothing", len(s.List()), 0)
	want := []string{"-", ".h", "a", "a/0", "a/b", "a/b/c", "a/b.c", "a-b", "a.b", "a.b/c", "aa", "b"}
	made := []string{"b", "a.b", "a", "a/b", "aa", "-", "a/b/c", ".h", "a/b.c", "a-b", "a/0", "a.b/c"}
	for _, p := range made {
		same(t, p, s.Mkdir(p), api.OK)
	}
	var got []string
	for _, x := range s.List() {
		got = append(got, x.Path)
	}
	same(t, "by Less", got, want)
}

func TestP5_2Rot(t *testing.T) {
	s := fresh(t, 100)
	before := s.List()
	for _, c := range []struct {
		at   string
		off  int
		x    byte
		want api.Errno
	}{
		{"q", 0, 1, api.ErrNone}, {"q", 0, 0, api.ErrNone}, {"d", 0, 1, api.ErrKind}, {"d", 0, 0, api.ErrKind}, {"d/x", 0, 1, api.ErrArg},
		{"a", 0, 0, api.ErrArg}, {"a", -1, 1, api.ErrArg}, {"a", 3, 1, api.ErrArg}, {"a", math.MinInt, 1, api.ErrArg}, {"a", math.MaxInt, 1, api.ErrArg},
	} {
		same(t, "Rot "+c.at, s.Rot(c.at, c.off, c.x), c.want)
		same(t, "bytes", bytesOf(t, s, "a"), "abc")
	}
	same(t, "Rot", []api.Errno{s.Rot("a", 0, 1), s.Rot("a", 2, 0xff), s.Rot("a", 0, 2)}, make([]api.Errno, 3))
	same(t, "bytes", bytesOf(t, s, "a"), "bb\x9c")
	same(t, "nothing else", s.List(), before)
	same(t, "no act", []any{s.Ops(), s.Clock()}, []any{5, uint64(5)})
	s.Cut(0)
	s.SyncDir()
	same(t, "without power", s.Rot("a", 1, 'b'), api.OK)
	same(t, "bytes", bytesOf(t, s, "a"), "b\x00\x9c")
}

// TestP5_2RotInWhatIsSafe: rot of a sector that is safe stays one that is safe; of one that is not, it is in both its bytes.
func TestP5_2RotInWhatIsSafe(t *testing.T) {
	s, _ := New(100)
	s.Create("a")
	s.Write("a", 0, []byte(strings.Repeat("a", 40)))
	s.Sync("a")
	s.SyncDir()
	s.Rot("a", 0, 'a'^'x')
	s.Write("a", 16, []byte("b"))
	s.Rot("a", 17, 'a'^'y')
	s.Rot("a", 16, 3)
	now := "x" + strings.Repeat("a", 15) + "ay" + strings.Repeat("a", 22)
	was := "x" + strings.Repeat("a", 15) + "by" + strings.Repeat("a", 22)
	same(t, "now", bytesOf(t, s, "a"), now)
	same(t, "held", bytesOf(t, s.Crash(0, 1), "a"), now)
	same(t, "not held: a, xored with 3", bytesOf(t, s.Crash(0, 2), "a"), was)
	same(t, "not held", bytesOf(t, s.Crash(0, 0), "a"), was)
}

func TestP5_2Cut(t *testing.T) {
	for _, n := range []int{math.MinInt, -1, 0, 1, 2, 5} {
		s := fresh(t, 100)
		s.Cut(n)
		for i := range max(n, 0) {
			want := api.ErrThere
			act := s.Create
			if i%2 == 1 {
				act, want = s.Sync, api.OK
			}
			same(t, "an act that is come to", act("a"), want)
		}
		same(t, "behind them", []api.Errno{s.Create("b"), s.SyncDir(), s.Sync("a")}, []api.Errno{api.ErrOff, api.ErrOff, api.ErrOff})
		same(t, "Ops", s.Ops(), 5+max(n, 0)+3)
		s.Cut(5)
		same(t, "for good", []api.Errno{s.Create("b"), s.Mkdir("A")}, []api.Errno{api.ErrOff, api.ErrOff})
		same(t, "what is there is there yet", bytesOf(t, s, "a"), "abc")
	}
}

func TestP5_2CutInPlace(t *testing.T) {
	s := fresh(t, 100)
	s.Cut(0)
	s.Cut(2)
	same(t, "two", []api.Errno{s.Create("A"), s.Create("b")}, []api.Errno{api.ErrArg, api.OK})
	s.Cut(1)
	same(t, "one more", []api.Errno{s.Create("c"), s.Create("f")}, []api.Errno{api.OK, api.ErrOff})
	s = fresh(t, 100)
	s.Cut(3)
	s.Cut(0)
	same(t, "none", s.SyncDir(), api.ErrOff)
	s = fresh(t, 100)
	s.Cut(math.MaxInt)
	same(t, "all", []api.Errno{s.SyncDir(), s.Create("b")}, make([]api.Errno, 2))
}

// TestP5_2CutCountsEachAct: every kind of act counts, and what is no act does not.
func TestP5_2CutCountsEachAct(t *testing.T) {
	s := fresh(t, 100)
	s.Cut(10)
	all := []func() api.Errno{
		func() api.Errno { return s.Create("b") },
		func() api.Errno { return s.Mkdir("f") },
		func() api.Errno { return s.Write("b", 0, nil) },
		func() api.Errno { return s.Truncate("b", 0) },
		func() api.Errno { return s.SetMeta("b", 1) },
		func() api.Errno { return s.Remove("b") },
		func() api.Errno { return s.Rename("f", "g") },
		func() api.Errno { return s.Sync("a") },
		func() api.Errno { return s.SyncDir() },
		func() api.Errno { return s.Write("g", 0, nil) },
	}
	for i, act := range all {
		want := api.OK
		if i == 9 {
			want = api.ErrKind
		}
		same(t, "act", act(), want)
		same(t, "Ops", s.Ops(), 6+i)
		s.Read("a")
		s.Stat("a")
		s.List()
		s.Used()
		s.Clock()
		s.Rot("a", 0, 1)
		s.Crash(1, 2)
		same(t, "Ops", s.Ops(), 6+i)
	}
	same(t, "the next one", s.SyncDir(), api.ErrOff)
	same(t, "Ops", s.Ops(), 16)
}

func TestP5_2NilStore(t *testing.T) {
	var s *Store
	for what, act := range acts() {
		for _, at := range append(wrongPaths(), "a") {
			same(t, what, act(s, at), api.ErrOff)
		}
	}
	same(t, "SyncDir", s.SyncDir(), api.ErrOff)
	s.Cut(3)
	b, read := s.Read("a")
	x, stat := s.Stat("a")
	same(t, "Read", []any{len(b), read}, []any{0, api.ErrNone})
	same(t, "Stat", []any{x, stat}, []any{api.Stat{}, api.ErrNone})
	same(t, "Rot", []api.Errno{s.Rot("a", 0, 1), s.Rot("a", 0, 0), s.Rot("", -1, 0)}, []api.Errno{api.ErrNone, api.ErrNone, api.ErrNone})
	same(t, "none and 0", []any{len(s.List()), s.Used(), s.Clock(), s.Ops()}, []any{0, 0, uint64(0), 0})
	if s.Crash() != nil || s.Crash(1, 2) != nil {
		t.Error("a crash of no store is none")
	}
}

// TestP5_2ZeroStore: one that New did not make has no room, and does not panic.
func TestP5_2ZeroStore(t *testing.T) {
	var s Store
	same(t, "acts", []api.Errno{s.Mkdir("d"), s.Create("d/a"), s.Write("d/a", 0, []byte("x")), s.Sync("d/a"), s.SyncDir()}, []api.Errno{0, 0, api.ErrFull, 0, 0})
	same(t, "a crash", tell(s.Crash(1)), "d kind 2 size 0 meta 0 stamp 1 \"\"\nd/a kind 1 size 0 meta 0 stamp 2 \"\"\nused 0 clock 2 ops 0")
}
