package vstore

import (
	"bytes"
	"math"
	"reflect"
	"strings"
	"testing"

	"linnet/api"
)

func same(t *testing.T, what string, got, want any) {
	t.Helper()
	if !reflect.DeepEqual(got, want) {
		t.Errorf("%s:\n got %v\nwant %v", what, got, want)
	}
}

// fresh is a store with a file a of three bytes, a directory d with a file d/x in it, and an empty directory e.
func fresh(t *testing.T, room int) *Store {
	t.Helper()
	s, err := New(room)
	same(t, "New", err, api.OK)
	for i, err := range []api.Errno{s.Create("a"), s.Write("a", 0, []byte("abc")), s.Mkdir("d"), s.Create("d/x"), s.Mkdir("e")} {
		same(t, "act "+string(rune('0'+i)), err, api.OK)
	}
	return s
}

func bytesOf(t *testing.T, s *Store, at string) string {
	t.Helper()
	b, err := s.Read(at)
	same(t, "Read "+at, err, api.OK)
	return string(b)
}

func statOf(t *testing.T, s *Store, at string) api.Stat {
	t.Helper()
	x, err := s.Stat(at)
	same(t, "Stat "+at, err, api.OK)
	return x
}

// refused tells that an act answers an error, and that nothing but Ops tells of it.
func refused(t *testing.T, s *Store, what string, want api.Errno, act func(*Store) api.Errno) {
	t.Helper()
	picks := []int{math.MaxInt, -1, -1, -1, -1}
	list, used, clock, ops := s.List(), s.Used(), s.Clock(), s.Ops()
	crash, none := tell(s.Crash(picks...)), tell(s.Crash())
	same(t, what, act(s), want)
	same(t, what+": the list", s.List(), list)
	same(t, what+": used, clock", []any{s.Used(), s.Clock()}, []any{used, clock})
	same(t, what+": ops", s.Ops(), ops+1)
	same(t, what+": a crash", []string{tell(s.Crash(picks...)), tell(s.Crash())}, []string{crash, none})
}

// wrongPaths are none.
func wrongPaths() []string {
	return []string{"", "/", "A", "a/", "/a", "a//b", ".", "..", "a/..", "a b", "\x00", "\xff", strings.Repeat("a", 21), strings.Repeat("a/", 30) + "a", strings.Repeat("a", 1000)}
}

// acts are all that take a path, with arguments that are right where a is a file of three bytes, but for the path.
func acts() map[string]func(s *Store, at string) api.Errno {
	return map[string]func(s *Store, at string) api.Errno{
		"Create":      (*Store).Create,
		"Mkdir":       (*Store).Mkdir,
		"Write":       func(s *Store, at string) api.Errno { return s.Write(at, 0, []byte("x")) },
		"Truncate":    func(s *Store, at string) api.Errno { return s.Truncate(at, 0) },
		"SetMeta":     func(s *Store, at string) api.Errno { return s.SetMeta(at, 1) },
		"Remove":      (*Store).Remove,
		"Rename from": func(s *Store, at string) api.Errno { return s.Rename(at, "new") },
		"Rename to":   func(s *Store, at string) api.Errno { return s.Rename("a", at) },
		"Sync":        (*Store).Sync,
	}
}

func TestP5_1New(t *testing.T) {
	for _, room := range []int{0, 1, 1 << 31, 1<<40 - 1, 1 << 40} {
		s, err := New(room)
		if s == nil || err != api.OK {
			t.Fatalf("New(%d) is %v, %d", room, s, err)
		}
		same(t, "an empty store", tell(s), "used 0 clock 0 ops 0")
		same(t, "Create", s.Create("a"), api.OK)
		want := api.OK
		if room == 0 {
			want = api.ErrFull
		}
		same(t, "a byte", s.Write("a", 0, []byte("x")), want)
		same(t, "no byte", s.Write("a", 0, nil), api.OK)
	}
	for _, room := range []int{-1, 1<<40 + 1, math.MinInt, math.MaxInt} {
		if s, err := New(room); s != nil || err != api.ErrArg {
			t.Errorf("New(%d) is %v, %d", room, s, err)
		}
	}
}

func TestP5_1WrongPaths(t *testing.T) {
	for what, act := range acts() {
		for _, at := range wrongPaths() {
			refused(t, fresh(t, 100), what+" "+at, api.ErrArg, func(s *Store) api.Errno { return act(s, at) })
		}
	}
	s := fresh(t, 100)
	for _, at := range wrongPaths() {
		refused(t, s, "a wrong path, and one that is not there", api.ErrArg, func(s *Store) api.Errno { return s.Rename("q", at) })
		refused(t, s, "a wrong path, and a wrong off", api.ErrArg, func(s *Store) api.Errno { return s.Write(at, -1, nil) })
	}
}

func TestP5_1CreateMkdir(t *testing.T) {
	for kind, act := range map[int]func(*Store, string) api.Errno{api.File: (*Store).Create, api.Dir: (*Store).Mkdir} {
		for _, c := range []struct {
			at   string
			want api.Errno
		}{
			{"b", api.OK}, {".b", api.OK}, {"d/y", api.OK}, {"e/a", api.OK},
			{"a", api.ErrThere}, {"d", api.ErrThere}, {"d/x", api.ErrThere}, {"e", api.ErrThere},
			{"q/a", api.ErrNone}, {"d/q/a", api.ErrNone}, {"q/q/q", api.ErrNone}, {"a/b/c", api.ErrNone},
			{"a/b", api.ErrKind}, {"d/x/y", api.ErrKind},
		} {
			s := fresh(t, 100)
			if c.want != api.OK {
				refused(t, s, c.at, c.want, func(s *Store) api.Errno { return act(s, c.at) })
				continue
			}
			same(t, c.at, act(s, c.at), c.want)
			same(t, c.at, statOf(t, s, c.at), api.Stat{Path: c.at, Kind: kind, Stamp: 6})
			same(t, "what is used, and the clock", []any{s.Used(), s.Clock()}, []any{3, uint64(6)})
			if kind == api.File {
				same(t, "its bytes", bytesOf(t, s, c.at), "")
			}
		}
	}
}

func TestP5_1Write(t *testing.T) {
	for _, c := range []struct {
		off     int
		b, want string
	}{
		{0, "", "abc"}, {2, "", "abc"}, {3, "", "abc"}, {0, "x", "xbc"}, {1, "x", "axc"}, {2, "xy", "abxy"}, {3, "x", "abcx"}, {0, "wxyz", "wxyz"},
		{4, "", "abc\x00"}, {4, "x", "abc\x00x"}, {20, "xy", "abc" + strings.Repeat("\x00", 17) + "xy"}, {40, "", "abc" + strings.Repeat("\x00", 37)},
	} {
		s := fresh(t, 100)
		same(t, "Write", s.Write("a", c.off, []byte(c.b)), api.OK)
		same(t, "bytes", bytesOf(t, s, "a"), c.want)
		same(t, "stat", statOf(t, s, "a"), api.Stat{Path: "a", Kind: api.File, Size: len(c.want), Stamp: 6})
		same(t, "used, clock", []any{s.Used(), s.Clock()}, []any{len(c.want), uint64(6)})
	}
}

func TestP5_1WriteErrors(t *testing.T) {
	s := fresh(t, 200000)
	long := make([]byte, MaxSize+1)
	for _, c := range []struct {
		at   string
		off  int
		b    []byte
		want api.Errno
	}{
		{"q", 0, nil, api.ErrNone}, {"q", -1, long, api.ErrNone}, {"d/q", 0, nil, api.ErrNone}, {"a/q", 0, nil, api.ErrNone},
		{"d", 0, nil, api.ErrKind}, {"d", -1, long, api.ErrKind}, {"e", 0, []byte("x"), api.ErrKind},
		{"a", -1, nil, api.ErrArg}, {"a", -1, long, api.ErrArg}, {"a", math.MinInt, long[:5], api.ErrArg},
		{"a", 0, long, api.ErrBig}, {"a", 1, long[1:], api.ErrBig}, {"a", MaxSize, long[:1], api.ErrBig}, {"a", MaxSize + 1, nil, api.ErrBig}, {"a", math.MaxInt, nil, api.ErrBig}, {"a", math.MaxInt, long, api.ErrBig}, {"a", math.MaxInt - 4, long[:5], api.ErrBig},
	} {
		refused(t, s, "Write "+c.at, c.want, func(s *Store) api.Errno { return s.Write(c.at, c.off, c.b) })
	}
	small := fresh(t, 3)
	refused(t, small, "too big ahead of full", api.ErrBig, func(s *Store) api.Errno { return s.Write("a", 0, long) })
	refused(t, small, "too big ahead of full", api.ErrBig, func(s *Store) api.Errno { return s.Write("a", MaxSize+1, nil) })
}

func TestP5_1WriteMaxSize(t *testing.T) {
	for _, c := range []struct{ off, n int }{{0, MaxSize}, {1, MaxSize - 1}, {MaxSize - 1, 1}, {MaxSize, 0}} {
		s := fresh(t, 200000)
		same(t, "just MaxSize", s.Write("a", c.off, bytes.Repeat([]byte("x"), c.n)), api.OK)
		same(t, "its size", []int{statOf(t, s, "a").Size, s.Used()}, []int{MaxSize, MaxSize})
		want := make([]byte, MaxSize)
		copy(want, "abc")
		copy(want[c.off:], bytes.Repeat([]byte("x"), c.n))
		same(t, "its bytes", bytesOf(t, s, "a") == string(want), true)
		refused(t, s, "one more", api.ErrBig, func(s *Store) api.Errno { return s.Write("a", MaxSize, []byte("x")) })
	}
}

func TestP5_1WriteRoom(t *testing.T) {
	s := fresh(t, 10)
	refused(t, s, "one more", api.ErrFull, func(s *Store) api.Errno { return s.Write("a", 3, make([]byte, 8)) })
	refused(t, s, "one nought more", api.ErrFull, func(s *Store) api.Errno { return s.Write("a", 11, nil) })
	refused(t, s, "one more in another file", api.ErrFull, func(s *Store) api.Errno { return s.Write("d/x", 0, make([]byte, 8)) })
	same(t, "what just fills the room", s.Write("d/x", 5, []byte("xy")), api.OK)
	same(t, "used", s.Used(), 10)
	refused(t, s, "one more", api.ErrFull, func(s *Store) api.Errno { return s.Write("a", 3, []byte("x")) })
	same(t, "what is there already", []api.Errno{s.Write("a", 0, []byte("ABC")), s.Write("a", 3, nil), s.Write("d/x", 0, make([]byte, 7)), s.Create("b"), s.Mkdir("f"), s.Write("b", 0, nil)}, make([]api.Errno, 6))
	same(t, "room that comes free", []api.Errno{s.Truncate("d/x", 6), s.Write("b", 0, []byte("x")), s.Remove("a"), s.Write("b", 1, []byte("xyz"))}, make([]api.Errno, 4))
	same(t, "used", s.Used(), 10)
	refused(t, s, "one more", api.ErrFull, func(s *Store) api.Errno { return s.Write("b", 5, nil) })
	same(t, "a room that goes away by a crash", s.Crash().Used(), 0)
}

// TestP5_1WriteOverFull: a crash that brings a file back may leave more bytes than there is room for; then no write may be.
func TestP5_1WriteOverFull(t *testing.T) {
	s, _ := New(4)
	s.Create("a")
	s.Create("b")
	s.Write("a", 0, []byte("abcd"))
	s.SyncDir()
	s.Remove("a")
	s.Write("b", 0, []byte("wxyz"))
	x := s.Crash()
	same(t, "used", x.Used(), 8)
	refused(t, x, "over the room", api.ErrFull, func(s *Store) api.Errno { return s.Write("a", 0, []byte("x")) })
	refused(t, x, "no bytes either", api.ErrFull, func(s *Store) api.Errno { return s.Write("a", 0, nil) })
	same(t, "cut, and then", []api.Errno{x.Truncate("b", 0), x.Write("a", 0, []byte("x"))}, make([]api.Errno, 2))
}

func TestP5_1Truncate(t *testing.T) {
	for n, want := range []string{"", "a", "ab", "abc"} {
		s := fresh(t, 100)
		same(t, "Truncate", s.Truncate("a", n), api.OK)
		same(t, "bytes", bytesOf(t, s, "a"), want)
		same(t, "stat", statOf(t, s, "a"), api.Stat{Path: "a", Kind: api.File, Size: n, Stamp: 6})
		same(t, "used, clock", []any{s.Used(), s.Clock()}, []any{n, uint64(6)})
		same(t, "it grows again", s.Write("a", 4, []byte("x")), api.OK)
		same(t, "bytes", bytesOf(t, s, "a"), want+strings.Repeat("\x00", 4-n)+"x")
	}
	s := fresh(t, 100)
	for _, c := range []struct {
		at   string
		n    int
		want api.Errno
	}{
		{"q", 0, api.ErrNone}, {"q", -1, api.ErrNone}, {"d", 0, api.ErrKind}, {"d", -1, api.ErrKind}, {"d", 1, api.ErrKind},
		{"a", 4, api.ErrArg}, {"a", -1, api.ErrArg}, {"a", math.MaxInt, api.ErrArg}, {"a", math.MinInt, api.ErrArg}, {"d/x", 1, api.ErrArg},
	} {
		refused(t, s, "Truncate "+c.at, c.want, func(s *Store) api.Errno { return s.Truncate(c.at, c.n) })
	}
	same(t, "of an empty one", s.Truncate("d/x", 0), api.OK)
	same(t, "its stamp", statOf(t, s, "d/x").Stamp, uint64(6))
}

func TestP5_1SetMeta(t *testing.T) {
	s := fresh(t, 100)
	for i, meta := range []int{0, 1, 1<<31 - 1, 7} {
		same(t, "of a file", s.SetMeta("a", meta), api.OK)
		same(t, "stat", statOf(t, s, "a"), api.Stat{Path: "a", Kind: api.File, Size: 3, Meta: meta, Stamp: uint64(6 + 2*i)})
		same(t, "of a directory", s.SetMeta("d", meta), api.OK)
		same(t, "stat", statOf(t, s, "d"), api.Stat{Path: "d", Kind: api.Dir, Meta: meta, Stamp: uint64(7 + 2*i)})
	}
	same(t, "bytes", bytesOf(t, s, "a"), "abc")
	for _, meta := range []int{-1, 1 << 31, math.MinInt, math.MaxInt} {
		refused(t, s, "a meta that may not be", api.ErrArg, func(s *Store) api.Errno { return s.SetMeta("a", meta) })
		refused(t, s, "a meta that may not be", api.ErrArg, func(s *Store) api.Errno { return s.SetMeta("d", meta) })
		refused(t, s, "and none there", api.ErrNone, func(s *Store) api.Errno { return s.SetMeta("q", meta) })
	}
	refused(t, s, "none there", api.ErrNone, func(s *Store) api.Errno { return s.SetMeta("q", 0) })
}

func TestP5_1Remove(t *testing.T) {
	s := fresh(t, 100)
	refused(t, s, "none there", api.ErrNone, func(s *Store) api.Errno { return s.Remove("q") })
	refused(t, s, "none there", api.ErrNone, func(s *Store) api.Errno { return s.Remove("a/b") })
	refused(t, s, "it holds something", api.ErrHeld, func(s *Store) api.Errno { return s.Remove("d") })
	same(t, "e, a", []api.Errno{s.Remove("e"), s.Remove("a"), s.Create("d.x")}, make([]api.Errno, 3))
	refused(t, s, "it holds something yet", api.ErrHeld, func(s *Store) api.Errno { return s.Remove("d") })
	refused(t, s, "it is gone", api.ErrNone, func(s *Store) api.Errno { return s.Remove("a") })
	same(t, "d/x, d", []api.Errno{s.Remove("d/x"), s.Remove("d")}, make([]api.Errno, 2))
	same(t, "what is left", s.List(), []api.Stat{{Path: "d.x", Kind: api.File, Stamp: 6}})
	same(t, "used, clock", []any{s.Used(), s.Clock()}, []any{0, uint64(6)})
	same(t, "made anew", s.Mkdir("a"), api.OK)
	same(t, "with a stamp of its own", statOf(t, s, "a"), api.Stat{Path: "a", Kind: api.Dir, Stamp: 7})
}

func TestP5_1Rename(t *testing.T) {
	s := fresh(t, 100)
	s.SetMeta("d", 9)
	s.Create("d.x")
	s.Create("d/z")
	s.Mkdir("d/a")
	s.Create("d/a/x")
	same(t, "Rename", []api.Errno{s.Rename("d", "e/d"), s.Rename("a", "e/d/a/y"), s.Rename("e", "c")}, make([]api.Errno, 3))
	same(t, "all", s.List(), []api.Stat{
		{Path: "c", Kind: api.Dir, Stamp: 5}, {Path: "c/d", Kind: api.Dir, Meta: 9, Stamp: 6}, {Path: "c/d/a", Kind: api.Dir, Stamp: 9}, {Path: "c/d/a/x", Kind: api.File, Stamp: 10},
		{Path: "c/d/a/y", Kind: api.File, Size: 3, Stamp: 2}, {Path: "c/d/x", Kind: api.File, Stamp: 4}, {Path: "c/d/z", Kind: api.File, Stamp: 8}, {Path: "d.x", Kind: api.File, Stamp: 7}})
	same(t, "its bytes", bytesOf(t, s, "c/d/a/y"), "abc")
	same(t, "used, clock", []any{s.Used(), s.Clock()}, []any{3, uint64(10)})
	same(t, "and up again", []api.Errno{s.Rename("c/d/a", "0"), s.Rename("c/d", "a"), s.Create("d")}, make([]api.Errno, 3))
	var paths []string
	for _, x := range s.List() {
		paths = append(paths, x.Path)
	}
	same(t, "all", paths, []string{"0", "0/x", "0/y", "a", "a/x", "a/z", "c", "d", "d.x"})
}

func TestP5_1RenameErrors(t *testing.T) {
	s := fresh(t, 100)
	for _, c := range []struct {
		from, to string
		want     api.Errno
	}{
		{"q", "r", api.ErrNone}, {"q", "q", api.ErrNone}, {"q", "q/r", api.ErrNone}, {"q", "a", api.ErrNone}, {"q", "r/r", api.ErrNone}, {"a/b", "r", api.ErrNone},
		{"a", "a", api.ErrArg}, {"d", "d", api.ErrArg}, {"d", "d/y", api.ErrArg}, {"d", "d/x", api.ErrArg}, {"d", "d/x/y", api.ErrArg}, {"d", "d/q/q", api.ErrArg}, {"a", "a/b", api.ErrArg}, {"d/x", "d/x", api.ErrArg},
		{"a", "d", api.ErrThere}, {"d", "a", api.ErrThere}, {"d", "e", api.ErrThere}, {"e", "d/x", api.ErrThere}, {"d/x", "d", api.ErrThere}, {"d/x", "a", api.ErrThere},
		{"a", "q/a", api.ErrNone}, {"a", "d/q/a", api.ErrNone}, {"d", "q/a", api.ErrNone},
		{"a", "d/x/a", api.ErrKind}, {"d", "a/d", api.ErrKind}, {"e", "a/b", api.ErrKind},
	} {
		refused(t, s, "Rename "+c.from+" "+c.to, c.want, func(s *Store) api.Errno { return s.Rename(c.from, c.to) })
	}
}

func TestP5_1RenameTooLong(t *testing.T) {
	s := fresh(t, 100)
	long := strings.Repeat("l", 20)
	deep := long + "/" + long
	for _, p := range []string{long, deep} {
		same(t, "Mkdir", s.Mkdir(p), api.OK)
	}
	refused(t, s, "d/x would have 61 bytes", api.ErrArg, func(s *Store) api.Errno { return s.Rename("d", deep+"/"+long[:17]) })
	refused(t, s, "d would have 60, d/x 62", api.ErrArg, func(s *Store) api.Errno { return s.Rename("d", deep+"/"+long[:18]) })
	refused(t, s, "and there is no parent", api.ErrNone, func(s *Store) api.Errno { return s.Rename("d", long+"/q/"+long[:18]) })
	same(t, "an empty one of 60, and a file", []api.Errno{s.Rename("e", deep+"/"+long[:18]), s.Rename("a", deep+"/"+long[:17])}, make([]api.Errno, 2))
	same(t, "one by which it has just 60", s.Rename("d", deep+"/"+long[:16]), api.OK)
	same(t, "it", statOf(t, s, deep+"/"+long[:16]+"/x"), api.Stat{Path: deep + "/" + long[:16] + "/x", Kind: api.File, Stamp: 4})
}

func TestP5_1Sync(t *testing.T) {
	s := fresh(t, 100)
	refused(t, s, "none there", api.ErrNone, func(s *Store) api.Errno { return s.Sync("q") })
	refused(t, s, "a directory", api.ErrKind, func(s *Store) api.Errno { return s.Sync("d") })
	before := s.List()
	same(t, "Sync", []api.Errno{s.Sync("a"), s.Sync("a"), s.Sync("d/x"), s.SyncDir(), s.SyncDir()}, make([]api.Errno, 5))
	same(t, "nothing else is changed", s.List(), before)
	same(t, "clock, ops", []any{s.Clock(), s.Ops()}, []any{uint64(5), 12})
	same(t, "all is safe", s.Crash().List(), before)
	same(t, "bytes", bytesOf(t, s.Crash(), "a"), "abc")
}

func TestP5_1PowerOff(t *testing.T) {
	for what, act := range acts() {
		s := fresh(t, 100)
		s.Cut(0)
		same(t, "Ops", s.Ops(), 5)
		for i, at := range append(wrongPaths(), "a", "d", "q", "q/q") {
			refused(t, s, what+" "+at, api.ErrOff, func(s *Store) api.Errno { return act(s, at) })
			same(t, "Ops", s.Ops(), 6+i)
		}
		refused(t, s, "SyncDir", api.ErrOff, (*Store).SyncDir)
	}
	s := fresh(t, 100)
	s.Cut(0)
	for what, act := range map[string]func(*Store) api.Errno{
		"an off below 0":  func(s *Store) api.Errno { return s.Write("a", -1, nil) },
		"a size below 0":  func(s *Store) api.Errno { return s.Truncate("a", -1) },
		"a meta below 0":  func(s *Store) api.Errno { return s.SetMeta("a", -1) },
		"a move to there": func(s *Store) api.Errno { return s.Rename("a", "a") },
		"SyncDir":         (*Store).SyncDir,
	} {
		refused(t, s, what, api.ErrOff, act)
	}
}
