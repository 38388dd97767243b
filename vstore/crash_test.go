package vstore

import (
	"math"
	"strings"
	"testing"

	"linnet/api"
)

func paths(s *Store) string {
	var all []string
	for _, x := range s.List() {
		all = append(all, x.Path)
	}
	return strings.Join(all, " ")
}

// seen is a file's bytes, noughts as dots.
func seen(t *testing.T, s *Store, at string) string {
	t.Helper()
	return strings.ReplaceAll(bytesOf(t, s, at), "\x00", ".")
}

// sectorsOf is n sectors of one letter each.
func sectorsOf(letters string) string {
	var b strings.Builder
	for _, c := range letters {
		b.WriteString(strings.Repeat(string(c), api.Sector))
	}
	return b.String()
}

// short is the first letter of each sector.
func short(s string) string {
	var b strings.Builder
	for i := 0; i < len(s); i += api.Sector {
		b.WriteByte(s[i])
	}
	return b.String()
}

func TestP5_3Example(t *testing.T) {
	s, _ := New(10)
	s.Create("a")
	s.Write("a", 0, []byte("x"))
	same(t, "Crash(1, 0)", tell(s.Crash(1, 0)), "a kind 1 size 1 meta 0 stamp 2 \"\\x00\"\nused 1 clock 2 ops 0")
}

func TestP5_3Names(t *testing.T) {
	s, _ := New(10)
	s.Mkdir("d")
	s.SyncDir()
	s.Create("d/a")
	s.Create("d/a") // refused: it is none of the acts
	s.Rename("d", "e")
	s.Remove("e/a")
	s.Remove("d")
	s.Mkdir("f")
	for pick, want := range map[int]string{
		0: "d", 1: "d d/a", 2: "e e/a", 3: "e", 4: "e f", 5: "d", 6: "d d/a", 9: "e f", -1: "e f", -2: "e", -3: "e e/a", -4: "d d/a", -5: "d", -6: "e f",
		math.MaxInt: [5]string{"d", "d d/a", "e e/a", "e", "e f"}[math.MaxInt%5], math.MinInt: [5]string{"d", "d d/a", "e e/a", "e", "e f"}[math.MinInt%5+5],
	} {
		same(t, "names", paths(s.Crash(pick)), want)
	}
	same(t, "no pick", paths(s.Crash()), "d")
	same(t, "this one stays", paths(s), "e f")
	s.SyncDir()
	for pick := -3; pick < 4; pick++ {
		same(t, "all is safe", paths(s.Crash(pick)), "e f")
	}
	s.Remove("f")
	same(t, "one of one", []string{paths(s.Crash(0)), paths(s.Crash(1)), paths(s.Crash(2)), paths(s.Crash(-1))}, []string{"e f", "e", "e f", "e"})
}

// TestP5_3NamesGoNotTheRest: a name comes back with the kind, the meta, the stamp, the size and the bytes that stood there last.
func TestP5_3NamesGoNotTheRest(t *testing.T) {
	s, _ := New(100)
	s.Create("a")
	s.Write("a", 0, []byte("abc"))
	s.SyncDir()
	s.Rename("a", "b")
	s.SetMeta("b", 7)
	s.Write("b", 3, []byte("de"))
	s.Sync("b")
	s.Truncate("b", 4)
	s.Remove("b")
	s.Mkdir("a")
	want := "kind 1 size 4 meta 7 stamp 5 \"abcd\"\nused 4 clock 6 ops 0"
	same(t, "back at a", tell(s.Crash()), "a "+want)
	same(t, "at b", tell(s.Crash(1)), "b "+want)
	same(t, "gone", tell(s.Crash(2)), "used 0 clock 6 ops 0")
	same(t, "a directory", tell(s.Crash(3)), "a kind 2 size 0 meta 0 stamp 6 \"\"\nused 0 clock 6 ops 0")
}

func TestP5_3Sectors(t *testing.T) {
	s, _ := New(1000)
	s.Create("a")
	s.SyncDir()
	s.Write("a", 0, []byte(sectorsOf("abcd")))
	s.Sync("a")
	s.Write("a", 20, []byte("x"))  // sector 1
	s.Write("a", 63, []byte("yz")) // sectors 3 and 4
	s.Write("a", 48, nil)          // none
	s.Write("a", 15, []byte{})     // none
	s.Rot("a", 0, 'a'^'r')         // stays safe
	s.Write("a", 20, []byte("X"))  // sector 1 again: what was safe is what was, not x
	now := "r" + sectorsOf("a")[1:] + "bbbbX" + strings.Repeat("b", 11) + sectorsOf("c") + sectorsOf("d")[1:] + "yz"
	was := "r" + sectorsOf("a")[1:] + sectorsOf("b") + sectorsOf("c") + sectorsOf("d") + "."
	for pick := range 16 {
		want := []byte(was)
		for i, part := range [][2]int{{16, 32}, {48, 64}, {64, 65}} {
			if pick>>i&1 == 1 {
				copy(want[part[0]:part[1]], now[part[0]:part[1]])
			}
		}
		same(t, "of three", seen(t, s.Crash(0, pick), "a"), string(want))
		same(t, "of three, below 0", seen(t, s.Crash(0, pick-16), "a"), string(want))
	}
	same(t, "none without a pick", []string{seen(t, s.Crash(), "a"), seen(t, s.Crash(0), "a")}, []string{was, was})
	same(t, "extremes", []string{seen(t, s.Crash(0, math.MinInt), "a"), seen(t, s.Crash(0, math.MaxInt), "a"), seen(t, s.Crash(0, -1), "a")}, []string{was, now, now})
	same(t, "this one stays", seen(t, s, "a"), now)
	s.Sync("a")
	same(t, "all is safe", seen(t, s.Crash(), "a"), now)
}

// TestP5_3WrittenAnewAlike: a sector that was written with what stood there is not safe either: it takes a pick's digit.
func TestP5_3WrittenAnewAlike(t *testing.T) {
	s, _ := New(1000)
	s.Create("a")
	s.Create("b")
	s.Write("a", 0, []byte(sectorsOf("ab")))
	s.Write("b", 0, []byte("b"))
	s.Sync("a")
	s.Sync("b")
	s.SyncDir()
	s.Write("a", 0, []byte("a"))
	s.Write("a", 16, []byte("x"))
	s.Write("b", 0, []byte("y"))
	same(t, "the second digit", []string{short(seen(t, s.Crash(0, 1), "a")), short(seen(t, s.Crash(0, 2), "a"))}, []string{"ab", "ax"})
	same(t, "the pick behind", []string{seen(t, s.Crash(0, 2), "b"), seen(t, s.Crash(0, 2, 1), "b")}, []string{"b", "y"})
	s.Sync("a")
	s.Write("a", 0, []byte("a"))
	same(t, "a takes one", []string{seen(t, s.Crash(0, 0, 1), "b"), seen(t, s.Crash(0, 1, 0), "b")}, []string{"y", "b"})
	s.Sync("a")
	s.Write("a", 5, nil)
	same(t, "a takes none", []string{seen(t, s.Crash(0, 1), "b"), seen(t, s.Crash(0, 0, 1), "b")}, []string{"y", "b"})
}

// TestP5_3SectorEnds: a write that ends, or begins, just where a sector does leaves its neighbour safe.
func TestP5_3SectorEnds(t *testing.T) {
	s, _ := New(1000)
	s.Create("a")
	s.Write("a", 0, []byte(sectorsOf("abcd")))
	s.Sync("a")
	s.SyncDir()
	s.Write("a", 16, []byte(sectorsOf("x")))
	s.Write("a", 48, []byte(sectorsOf("y")))
	for pick, want := range []string{"abcd", "axcd", "abcy", "axcy"} {
		same(t, "two", short(seen(t, s.Crash(0, pick), "a")), want)
	}
	s.Truncate("a", 48)
	s.Write("a", 48, []byte(sectorsOf("zz")))
	for pick, want := range []string{"abc..", "axc..", "abcz.", "axcz.", "abc.z"} {
		same(t, "three", short(seen(t, s.Crash(0, pick), "a")), want)
	}
}

func TestP5_3NeverSafe(t *testing.T) {
	s, _ := New(1000)
	s.Create("a")
	s.SyncDir()
	s.Write("a", 0, []byte(sectorsOf("ab")+"ccc"))
	same(t, "noughts", seen(t, s.Crash(), "a"), strings.Repeat(".", 35))
	same(t, "one of them", seen(t, s.Crash(0, 2), "a"), sectorsOf(".b")+"...")
	s.Sync("a")
	s.Write("a", 35, []byte("dd"))
	same(t, "what was there, and noughts", seen(t, s.Crash(), "a"), sectorsOf("ab")+"ccc..")
	same(t, "the whole sector", seen(t, s.Crash(0, 1), "a"), sectorsOf("ab")+"cccdd")
}

// TestP5_3NoughtsBetween: the noughts that a write behind the end brings are written, too, the rest of a sector that was there among them.
func TestP5_3NoughtsBetween(t *testing.T) {
	s, _ := New(1000)
	s.Create("a")
	s.Create("b")
	s.SyncDir()
	s.Write("a", 0, []byte("abc"))
	s.Sync("a")
	s.Write("a", 40, nil)
	s.Write("b", 0, []byte("b"))
	same(t, "noughts", seen(t, s.Crash(), "a"), "abc"+strings.Repeat(".", 37))
	same(t, "they take a pick", []string{seen(t, s.Crash(0, 0, 1), "b"), seen(t, s.Crash(0, 1, 0), "b")}, []string{"b", "."})
	s.Write("a", 17, []byte("x"))
	s.Write("a", 33, []byte("y"))
	for pick, want := range []string{"..", "..", "x.", "x.", ".y", ".y", "xy", "xy"} {
		got := bytesOf(t, s.Crash(0, pick), "a")
		same(t, "sectors 0 to 2", strings.ReplaceAll(string(got[17])+string(got[33]), "\x00", "."), want)
	}
	s.Sync("a")
	s.Write("a", 64, []byte("z"))
	same(t, "2, 3 and 4", []string{short(seen(t, s.Crash(0, 3), "a")), short(seen(t, s.Crash(0, 4), "a"))}, []string{"a....", "a...z"})
	s.Sync("a")
	s.Truncate("a", 48)
	s.Write("a", 64, []byte("z"))
	same(t, "3 and 4", []string{short(seen(t, s.Crash(0, 1), "a")), short(seen(t, s.Crash(0, 2), "a"))}, []string{"a....", "a...z"})
}

func TestP5_3Truncate(t *testing.T) {
	s, _ := New(1000)
	s.Create("a")
	s.Write("a", 0, []byte(sectorsOf("abc")))
	s.Sync("a")
	s.SyncDir()
	s.Truncate("a", 20)
	same(t, "the cut is safe", seen(t, s.Crash(), "a"), sectorsOf("a")+"bbbb")
	s.Write("a", 40, []byte("x"))
	same(t, "noughts in what is safe", seen(t, s.Crash(), "a"), sectorsOf("a")+"bbbb"+strings.Repeat(".", 21))
	same(t, "sectors 1 and 2", seen(t, s.Crash(0, 2), "a"), sectorsOf("a")+"bbbb"+strings.Repeat(".", 20)+"x")
	s.Truncate("a", 30)
	same(t, "sector 2 is gone", seen(t, s.Crash(0, 3), "a"), sectorsOf("a")+"bbbb"+strings.Repeat(".", 10))
	s.Sync("a")
	s.Write("a", 16, []byte(sectorsOf("B")))
	s.Truncate("a", 18)
	same(t, "a cut within one that is not safe", []string{seen(t, s.Crash(0, 0), "a"), seen(t, s.Crash(0, 1), "a")}, []string{sectorsOf("a") + "bb", sectorsOf("a") + "BB"})
	s.Truncate("a", 18)
	s.Write("a", 18, []byte("CC"))
	same(t, "it grew", []string{seen(t, s.Crash(0, 0), "a"), seen(t, s.Crash(0, 1), "a")}, []string{sectorsOf("a") + "bb..", sectorsOf("a") + "BBCC"})
	s.Truncate("a", 0)
	s.Create("b")
	s.Write("b", 0, []byte("b"))
	same(t, "nothing of it takes a pick", seen(t, s.Crash(1, 1), "b"), "b")
	s.Write("a", 0, []byte(sectorsOf("xy")))
	same(t, "noughts", []string{seen(t, s.Crash(), "a"), seen(t, s.Crash(0, 2), "a")}, []string{sectorsOf(".."), sectorsOf(".y")})
}

// TestP5_3TruncateIsSafe: a cut within a safe sector leaves it safe.
func TestP5_3TruncateIsSafe(t *testing.T) {
	s, _ := New(1000)
	s.Create("a")
	s.Create("b")
	s.Write("a", 0, []byte(sectorsOf("ab")))
	s.Sync("a")
	s.SyncDir()
	s.Write("b", 0, []byte("x"))
	s.Truncate("a", 20)
	s.SetMeta("a", 3)
	same(t, "the first file pick is b's", seen(t, s.Crash(0, 1), "b"), "x")
	s.Truncate("a", 20)
	same(t, "to its own size", seen(t, s.Crash(0, 1), "b"), "x")
	same(t, "a", statOf(t, s.Crash(), "a"), api.Stat{Path: "a", Kind: api.File, Size: 20, Meta: 3, Stamp: 7})
}

func TestP5_3ManySectors(t *testing.T) {
	const n = 70
	s, _ := New(100000)
	s.Create("a")
	s.SyncDir()
	s.Write("a", 0, []byte(strings.Repeat("o", 16*(n+1))))
	s.Sync("a")
	s.Write("a", 16, []byte(strings.Repeat("x", 16*n)))
	for _, pick := range []int{0, 1, 2, 1 << 29, 1 << 30, 1<<30 + 1, -1, -2, -1 << 29, -1 << 30, math.MinInt, 0x2aaaaaaa, 0x15555555, -0x2aaaaaaa} {
		want := "o"
		for i := range n {
			c := "o"
			if uint64(pick)>>(i%30)%2 == 1 {
				c = "x"
			}
			want += c
		}
		same(t, "by digits", short(bytesOf(t, s.Crash(0, pick), "a")), want)
	}
	s.Sync("a")
	for i := range 35 {
		s.Write("a", 32*i, []byte("yy"))
	}
	got := short(bytesOf(t, s.Crash(0, 1<<0|1<<2), "a"))
	want := "y" + "xxx" + "y" + strings.Repeat("x", 55) + "y" + "xxx" + "y" + strings.Repeat("x", 6)
	same(t, "those that are not safe are counted", got, want)
}

// TestP5_3WhosePick: files by Less of their paths behind the crash, those without such sectors and directories passed over.
func TestP5_3WhosePick(t *testing.T) {
	s, _ := New(1000)
	for _, p := range []string{"z", "d/b", "d.x", "m", "e"} {
		if p == "d/b" {
			s.Mkdir("d")
		}
		s.Create(p)
		s.Write(p, 0, []byte(p))
	}
	s.Sync("m")
	s.Create("empty")
	s.SyncDir()
	s.Rename("z", "a")
	now := func(x *Store, all string) (out string) {
		for _, p := range strings.Fields(all) {
			if !strings.HasPrefix(seen(t, x, p), ".") {
				out += p + " "
			}
		}
		return out
	}
	before, behind := "d/b d.x e z m", "a d/b d.x e m"
	for i, want := range []string{"d/b m", "d.x m", "e m", "z m"} {
		picks := make([]int, 5)
		picks[i+1] = -1
		same(t, "z is the last", strings.TrimSpace(now(s.Crash(picks...), before)), want)
	}
	for i, want := range []string{"a m", "d/b m", "d.x m", "e m"} {
		picks := make([]int, 5)
		picks[0], picks[i+1] = 1, -1
		same(t, "a is the first", strings.TrimSpace(now(s.Crash(picks...), behind)), want)
	}
	same(t, "fewer picks", strings.TrimSpace(now(s.Crash(1, 1, 1), behind)), "a d/b m")
	same(t, "more picks", strings.TrimSpace(now(s.Crash(1, 1, 1, 1, 1, 0, 0, 5), behind)), "a d/b d.x e m")
	same(t, "the first one is the names' when all are safe", []api.Errno{s.SyncDir()}, []api.Errno{api.OK})
	same(t, "its pick", strings.TrimSpace(now(s.Crash(-1, 1), behind)), "a m")
}

func TestP5_3AnotherStore(t *testing.T) {
	s := fresh(t, 10)
	s.Cut(1)
	s.SetMeta("a", 5)
	s.Create("z")
	same(t, "no power", s.SyncDir(), api.ErrOff)
	before := tell(s)
	x := s.Crash(-1, 1)
	same(t, "clock, ops", []any{x.Clock(), x.Ops()}, []any{uint64(6), 0})
	same(t, "with power", []api.Errno{x.Create("b"), x.Write("b", 0, []byte("1234567")), x.Write("b", 7, []byte("8")), x.Write("a", 0, []byte("ABC")), x.Rename("d", "f"), x.Remove("e"), x.Rot("a", 1, 1)}, []api.Errno{0, 0, api.ErrFull, 0, 0, 0, 0})
	same(t, "acts", x.Ops(), 6)
	same(t, "this one stays", tell(s), before)
	same(t, "no power yet", s.SyncDir(), api.ErrOff)
	same(t, "the next stamp", statOf(t, x, "b").Stamp, uint64(8))
	same(t, "the same again", s.Crash(-1, 1).List(), s.Crash(-1, 1).List())
	same(t, "all was safe", paths(x.Crash()), "a d d/x e")
	s2 := fresh(t, 10)
	s2.Cut(1)
	y := s2.Crash()
	same(t, "a Cut is not handed on", []api.Errno{y.SyncDir(), y.SyncDir(), y.Create("a")}, make([]api.Errno, 3))
}

// TestP5_3AllIsSafe: a crash behind a crash takes nothing away, whatever is picked.
func TestP5_3AllIsSafe(t *testing.T) {
	s := fresh(t, 1000)
	s.Write("a", 100, []byte("xyz"))
	x := s.Crash(-1, 0x55)
	for _, picks := range [][]int{nil, {0}, {1, 0}, {-1, -1}, {7, 7, 7}} {
		same(t, "the same", tell(x.Crash(picks...)), tell(x))
	}
}

func TestP5_4StampsRise(t *testing.T) {
	s := fresh(t, 1000)
	given := map[uint64]bool{}
	last := uint64(0)
	note := func(at string) {
		t.Helper()
		x := statOf(t, s, at)
		if x.Stamp != s.Clock() || x.Stamp <= last || given[x.Stamp] {
			t.Errorf("%s has the stamp %d, behind %d, by a clock of %d", at, x.Stamp, last, s.Clock())
		}
		last, given[x.Stamp] = x.Stamp, true
	}
	for range 5 {
		s.Create("n")
		note("n")
		s.Write("n", 0, nil)
		note("n")
		s.Write("n", 5, []byte("x"))
		note("n")
		s.Truncate("n", 6)
		note("n")
		s.SetMeta("n", 0)
		note("n")
		s.Mkdir("e/m")
		note("e/m")
		s.SetMeta("e/m", 4)
		note("e/m")
		clock := s.Clock()
		s.Rename("n", "e/n")
		s.Sync("e/n")
		s.SyncDir()
		s.Remove("e/n")
		s.Remove("e/m")
		s.Rot("a", 0, 1)
		s.Create("A")
		same(t, "no stamp", s.Clock(), clock)
		s = s.Crash(2)
		same(t, "the clock stays", s.Clock(), clock)
	}
}

// TestP5_4WhatIsSafeStays: behind Sync and SyncDir a file is there behind each crash, whatever is done with others.
func TestP5_4WhatIsSafeStays(t *testing.T) {
	s := fresh(t, 1000)
	s.Sync("a")
	s.SyncDir()
	s.Create("b")
	s.Write("b", 0, []byte(strings.Repeat("b", 50)))
	s.Write("d/x", 0, []byte("x"))
	s.Rename("d", "f")
	s.Mkdir("d")
	for _, picks := range [][]int{nil, {1}, {2, 1}, {3, -1, 0}, {-1, 5, 6, 7}} {
		x := s.Crash(picks...)
		same(t, "a", bytesOf(t, x, "a"), "abc")
		same(t, "a", statOf(t, x, "a"), statOf(t, s, "a"))
	}
}

func TestP5_4Memory(t *testing.T) {
	s := fresh(t, 1000)
	b := []byte("0123456789 spare")
	spare := string(b)
	s.Write("a", 0, b[:10:16])
	same(t, "what was handed in", string(b), spare)
	copy(b, "################")
	same(t, "is not kept", bytesOf(t, s, "a"), "0123456789")
	s.Sync("a")
	s.SyncDir()
	for range 2 {
		got, _ := s.Read("a")
		copy(got[:cap(got)], strings.Repeat("#", cap(got)))
		list := s.List()
		for i := range list[:cap(list)] {
			list[:cap(list)][i] = api.Stat{Path: "#"}
		}
		same(t, "what was answered is new", []string{bytesOf(t, s, "a"), paths(s), bytesOf(t, s.Crash(), "a")}, []string{"0123456789", "a d d/x e", "0123456789"})
	}
	picks := []int{1, 2, 3, 4}
	s.Write("a", 0, []byte("x"))
	x := s.Crash(picks[:2]...)
	same(t, "picks", picks, []int{1, 2, 3, 4})
	same(t, "no shared bytes", []api.Errno{x.Rot("a", 0, 1), s.Rot("a", 1, 1)}, make([]api.Errno, 2))
	same(t, "each its own", []string{bytesOf(t, x, "a"), bytesOf(t, s, "a")}, []string{"1123456789", "x023456789"})
}

func TestP5_4StoresShareNothing(t *testing.T) {
	s, u := fresh(t, 100), fresh(t, 100)
	s.Remove("a")
	s.Rename("d", "f")
	s.Cut(0)
	s.SyncDir()
	same(t, "the other one", []any{paths(u), u.Ops(), u.SyncDir()}, []any{"a d d/x e", 5, api.OK})
}
