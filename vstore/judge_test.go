package vstore

import (
	"fmt"
	"maps"
	"math/rand"
	"slices"
	"strings"
	"testing"

	"linnet/api"
	"linnet/path"
)

// A judge of its own shape: of names it keeps a picture behind each act, and of a file a whole disk of noughts that only a sync writes on.
const judgeDisk = 600

type judgeFile struct {
	kind, meta int
	stamp      uint64
	now        string
	disk       [judgeDisk]byte
	dirty      map[int]bool
}

type picture map[string]*judgeFile

type judge struct {
	room     int
	clock    uint64
	pictures []picture // the first is safe, the last is now
	asked    int
	fuse     int // acts till the dark, below 0 without one
	dark     bool
}

func newJudge(room int) *judge {
	return &judge{room: room, pictures: []picture{{}}, fuse: -1}
}

func (j *judge) now() picture { return j.pictures[len(j.pictures)-1] }

func (j *judge) act(f func() api.Errno, paths ...string) api.Errno {
	j.asked++
	if j.fuse == 0 {
		j.dark = true
	}
	if j.dark {
		return api.ErrOff
	}
	if j.fuse > 0 {
		j.fuse--
	}
	for _, p := range paths {
		if !path.Valid(p) {
			return api.ErrArg
		}
	}
	return f()
}

func (j *judge) paint(f func(p picture)) api.Errno {
	next := maps.Clone(j.now())
	f(next)
	j.pictures = append(j.pictures, next)
	return api.OK
}

func (j *judge) vacant(at string) api.Errno {
	if j.now()[at] != nil {
		return api.ErrThere
	}
	if i := strings.LastIndexByte(at, '/'); i >= 0 {
		above := j.now()[at[:i]]
		if above == nil {
			return api.ErrNone
		}
		if above.kind == api.File {
			return api.ErrKind
		}
	}
	return api.OK
}

func (j *judge) make(at string, kind int) api.Errno {
	return j.act(func() api.Errno {
		if err := j.vacant(at); err != api.OK {
			return err
		}
		j.clock++
		return j.paint(func(p picture) { p[at] = &judgeFile{kind: kind, stamp: j.clock, dirty: map[int]bool{}} })
	}, at)
}

// on does something with a file that is there.
func (j *judge) on(at string, f func(x *judgeFile) api.Errno) api.Errno {
	x := j.now()[at]
	if x == nil {
		return api.ErrNone
	}
	if x.kind == api.Dir {
		return api.ErrKind
	}
	return f(x)
}

func (j *judge) used() (n int) {
	for _, x := range j.now() {
		n += len(x.now)
	}
	return n
}

func (j *judge) write(at string, off int, b string) api.Errno {
	return j.act(func() api.Errno {
		return j.on(at, func(x *judgeFile) api.Errno {
			if off < 0 {
				return api.ErrArg
			}
			if off > MaxSize || off+len(b) > MaxSize {
				return api.ErrBig
			}
			long := x.now
			for len(long) < off {
				long += "\x00"
			}
			whole := long[:off] + b
			if len(whole) < len(long) {
				whole += long[len(whole):]
			}
			if j.used()-len(x.now)+len(whole) > j.room {
				return api.ErrFull
			}
			for i := range whole {
				if i >= off && i < off+len(b) || i >= len(x.now) {
					x.dirty[i/16] = true
				}
			}
			j.clock++
			x.now, x.stamp = whole, j.clock
			return api.OK
		})
	}, at)
}

func (j *judge) truncate(at string, n int) api.Errno {
	return j.act(func() api.Errno {
		return j.on(at, func(x *judgeFile) api.Errno {
			if n < 0 || n > len(x.now) {
				return api.ErrArg
			}
			for i := n; i < judgeDisk; i++ {
				x.disk[i] = 0
			}
			maps.DeleteFunc(x.dirty, func(at int, _ bool) bool { return at*16 >= n })
			j.clock++
			x.now, x.stamp = x.now[:n], j.clock
			return api.OK
		})
	}, at)
}

func (j *judge) setMeta(at string, meta int) api.Errno {
	return j.act(func() api.Errno {
		x := j.now()[at]
		if x == nil {
			return api.ErrNone
		}
		if meta < 0 || meta >= 1<<31 {
			return api.ErrArg
		}
		j.clock++
		x.meta, x.stamp = meta, j.clock
		return api.OK
	}, at)
}

func (j *judge) remove(at string) api.Errno {
	return j.act(func() api.Errno {
		if j.now()[at] == nil {
			return api.ErrNone
		}
		for p := range j.now() {
			if strings.HasPrefix(p, at+"/") {
				return api.ErrHeld
			}
		}
		return j.paint(func(p picture) { delete(p, at) })
	}, at)
}

func (j *judge) rename(from, to string) api.Errno {
	return j.act(func() api.Errno {
		if j.now()[from] == nil {
			return api.ErrNone
		}
		if strings.HasPrefix(to+"/", from+"/") {
			return api.ErrArg
		}
		if err := j.vacant(to); err != api.OK {
			return err
		}
		next := picture{}
		for p, x := range j.now() {
			if p == from || strings.HasPrefix(p, from+"/") {
				p = to + strings.TrimPrefix(p, from)
			}
			if len(p) > api.MaxPath {
				return api.ErrArg
			}
			next[p] = x
		}
		j.pictures = append(j.pictures, next)
		return api.OK
	}, from, to)
}

func (j *judge) sync(at string) api.Errno {
	return j.act(func() api.Errno {
		return j.on(at, func(x *judgeFile) api.Errno {
			copy(x.disk[:], x.now)
			x.dirty = map[int]bool{}
			return api.OK
		})
	}, at)
}

func (j *judge) syncDir() api.Errno {
	return j.act(func() api.Errno {
		j.pictures = []picture{j.now()}
		return api.OK
	})
}

func (j *judge) rot(at string, off int, x byte) api.Errno {
	return j.on(at, func(f *judgeFile) api.Errno {
		if off < 0 || off >= len(f.now) || x == 0 {
			return api.ErrArg
		}
		b := []byte(f.now)
		b[off] ^= x
		f.now = string(b)
		f.disk[off] ^= x
		return api.OK
	})
}

func (j *judge) cut(n int) {
	j.fuse = max(n, 0)
}

func (j *judge) paths(p picture) []string {
	all := slices.Collect(maps.Keys(p))
	slices.SortFunc(all, func(a, b string) int {
		return strings.Compare(strings.ReplaceAll(a, "/", "\x00"), strings.ReplaceAll(b, "/", "\x00"))
	})
	return all
}

func (j *judge) crash(picks ...int) *judge {
	i := -1
	pick := func() uint64 {
		if i++; i < len(picks) {
			return uint64(picks[i])
		}
		return 0
	}
	n := len(j.pictures)
	held := j.pictures[(int(pick())%n+n)%n]
	left := newJudge(j.room)
	left.clock = j.clock
	for _, p := range j.paths(held) {
		x := held[p]
		digits := strings.Repeat("0", 64)
		if len(x.dirty) > 0 {
			digits = fmt.Sprintf("%064b", pick())
		}
		y := &judgeFile{kind: x.kind, meta: x.meta, stamp: x.stamp, dirty: map[int]bool{}}
		seen := 0
		b := []byte(x.now)
		for at := 0; at*16 < len(b); at++ {
			if !x.dirty[at] {
				continue
			}
			if digits[63-seen%30] == '0' {
				copy(b[at*16:min(at*16+16, len(b))], x.disk[at*16:])
			}
			seen++
		}
		y.now = string(b)
		copy(y.disk[:], b)
		left.pictures[0][p] = y
	}
	return left
}

func (j *judge) String() string {
	var out strings.Builder
	for _, p := range j.paths(j.now()) {
		x := j.now()[p]
		fmt.Fprintf(&out, "%s kind %d size %d meta %d stamp %d %q\n", p, x.kind, len(x.now), x.meta, x.stamp, x.now)
	}
	fmt.Fprintf(&out, "used %d clock %d ops %d", j.used(), j.clock, j.asked)
	return out.String()
}

// tell is the same of a store, by what it answers.
func tell(s *Store) string {
	var out strings.Builder
	for _, x := range s.List() {
		b, _ := s.Read(x.Path)
		fmt.Fprintf(&out, "%s kind %d size %d meta %d stamp %d %q\n", x.Path, x.Kind, x.Size, x.Meta, x.Stamp, b)
	}
	fmt.Fprintf(&out, "used %d clock %d ops %d", s.Used(), s.Clock(), s.Ops())
	return out.String()
}

func somePath(r *rand.Rand) string {
	long := strings.Repeat("l", 20)
	all := []string{"a", "b", "a/b", "a/c", "a.b", "a-b", "a/b/c", "b/c", ".h", ".h/a", "d", "d/e", "d/e/f", long, long + "/" + long, long + "/" + long + "/" + long[:18], "d/" + long, "", "A", "a/", "a//b"}
	if r.Intn(3) > 0 {
		return all[r.Intn(3)]
	}
	return all[r.Intn(len(all))]
}

func somePick(r *rand.Rand) int {
	switch r.Intn(3) {
	case 0:
		return r.Intn(7) - 3
	case 1:
		return r.Intn(1 << 30)
	}
	return int(r.Uint64())
}

// step does one thing to both, and tells both answers.
func step(r *rand.Rand, s *Store, j *judge) (what string, got, want api.Errno) {
	p, n := somePath(r), r.Intn(90)-5
	switch r.Intn(16) {
	case 0, 1:
		return "Create " + p, s.Create(p), j.make(p, api.File)
	case 2:
		return "Mkdir " + p, s.Mkdir(p), j.make(p, api.Dir)
	case 3, 4, 5, 14:
		b := strings.Repeat("xyz"[r.Intn(3):], 60)[:r.Intn(60)]
		return fmt.Sprintf("Write %s %d %q", p, n, b), s.Write(p, n, []byte(b)), j.write(p, n, b)
	case 6:
		return fmt.Sprintf("Truncate %s %d", p, n), s.Truncate(p, n), j.truncate(p, n)
	case 7:
		return fmt.Sprintf("SetMeta %s %d", p, n), s.SetMeta(p, n), j.setMeta(p, n)
	case 8:
		return "Remove " + p, s.Remove(p), j.remove(p)
	case 9, 10:
		to := somePath(r)
		return "Rename " + p + " " + to, s.Rename(p, to), j.rename(p, to)
	case 11, 15:
		return "Sync " + p, s.Sync(p), j.sync(p)
	case 12:
		if r.Intn(4) > 0 {
			return "nothing", 0, 0
		}
		return "SyncDir", s.SyncDir(), j.syncDir()
	}
	x := byte(r.Intn(3))
	return fmt.Sprintf("Rot %s %d %d", p, n, x), s.Rot(p, n, x), j.rot(p, n, x)
}

// TestP5_3RandomRuns holds all calls, and crashes in all places, against the judge.
func TestP5_3RandomRuns(t *testing.T) {
	for seed := range int64(400) {
		r := rand.New(rand.NewSource(seed))
		room := 50 + r.Intn(500)
		s, _ := New(room)
		j := newJudge(room)
		var done []string
		for range 150 {
			what, got, want := step(r, s, j)
			done = append(done, what)
			if got != want || tell(s) != j.String() {
				t.Fatalf("seed %d, %s\nanswers %d, not %d\ngot  %s\nwant %s", seed, strings.Join(done, "\n"), got, want, tell(s), j)
			}
			picks := make([]int, r.Intn(6))
			for i := range picks {
				picks[i] = somePick(r)
			}
			x, y := s.Crash(picks...), j.crash(picks...)
			if tell(x) != y.String() {
				t.Fatalf("seed %d, %s\ncrash %v\ngot  %s\nwant %s", seed, strings.Join(done, "\n"), picks, tell(x), y)
			}
			switch r.Intn(40) {
			case 0:
				s, j = x, y
				done = append(done, fmt.Sprint("Crash ", picks))
			case 1:
				n := r.Intn(30) - 1
				s.Cut(n)
				j.cut(n)
				done = append(done, fmt.Sprint("Cut ", n))
			}
		}
	}
}
