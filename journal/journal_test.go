package journal

import (
	"fmt"
	"math/rand"
	"strings"
	"testing"

	"linnet/api"
	"linnet/path"
)

func TestP11_1Home(t *testing.T) {
	if !path.Hidden(Home()) || path.Parent(Home()) != "" {
		t.Errorf("Home is %q", Home())
	}
	s, j, g := journal(t, roomy, 3)
	ends(t, "some", j, &g, 3)
	for _, now := range s.List() {
		if now.Path != Home() && !path.Under(now.Path, Home()) || now.Path == Home() && now.Kind != api.Dir {
			t.Errorf("%v is not in Home", now)
		}
	}
}

func TestP11_1OpenOfNoStore(t *testing.T) {
	notOpened(t, "nil", nil, api.ErrArg)
}

func TestP11_1OpenOfAnEmptyStore(t *testing.T) {
	for _, room := range []int{0, 1, 10, roomy} {
		s := store(t, room)
		for _, what := range []string{"new", "once more", "a third time"} {
			j := opened(t, what, s)
			holds(t, what, j, judge{})
			code(t, what, j.Done(1), api.ErrNone)
		}
		safe(t, "an empty one", s, judge{})
		if s.Used() != 0 || len(s.List()) != 1 {
			t.Errorf("what stands there is %v", s.List())
		}
	}
}

func TestP11_1OpenWithoutPower(t *testing.T) {
	s := store(t, roomy)
	s.Cut(0)
	notOpened(t, "an empty one", s, api.ErrOff)
	if len(s.List()) != 0 {
		t.Errorf("what stands there is %v", s.List())
	}
	s, _, g := journal(t, roomy, 3)
	was := listed(s)
	s.Cut(0)
	notOpened(t, "one with some", s, api.ErrOff)
	notOpened(t, "one with some, again", s, api.ErrOff)
	if listed(s) != was {
		t.Error("refused, something is changed")
	}
	holds(t, "with power again", opened(t, "with power again", s.Crash()), g)
}

func TestP11_1OpenWithoutRoom(t *testing.T) {
	s, _, g := journal(t, 5000, 3, 2)
	fill(t, s, 5000, 0)
	j := opened(t, "a full store", s)
	holds(t, "a full store", j, g)
	refuses(t, "a full store", j, Intent{Path: "a"}, api.ErrFull)
	safe(t, "a full store", s, g)
}

func TestP11_1OpenTouchesNothingElse(t *testing.T) {
	s, j, g := journal(t, roomy, 4, 2)
	s.Mkdir("d")
	lay(s, "d/a", []byte("abc"))
	lay(s, ".other", []byte("xyz"))
	was := listed(s)
	k := opened(t, "as it was", s)
	if listed(s) != was {
		t.Error("Open changed what stands there, with nothing to do")
	}
	// The one that stood before goes on, though another one was opened.
	adds(t, "gone on with", j, &g, intent(9))
	ends(t, "gone on with", j, &g, 1)
	safe(t, "gone on with", s, g)
	if len(k.Pending()) != 3 || k.Last() != 4 {
		t.Errorf("the other one tells %s", told(k))
	}
	for _, p := range []string{"d/a", ".other"} {
		if b, e := s.Read(p); e != api.OK || len(b) != 3 {
			t.Errorf("%s is %q, %d", p, b, e)
		}
	}
}

// What is no file of the journal's is neither read nor taken away, wherever it stands.
func TestP11_1OpenBesideOtherFiles(t *testing.T) {
	s, j, g := journal(t, roomy, 3, 2)
	record, e := s.Read(fileOf(1))
	code(t, "a record", e, api.OK)
	others := []string{"9", "-1", "+1", "0", "00000000001", "0000000000", "a", ".a", "0000000001.tmp", "zz", "2147483648", "99999999999999999999", "_"}
	for _, name := range others {
		lay(s, Home()+"/"+name, record)
	}
	s.Mkdir(Home() + "/0000000007")
	lay(s, Home()+"/0000000007/0000000009", record)
	s.Mkdir("0000000001")
	lay(s, "0000000002", record)
	was := listed(s)
	holds(t, "beside others", opened(t, "beside others", s), g)
	if listed(s) != was {
		t.Error("Open changed what is not its own")
	}
	ends(t, "beside others", j, &g, 1)
	adds(t, "beside others", j, &g, intent(4))
	safe(t, "beside others", s, g)
}

func TestP11_1OpenOfWhatIsNoDirectory(t *testing.T) {
	s := store(t, roomy)
	lay(s, Home(), []byte("abc"))
	was := listed(s)
	notOpened(t, "a file where Home should be", s, api.ErrThere)
	if listed(s) != was {
		t.Error("refused, something is changed")
	}
}

func TestP11_1Add(t *testing.T) {
	var all judge
	every := store(t, roomy)
	h := opened(t, "every one", every)
	for _, i := range someIntents() {
		if !isIntent(i) {
			t.Fatalf("%v is none", i)
		}
		s := store(t, roomy)
		j := opened(t, "a new one", s)
		var g judge
		adds(t, "alone", j, &g, i)
		holds(t, "alone", j, g)
		safe(t, "alone", s, g)
		ends(t, "alone", j, &g, 1)
		safe(t, "done", s, g)
		adds(t, "every one", h, &all, i)
	}
	holds(t, "every one", h, all)
	safe(t, "every one", every, all)
}

func TestP11_1AddOfWhatMayNotBe(t *testing.T) {
	s, j, g := journal(t, roomy, 2)
	was := listed(s)
	for _, i := range noIntents() {
		if isIntent(i) {
			t.Fatalf("%v is one", i)
		}
		refuses(t, "some pending", j, i, api.ErrArg)
	}
	if listed(s) != was {
		t.Error("refused, something is changed")
	}
	safe(t, "refused", s, g)
	adds(t, "behind those", j, &g, intent(3))
}

// Fields are drawn at random from what may be and what may not.
func TestP11_1AddHeldAgainstAJudge(t *testing.T) {
	random := rand.New(rand.NewSource(11))
	s := store(t, roomy)
	j := opened(t, "at random", s)
	var g judge
	paths := []string{"", "a", ".a", "a/b", "A", "..", "a/", longPath("x"), longPath("x") + "y", strings.Repeat("y", 20)}
	nums := []int{0, 1, -1, 1<<31 - 1, 1 << 31, -1 << 63, 77}
	added := 0
	for range 3000 {
		pick := func() string { return paths[random.Intn(len(paths))] }
		i := Intent{ID: random.Intn(9) - 4, Path: pick(), Temp: pick(), Aside: pick(), Root: make([]byte, []int{0, 32, 32, 31, 33}[random.Intn(5)]), Size: nums[random.Intn(len(nums))], Meta: nums[random.Intn(len(nums))]}
		random.Read(i.Root)
		if !isIntent(i) {
			refuses(t, "at random", j, i, api.ErrArg)
			continue
		}
		adds(t, "at random", j, &g, i)
		added++
	}
	holds(t, "at random", j, g)
	safe(t, "at random", s, g)
	if added < 10 {
		t.Errorf("%d were added", added)
	}
}

func TestP11_1AddDoesNotAskForAnID(t *testing.T) {
	s := store(t, roomy)
	j := opened(t, "a new one", s)
	var g judge
	for _, id := range []int{77, 0, -1, 1, 3, 1<<63 - 1, -1 << 63, 1 << 31} {
		i := intent(4)
		i.ID = id
		adds(t, "an ID of its own", j, &g, i)
	}
	holds(t, "IDs of their own", j, g)
	safe(t, "IDs of their own", s, g)
}

func TestP11_1Done(t *testing.T) {
	for _, id := range []int{1, 2, 3, 4, 5, 0, -1, 6, 1 << 31, 1<<63 - 1, -1 << 63} {
		s, j, g := journal(t, roomy, 5)
		ends(t, "the first time", j, &g, id)
		safe(t, "the first time", s, g)
		ends(t, "the second time", j, &g, id)
		adds(t, "then", j, &g, intent(6))
		ends(t, "the third time", j, &g, id)
		safe(t, "the third time", s, g)
		code(t, "by another one", opened(t, "another one", s).Done(id), api.ErrNone)
	}
}

// orders are all orders of 1 to n.
func orders(n int) [][]int {
	if n == 0 {
		return [][]int{nil}
	}
	var out [][]int
	for _, o := range orders(n - 1) {
		for at := range n {
			next := append(append(append([]int(nil), o[:at]...), n), o[at:]...)
			out = append(out, next)
		}
	}
	return out
}

func TestP11_1DoneInEachOrder(t *testing.T) {
	for _, order := range orders(4) {
		for again := range 2 {
			s, j, g := journal(t, roomy, 4)
			for _, id := range order {
				ends(t, fmt.Sprint(order), j, &g, id)
				safe(t, fmt.Sprint(order), s, g)
				if again == 1 {
					j = opened(t, "again", s.Crash())
					s = j.store
				}
			}
			if s.Used() != 0 || len(j.Pending()) != 0 || j.Last() != 4 {
				t.Fatalf("%v: nothing is pending, and %d bytes are used", order, s.Used())
			}
			adds(t, "then", j, &g, intent(5))
			safe(t, "then", s, g)
		}
	}
}

// IDs go on, though nothing is pending that had one.
func TestP11_1NoIDTwice(t *testing.T) {
	s := store(t, roomy)
	j := opened(t, "a new one", s)
	var g judge
	for round := range 40 {
		for n := range round % 4 {
			adds(t, "a round", j, &g, intent(n))
		}
		for g.last > 0 && len(g.pending) > round%3 {
			ends(t, "a round", j, &g, g.pending[len(g.pending)-1].ID)
		}
		safe(t, "a round", s, g)
		switch round % 3 {
		case 1:
			j = opened(t, "another one", s)
		case 2:
			s = s.Crash(round, round*7, round*31)
			j = opened(t, "behind a crash", s)
		}
		holds(t, "a round", j, g)
	}
	if g.last < 40 {
		t.Errorf("IDs went up to %d", g.last)
	}
}

func TestP11_1NothingWasAdded(t *testing.T) {
	_, j, _ := journal(t, roomy, 0)
	if j.Pending() != nil || j.Last() != 0 || j.Dead() {
		t.Errorf("it tells %s, Dead %v", told(j), j.Dead())
	}
	for _, id := range []int{0, 1, -1} {
		code(t, "nothing", j.Done(id), api.ErrNone)
	}
}

// recordSize is how many bytes an Intent takes.
func recordSize(t *testing.T, i Intent) int {
	t.Helper()
	s := store(t, roomy)
	opened(t, "alone", s).Add(i)
	return s.Used()
}

func TestP11_1AddAsRoomAllows(t *testing.T) {
	for _, i := range []Intent{{Path: "a"}, intent(3), longest()} {
		need := recordSize(t, i)
		for free := range need + 2 {
			room := 1000 + free
			s := store(t, room)
			j := opened(t, "a store", s)
			var g judge
			adds(t, "at first", j, &g, intent(1))
			fill(t, s, room, free)
			was := listed(s)
			if free >= need {
				adds(t, "with room", j, &g, i)
			} else {
				refuses(t, "without room", j, i, api.ErrFull)
				refuses(t, "without room, again", j, i, api.ErrFull)
				if listed(s) != was || j.Dead() {
					t.Fatal("refused, something is changed")
				}
			}
			safe(t, "as room allows", s, g)
			s.Truncate("fill0", 0)
			adds(t, "with room then", j, &g, i)
			safe(t, "with room then", s, g)
		}
	}
}

// Done asks for no room, nor does an Add of a store that only has its own.
func TestP11_1DoneOfAFullStore(t *testing.T) {
	for _, id := range []int{1, 2, 3, 0, 4} {
		s, j, g := journal(t, 5000, 3)
		fill(t, s, 5000, 0)
		ends(t, "a full store", j, &g, id)
		safe(t, "a full store", s, g)
	}
	room := recordSize(t, longest())
	s := store(t, room)
	j := opened(t, "room for one", s)
	var g judge
	for range 300 {
		adds(t, "room for one", j, &g, longest())
		refuses(t, "room for one", j, Intent{Path: "a"}, api.ErrFull)
		ends(t, "room for one", j, &g, g.last)
	}
	safe(t, "room for one", s, g)
}

// A crash may bring back what was taken away, so that a store has more than its room: what is done can still be told.
func TestP11_1MoreThanItsRoom(t *testing.T) {
	s, _, g := journal(t, 5000, 3)
	fill(t, s, 5000, 0)
	lay(s, "b", nil)
	s.Remove("fill0")
	s.Write("b", 0, make([]byte, 100))
	s = s.Crash(0)
	if s.Used() <= 5000 {
		t.Fatal("the store has not more than its room")
	}
	j := opened(t, "more than its room", s)
	holds(t, "more than its room", j, g)
	refuses(t, "more than its room", j, Intent{Path: "a"}, api.ErrFull)
	ends(t, "more than its room", j, &g, 3)
	ends(t, "more than its room", j, &g, 1)
	safe(t, "more than its room", s, g)
}

// dies holds what a dead Journal tells.
func dies(t *testing.T, what string, j *Journal, g judge) {
	t.Helper()
	if !j.Dead() {
		t.Fatalf("%s: ErrOff, and not dead", what)
	}
	for range 2 {
		refuses(t, what, j, intent(1), api.ErrOff)
		for _, i := range noIntents() {
			refuses(t, what, j, i, api.ErrArg)
		}
		for _, id := range []int{0, 1, 2, 99, -1} {
			code(t, what, j.Done(id), api.ErrOff)
		}
	}
	holds(t, what, j, g)
}

func TestP11_1AddWithoutPower(t *testing.T) {
	for _, i := range []Intent{{Path: "a"}, intent(3), longest()} {
		for cut := 0; ; cut++ {
			s, j, g := journal(t, roomy, 2)
			s.Cut(cut)
			id, e := j.Add(i)
			if e == api.OK {
				g.add(i)
				holds(t, "with power", j, g)
				break
			}
			if id != 0 || e != api.ErrOff {
				t.Fatalf("without power: %d, %d", id, e)
			}
			dies(t, "Add, cut off", j, g)
		}
	}
}

func TestP11_1DoneWithoutPower(t *testing.T) {
	for id := range 4 {
		for cut := 0; ; cut++ {
			s, j, g := journal(t, roomy, 3)
			s.Cut(cut)
			e := j.Done(id)
			if id == 0 {
				code(t, "not pending, and no power", e, api.ErrNone)
				if j.Dead() {
					t.Fatal("dead behind ErrNone")
				}
				break
			}
			if e == api.OK {
				g.done(id)
				holds(t, "with power", j, g)
				break
			}
			code(t, "without power", e, api.ErrOff)
			dies(t, "Done, cut off", j, g)
		}
	}
}

// The power goes at each act of an Add that there is no room for.
func TestP11_1AddWithoutRoomAndPower(t *testing.T) {
	for cut := 0; ; cut++ {
		s, j, g := journal(t, 5000, 2)
		fill(t, s, 5000, 3)
		ops := s.Ops()
		s.Cut(cut)
		_, e := j.Add(intent(3))
		for _, left := range crashes(s) {
			holds(t, "without room", opened(t, "without room", left), g)
		}
		if s.Ops() <= ops+cut {
			code(t, "without room", e, api.ErrFull)
			holds(t, "without room", j, g)
			break
		}
		code(t, "without room and power", e, api.ErrOff)
		dies(t, "without room and power", j, g)
	}
}

func TestP11_1WrongArgumentsAheadOfPower(t *testing.T) {
	s, j, g := journal(t, 0, 0)
	s.Cut(0)
	for _, i := range noIntents() {
		refuses(t, "no power", j, i, api.ErrArg)
	}
	if j.Dead() {
		t.Error("dead behind ErrArg")
	}
	refuses(t, "no power", j, intent(1), api.ErrOff)
	dies(t, "no power", j, g)
}

func TestP11_1NoJournal(t *testing.T) {
	var none *Journal
	if id, e := none.Add(intent(1)); id != 0 || e != api.ErrOff {
		t.Errorf("Add is %d, %d", id, e)
	}
	for _, i := range noIntents() {
		if id, e := none.Add(i); id != 0 || e != api.ErrArg {
			t.Errorf("Add(%v) is %d, %d", i, id, e)
		}
	}
	for _, id := range []int{0, 1, -1, 1 << 40} {
		code(t, "Done", none.Done(id), api.ErrOff)
	}
	if none.Pending() != nil || none.Last() != 0 || !none.Dead() {
		t.Errorf("Pending is %v, Last %d, Dead %v", none.Pending(), none.Last(), none.Dead())
	}
}

// The directory is taken away behind the journal's back: that is told, and nothing else.
func TestP11_1HomeGone(t *testing.T) {
	s, j, g := journal(t, roomy, 0)
	s.Remove(Home())
	refuses(t, "Home gone", j, intent(1), api.ErrNone)
	if j.Dead() {
		t.Error("dead behind ErrNone")
	}
	holds(t, "Home gone", j, g)
}

// Behind the greatest ID there is no other.
func TestP11_1TheLastID(t *testing.T) {
	s, _, _ := journal(t, roomy, 1)
	s.SetMeta(Home(), 1<<31-2)
	j := opened(t, "the last but one", s)
	id, e := j.Add(intent(2))
	if id != 1<<31-1 || e != api.OK {
		t.Fatalf("the last ID: %d, %d", id, e)
	}
	refuses(t, "behind the last ID", j, intent(3), api.ErrFull)
	for range 2 {
		if p := j.Pending(); len(p) != 2 || p[0].ID != 1 || p[1].ID != 1<<31-1 || j.Last() != 1<<31-1 {
			t.Fatalf("it tells %s", told(j))
		}
		j = opened(t, "the last ID", s.Crash())
	}
	code(t, "Done of the last ID", j.Done(1<<31-1), api.OK)
	refuses(t, "behind the last ID", j, intent(3), api.ErrFull)
}
