package room

import (
	"math"
	"math/rand"
	"reflect"
	"slices"
	"strconv"
	"strings"
	"testing"

	"antiphon/api"
	"antiphon/label"
)

// join joins, and fails the test if it returns anything else.
func join(t *testing.T, x *Table, room, name string, n int, e api.Errno) {
	t.Helper()
	if gotN, gotE := x.Join(room, name); gotN != n || gotE != e {
		t.Fatalf("Join(%q, %q) returns %d, %d, want %d, %d", room, name, gotN, gotE, n, e)
	}
}

func leave(t *testing.T, x *Table, n int, e api.Errno) {
	t.Helper()
	if got := x.Leave(n); got != e {
		t.Fatalf("Leave(%d) returns %d, want %d", n, got, e)
	}
}

// joined is a table of rooms, and of participants in each of them.
func joined(t *testing.T, rooms, peers int) *Table {
	t.Helper()
	x := New()
	for r := range rooms {
		for p := range peers {
			join(t, x, "r"+strconv.Itoa(r), "p"+strconv.Itoa(p), r*peers+p, api.OK)
		}
	}
	return x
}

func numbers(l []Peer) []int {
	var out []int
	for _, p := range l {
		out = append(out, p.N)
	}
	return out
}

// strange are numbers that no participant has.
func strange() []int {
	return []int{-1, MostPeer + 1, 1 << 16, 1 << 32, math.MinInt, math.MaxInt}
}

// P12.1: an empty table.

func TestNew(t *testing.T) {
	if MostPeer != 65535 {
		t.Errorf("MostPeer is %d", MostPeer)
	}
	x := New()
	if x.Len() != 0 || len(x.Rooms()) != 0 || len(x.In("hall")) != 0 {
		t.Errorf("Len %d, Rooms %q, In %v", x.Len(), x.Rooms(), x.In("hall"))
	}
	for _, n := range append(strange(), 0, 1) {
		if p, ok := x.Peer(n); ok || p != (Peer{}) {
			t.Errorf("Peer(%d) returns %v, %v", n, p, ok)
		}
		if x.Together(n, n) || x.Together(n, 0) || x.Together(0, n) {
			t.Errorf("%d and 0 are together", n)
		}
		leave(t, x, n, api.ErrPeer)
	}
	join(t, x, "hall", "ann", 0, api.OK)
	if y := New(); y.Len() != 0 {
		t.Errorf("tables share: %d", y.Len())
	}
}

// P12.1: Join and Peer.

func TestJoin(t *testing.T) {
	x := New()
	join(t, x, "Hall", "Ann", 0, api.OK)
	join(t, x, "hall", "ann", 0, api.ErrThere) // the document's example
	join(t, x, "HALL", "Bob", 1, api.OK)
	join(t, x, "yard", "ann", 2, api.OK)
	join(t, x, "hall", "bob-2", 3, api.OK)
	for n, want := range []Peer{{0, "Ann", "Hall"}, {1, "Bob", "HALL"}, {2, "ann", "yard"}, {3, "bob-2", "hall"}} {
		if p, ok := x.Peer(n); !ok || p != want {
			t.Errorf("Peer(%d) returns %v, %v, want %v", n, p, ok, want)
		}
	}
	for _, n := range append(strange(), 4) {
		if p, ok := x.Peer(n); ok || p != (Peer{}) {
			t.Errorf("Peer(%d) returns %v, %v", n, p, ok)
		}
	}
	if x.Len() != 4 {
		t.Errorf("Len is %d", x.Len())
	}
}

func TestSameNames(t *testing.T) {
	x := New()
	join(t, x, "É", "K", 0, api.OK)
	join(t, x, "é", "k", 0, api.ErrThere)
	join(t, x, "é", "\u212a", 0, api.ErrThere)
	join(t, x, "e", "k", 1, api.OK)
	join(t, x, "é", "σ", 2, api.OK)
	join(t, x, "É", "Σ", 0, api.ErrThere)
	// It has the same capital letter, but is not the same.
	join(t, x, "É", "ς", 3, api.OK)
	if l := x.Rooms(); !slices.Equal(l, []string{"e", "é"}) {
		t.Errorf("Rooms: %q", l)
	}
}

func TestJoinOfNoNames(t *testing.T) {
	x := joined(t, api.MaxRooms, api.MaxPeers)
	before := look(x)
	for _, s := range []string{"", "-", "a-", "a--b", "a b", "a/b", "\xff", strings.Repeat("a", api.MaxName+1)} {
		join(t, x, s, "p0", 0, api.ErrName)
		join(t, x, "r0", s, 0, api.ErrName)
		join(t, x, s, s, 0, api.ErrName)
		join(t, x, "new", s, 0, api.ErrName)
	}
	same(t, x, before)
	long := strings.Repeat("字", api.MaxName)
	join(t, New(), long, long, 0, api.OK)
}

func TestFullRoom(t *testing.T) {
	x := joined(t, 1, api.MaxPeers)
	before := look(x)
	join(t, x, "R0", "other", 0, api.ErrFull)
	// That it is there already comes first.
	join(t, x, "R0", "P7", 0, api.ErrThere)
	same(t, x, before)
	join(t, x, "r1", "other", 16, api.OK)
	leave(t, x, 3, api.OK)
	join(t, x, "R0", "other", 17, api.OK)
	join(t, x, "R0", "p3", 0, api.ErrFull)
	if l := numbers(x.In("r0")); !slices.Equal(l, []int{0, 1, 2, 4, 5, 6, 7, 8, 9, 10, 11, 12, 13, 14, 15, 17}) {
		t.Errorf("In: %v", l)
	}
}

func TestFullHouse(t *testing.T) {
	x := joined(t, api.MaxRooms, 1)
	before := look(x)
	join(t, x, "r8", "p0", 0, api.ErrFull)
	same(t, x, before)
	join(t, x, "r7", "p1", 8, api.OK)
	leave(t, x, 7, api.OK)
	// Somebody is in there still.
	join(t, x, "r8", "p0", 0, api.ErrFull)
	leave(t, x, 8, api.OK)
	join(t, x, "r8", "p0", 9, api.OK)
	join(t, x, "r7", "p0", 0, api.ErrFull)
}

func TestNumbersEnd(t *testing.T) {
	x := New()
	join(t, x, "hall", "ann", 0, api.OK)
	for n := 1; n < MostPeer; n++ {
		join(t, x, "hall", "bob", n, api.OK)
		leave(t, x, n, api.OK)
	}
	join(t, x, "hall", "bob", MostPeer, api.OK)
	before := look(x)
	join(t, x, "hall", "cid", 0, api.ErrFull)
	join(t, x, "yard", "cid", 0, api.ErrFull)
	join(t, x, "hall", "ANN", 0, api.ErrThere)
	join(t, x, "hall", "-", 0, api.ErrName)
	same(t, x, before)
	leave(t, x, 0, api.OK)
	leave(t, x, MostPeer, api.OK)
	join(t, x, "hall", "ann", 0, api.ErrFull)
	if x.Len() != 0 || len(x.Rooms()) != 0 {
		t.Errorf("Len %d, Rooms %q", x.Len(), x.Rooms())
	}
}

func TestFailuresTakeNoNumber(t *testing.T) {
	x := New()
	join(t, x, "-", "ann", 0, api.ErrName)
	join(t, x, "hall", "ann", 0, api.OK)
	join(t, x, "hall", "ann", 0, api.ErrThere)
	join(t, x, "hall", "bob", 1, api.OK)
}

// P12.1: Leave.

func TestLeave(t *testing.T) {
	x := joined(t, 2, 3)
	for _, n := range append(strange(), 6) {
		leave(t, x, n, api.ErrPeer)
	}
	leave(t, x, 1, api.OK)
	leave(t, x, 1, api.ErrPeer)
	if p, ok := x.Peer(1); ok || p != (Peer{}) || x.Len() != 5 {
		t.Errorf("Peer(1) returns %v, %v, Len %d", p, ok, x.Len())
	}
	if !slices.Equal(numbers(x.In("r0")), []int{0, 2}) || !slices.Equal(numbers(x.In("r1")), []int{3, 4, 5}) {
		t.Errorf("In: %v, %v", x.In("r0"), x.In("r1"))
	}
	join(t, x, "r0", "p1", 6, api.OK)
	leave(t, x, 6, api.OK)
	join(t, x, "r0", "p1", 7, api.OK)
}

func TestRoomEndsWithTheLast(t *testing.T) {
	x := New()
	join(t, x, "Hall", "ann", 0, api.OK)
	join(t, x, "hall", "bob", 1, api.OK)
	leave(t, x, 0, api.OK)
	if l := x.In("HALL"); !slices.Equal(l, []Peer{{1, "bob", "hall"}}) || len(x.Rooms()) != 1 {
		t.Errorf("In %v, Rooms %q", l, x.Rooms())
	}
	leave(t, x, 1, api.OK)
	if len(x.In("hall")) != 0 || len(x.Rooms()) != 0 || x.Len() != 0 {
		t.Errorf("In %v, Rooms %q", x.In("hall"), x.Rooms())
	}
	join(t, x, "HALL", "ann", 2, api.OK)
	if l := x.In("hall"); !slices.Equal(l, []Peer{{2, "ann", "HALL"}}) {
		t.Errorf("In: %v", l)
	}
}

// P12.1: Rooms, In and Together.

func TestRooms(t *testing.T) {
	x := New()
	for i, s := range []string{"b", "É", "a.1", "B-2", "字", "a", "10", "9"} {
		join(t, x, s, "ann", i, api.OK)
	}
	// Bytewise: digits before letters, a hyphen before a full stop, and the rest behind.
	if l := x.Rooms(); !slices.Equal(l, []string{"10", "9", "a", "a.1", "b", "b-2", "é", "字"}) {
		t.Errorf("Rooms: %q", l)
	}
	leave(t, x, 5, api.OK)
	if l := x.Rooms(); !slices.Equal(l, []string{"10", "9", "a.1", "b", "b-2", "é", "字"}) {
		t.Errorf("Rooms: %q", l)
	}
}

func TestIn(t *testing.T) {
	x := New()
	join(t, x, "Hall", "zoe", 0, api.OK)
	join(t, x, "yard", "ann", 1, api.OK)
	join(t, x, "hall", "Ann", 2, api.OK)
	join(t, x, "hall", "bob", 3, api.OK)
	want := []Peer{{0, "zoe", "Hall"}, {2, "Ann", "hall"}, {3, "bob", "hall"}}
	for _, s := range []string{"hall", "Hall", "HALL"} {
		if l := x.In(s); !slices.Equal(l, want) {
			t.Errorf("In(%q): %v", s, l)
		}
	}
	for _, s := range []string{"hal", "hall-1", "zoe"} {
		if l := x.In(s); len(l) != 0 {
			t.Errorf("In(%q): %v", s, l)
		}
	}
}

func TestTogether(t *testing.T) {
	x := New()
	join(t, x, "Hall", "ann", 0, api.OK)
	join(t, x, "hALL", "bob", 1, api.OK)
	join(t, x, "yard", "ann", 2, api.OK)
	join(t, x, "hall", "cid", 3, api.OK)
	leave(t, x, 3, api.OK)
	for a := -1; a < 6; a++ {
		for b := -1; b < 6; b++ {
			want := a == 0 && b == 1 || a == 1 && b == 0
			if x.Together(a, b) != want {
				t.Errorf("Together(%d, %d) is not %v", a, b, want)
			}
		}
	}
	for _, n := range strange() {
		if x.Together(0, n) || x.Together(n, 0) || x.Together(n, n) {
			t.Errorf("0 and %d are together", n)
		}
	}
}

// P12.1 and P12.2, for any calls: a table beside a list of all that ever joined.

type model struct {
	all  []Peer
	gone map[int]bool
}

func (m *model) present(room string) []Peer {
	var l []Peer
	for _, p := range m.all {
		if !m.gone[p.N] && (room == "" || label.Same(p.Room, room)) {
			l = append(l, p)
		}
	}
	return l
}

func (m *model) rooms() []string {
	var l []string
	for _, p := range m.present("") {
		l = append(l, label.Fold(p.Room))
	}
	slices.Sort(l)
	return slices.Compact(l)
}

func (m *model) join(room, name string) (int, api.Errno) {
	if label.Check(room) != api.OK || label.Check(name) != api.OK {
		return 0, api.ErrName
	}
	in := m.present(room)
	for _, p := range in {
		if label.Fold(p.Name) == label.Fold(name) {
			return 0, api.ErrThere
		}
	}
	if len(in) == 16 || len(in) == 0 && len(m.rooms()) == 8 {
		return 0, api.ErrFull
	}
	n := len(m.all)
	m.all = append(m.all, Peer{n, name, room})
	return n, api.OK
}

func (m *model) leave(n int) api.Errno {
	if n < 0 || n >= len(m.all) || m.gone[n] {
		return api.ErrPeer
	}
	m.gone[n] = true
	return api.OK
}

// sight is all that a table says of itself.
type sight struct {
	peers []Peer
	rooms []string
	in    [][]Peer
}

func look(x *Table) sight {
	var s sight
	for n := -2; n < MostPeer+3; n++ {
		if p, ok := x.Peer(n); ok {
			s.peers = append(s.peers, p)
		}
	}
	s.rooms = x.Rooms()
	for _, r := range s.rooms {
		s.in = append(s.in, x.In(r))
	}
	return s
}

func same(t *testing.T, x *Table, want sight) {
	t.Helper()
	if got := look(x); !reflect.DeepEqual(got, want) || x.Len() != len(want.peers) {
		t.Fatalf("%v, want %v", got, want)
	}
}

func TestAnyCalls(t *testing.T) {
	random := rand.New(rand.NewSource(12))
	seen := map[api.Errno]int{}
	rooms := []string{"a", "A", "b", "B", "c", "d", "e", "f", "g", "h", "i", "É", "é", ""}
	for range 60 {
		x, m := New(), &model{gone: map[int]bool{}}
		going := 1 + random.Intn(5)
		names := 1 + random.Intn(26)
		for range 600 {
			if random.Intn(12) < going {
				n := random.Intn(len(m.all)+3) - 1
				e, want := x.Leave(n), m.leave(n)
				seen[want]++
				if e != want {
					t.Fatalf("Leave(%d) returns %d, want %d", n, e, want)
				}
			} else {
				room := rooms[min(random.Intn(len(rooms)), random.Intn(len(rooms)))]
				name := string(rune('A'+random.Intn(2)*32+random.Intn(names))) + []string{"", "1", "."}[random.Intn(40)/19]
				n, e := x.Join(room, name)
				wantN, want := m.join(room, name)
				seen[want]++
				if n != wantN || e != want {
					t.Fatalf("Join(%q, %q) returns %d, %d, want %d, %d", room, name, n, e, wantN, want)
				}
			}
			compare(t, x, m, random)
		}
	}
	for e, least := range map[api.Errno]int{api.OK: 5000, api.ErrName: 1000, api.ErrThere: 1000, api.ErrFull: 1000, api.ErrPeer: 300} {
		if seen[e] < least {
			t.Errorf("the calls say little: %v", seen)
		}
	}
}

// compare holds a table against its model.
func compare(t *testing.T, x *Table, m *model, random *rand.Rand) {
	t.Helper()
	if x.Len() != len(m.present("")) || !slices.Equal(x.Rooms(), m.rooms()) || len(x.Rooms()) > 8 {
		t.Fatalf("Len %d, Rooms %q, want %d, %q", x.Len(), x.Rooms(), len(m.present("")), m.rooms())
	}
	for _, r := range append(m.rooms(), "A", "É", "z") {
		in := x.In(r)
		if !slices.Equal(in, m.present(r)) || len(in) > 16 {
			t.Fatalf("In(%q): %v, want %v", r, in, m.present(r))
		}
		names := map[string]bool{}
		for _, p := range in {
			names[label.Fold(p.Name)] = true
		}
		if len(names) != len(in) {
			t.Fatalf("In(%q): %v", r, in)
		}
	}
	for range 4 {
		a, b := random.Intn(len(m.all)+2)-1, random.Intn(len(m.all)+2)-1
		p, ok := x.Peer(a)
		there := a >= 0 && a < len(m.all) && !m.gone[a]
		if ok != there || ok && p != m.all[a] || !ok && p != (Peer{}) {
			t.Fatalf("Peer(%d) returns %v, %v", a, p, ok)
		}
		other := b >= 0 && b < len(m.all) && !m.gone[b]
		if want := there && other && a != b && label.Same(m.all[a].Room, m.all[b].Room); x.Together(a, b) != want {
			t.Fatalf("Together(%d, %d) is not %v", a, b, want)
		}
	}
}

// The rules.

func TestResultsAreNewMemory(t *testing.T) {
	x := joined(t, 2, 3)
	in, rooms := x.In("r0"), x.Rooms()
	in[0] = Peer{N: 77}
	rooms[0] = "z"
	_ = append(in[:1], Peer{N: 78})
	if !slices.Equal(numbers(x.In("r0")), []int{0, 1, 2}) || !slices.Equal(x.Rooms(), []string{"r0", "r1"}) {
		t.Errorf("%v, %q", x.In("r0"), x.Rooms())
	}
	in, rooms = x.In("r0"), x.Rooms()
	leave(t, x, 0, api.OK)
	join(t, x, "r0", "new", 6, api.OK)
	join(t, x, "q", "new", 7, api.OK)
	if !slices.Equal(numbers(in), []int{0, 1, 2}) || !slices.Equal(rooms, []string{"r0", "r1"}) {
		t.Errorf("%v, %q", in, rooms)
	}
}

// K6: any names and numbers; a table stays as promised.
func FuzzTable(f *testing.F) {
	f.Add("Hall", "ann", 0, -1)
	f.Add("\xff", "-", math.MaxInt, math.MinInt)
	f.Fuzz(func(t *testing.T, room, name string, a, b int) {
		x := New()
		join(t, x, "hall", "ann", 0, api.OK)
		n, e := x.Join(room, name)
		if e == api.OK && n != 1 || e != api.OK && n != 0 || (e == api.ErrName) != (label.Check(room) != api.OK || label.Check(name) != api.OK) {
			t.Fatalf("Join(%q, %q) returns %d, %d", room, name, n, e)
		}
		x.In(room)
		x.Together(a, b)
		if _, ok := x.Peer(a); ok != (x.Leave(a) == api.OK) || x.Leave(a) != api.ErrPeer {
			t.Errorf("%d leaves", a)
		}
	})
}
