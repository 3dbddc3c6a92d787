package frame

import (
	"math"
	"math/rand"
	"slices"
	"strings"
	"testing"

	"antiphon/api"
)

// model is a maker by the document's words; it knows the fate of every unit.
type model struct {
	c     Config
	open  []Unit
	whole [][]Unit
	lost  []Unit
}

func (m *model) loseAll() {
	m.lost = append(m.lost, m.open...)
	m.open = nil
}

func (m *model) put(u Unit) []Unit {
	goesOn := false
	if n := len(m.open); n > 0 {
		last := m.open[n-1]
		// As numbers without a sign the greatest and the least are neighbours: ask for their order, too.
		goesOn = uint64(u.At)-uint64(last.At) == 1 && u.At > last.At && u.Time == last.Time && !u.Start
	}
	if !goesOn {
		m.loseAll()
		if m.c.Video && !u.Start {
			m.lost = append(m.lost, u)
			return nil
		}
	}
	m.open = append(m.open, u)
	bytes := ""
	for _, x := range m.open {
		bytes += x.Text
	}
	switch {
	case len(m.open) > m.c.Units || len(bytes) > m.c.Bytes:
		m.loseAll()
		return nil
	case m.c.Video && !u.Marker:
		return nil
	}
	f := m.open
	m.open = nil
	m.whole = append(m.whole, f)
	return f
}

func (m *model) tick(now int) bool {
	if len(m.open) == 0 || m.open[0].Tick > now-m.c.Wait {
		return false
	}
	m.loseAll()
	return true
}

// pair is a maker beside its model; what was put in is counted.
type pair struct {
	t    *testing.T
	m    *Maker
	like *model
	puts int
}

func newPair(t *testing.T, c Config) *pair {
	return &pair{t: t, m: maker(t, c), like: &model{c: c}}
}

func maker(t *testing.T, c Config) *Maker {
	t.Helper()
	m, e := New(c)
	if e != api.OK || m == nil {
		t.Fatalf("New(%v): %v, %d", c, m, e)
	}
	return m
}

func (p *pair) put(u Unit) {
	p.t.Helper()
	p.puts++
	f, ok := p.m.Put(u)
	want := p.like.put(u)
	if !slices.Equal(f.Units, want) || ok != (want != nil) {
		p.t.Fatalf("Put(%v): %v, %v, want %v", u, f, ok, want)
	}
	if !ok && f.Units != nil {
		p.t.Fatalf("Put(%v): %v beside false", u, f)
	}
	if ok {
		p.isWhole(f)
	}
	p.same()
}

// isWhole: P10.2.
func (p *pair) isWhole(f Frame) {
	p.t.Helper()
	c := p.m.Config
	if len(f.Units) == 0 || len(f.Units) > c.Units || f.Size() > c.Bytes {
		p.t.Fatalf("%v goes beyond %v", f, c)
	}
	if !c.Video && len(f.Units) != 1 {
		p.t.Fatalf("a sound %v", f)
	}
	for i, u := range f.Units {
		if u.At != f.Units[0].At+int64(i) || u.Time != f.Time() {
			p.t.Fatalf("torn: %v", f)
		}
		if c.Video && (u.Start != (i == 0) || u.Marker != (i == len(f.Units)-1)) {
			p.t.Fatalf("begins or ends elsewhere: %v", f)
		}
	}
}

func (p *pair) tick(now int) {
	p.t.Helper()
	if lost, want := p.m.Tick(now), p.like.tick(now); lost != want {
		p.t.Fatalf("Tick(%d): %v, want %v", now, lost, want)
	}
	p.same()
}

// same looks at all that the maker says of itself, and that no unit is gone.
func (p *pair) same() {
	p.t.Helper()
	whole, lost := p.m.Counts()
	if p.m.Open() != len(p.like.open) || whole != len(p.like.whole) || lost != len(p.like.lost) {
		p.t.Fatalf("Open %d, Counts %d, %d, want %d, %d, %d",
			p.m.Open(), whole, lost, len(p.like.open), len(p.like.whole), len(p.like.lost))
	}
	units := p.m.Open() + lost
	for _, f := range p.like.whole {
		units += len(f)
	}
	if units != p.puts {
		p.t.Fatalf("%d units of %d", units, p.puts)
	}
}

// step is a Put, how many units are in the frame that it returns (0: it returns none), and what is to be seen after it.
type step struct {
	u                      Unit
	frame, open, all, lost int
}

// steps fails the test unless a maker takes these steps.
func steps(t *testing.T, m *Maker, l ...step) {
	t.Helper()
	for i, s := range l {
		f, ok := m.Put(s.u)
		whole, lost := m.Counts()
		if len(f.Units) != s.frame || ok != (s.frame > 0) || m.Open() != s.open || whole != s.all || lost != s.lost {
			t.Fatalf("Put %d of %v: %v, %v, Open %d, Counts %d, %d, want %+v", i, s.u, f, ok, m.Open(), whole, lost, s)
		}
	}
}

// pictures is a Config that little is lost by.
func pictures() Config {
	return Config{Video: true, Bytes: 100, Units: 10, Wait: 5}
}

// first, middle and last are a picture's units; only is a picture of one.
func first(at, time int64) Unit  { return Unit{At: at, Time: time, Start: true} }
func middle(at, time int64) Unit { return Unit{At: at, Time: time} }
func last(at, time int64) Unit   { return Unit{At: at, Time: time, Marker: true} }
func only(at, time int64) Unit   { return Unit{At: at, Time: time, Start: true, Marker: true} }

// of is a unit with so many bytes, that arrived at a tick.
func (u Unit) of(bytes, tick int) Unit {
	u.Text = strings.Repeat("x", bytes)
	u.Tick = tick
	return u
}

// P10.1: a frame.

func TestFrameSays(t *testing.T) {
	for _, c := range []struct {
		f    Frame
		key  bool
		time int64
		size int
	}{
		{Frame{}, false, 0, 0},
		{Frame{Units: []Unit{}}, false, 0, 0},
		{Frame{Units: []Unit{{}}}, false, 0, 0},
		{Frame{Units: []Unit{{Key: true, Time: 7, Text: "abc"}}}, true, 7, 3},
		{Frame{Units: []Unit{{Time: 7, Text: "abc"}, {Key: true, Time: 8, Text: "de"}}}, false, 7, 5},
		{Frame{Units: []Unit{{Key: true, Time: 1 << 50}, {Text: "é"}, {}, {Text: "\x00"}}}, true, 1 << 50, 3},
		{Frame{Units: []Unit{{Start: true, Marker: true, Time: -1}}}, false, -1, 0},
	} {
		if c.f.Key() != c.key || c.f.Time() != c.time || c.f.Size() != c.size {
			t.Errorf("%v: %v, %d, %d", c.f, c.f.Key(), c.f.Time(), c.f.Size())
		}
	}
}

// P10.1: Check and New.

func TestConfig(t *testing.T) {
	for _, c := range []struct {
		c Config
		e api.Errno
	}{
		{Config{true, 1, 1, 0}, api.OK},
		{Config{false, 1, 1, 0}, api.OK},
		{Config{true, 1 << 20, 1024, 1 << 40}, api.OK},
		{Config{false, 1 << 20, 1024, 1 << 40}, api.OK},
		{Config{}, api.ErrArg},
		{Config{true, 0, 1, 0}, api.ErrArg},
		{Config{true, -1, 1, 0}, api.ErrArg},
		{Config{true, math.MinInt, 1, 0}, api.ErrArg},
		{Config{true, 1<<20 + 1, 1, 0}, api.ErrArg},
		{Config{true, math.MaxInt, 1, 0}, api.ErrArg},
		{Config{true, 1, 0, 0}, api.ErrArg},
		{Config{true, 1, -1, 0}, api.ErrArg},
		{Config{true, 1, math.MinInt, 0}, api.ErrArg},
		{Config{true, 1, 1025, 0}, api.ErrArg},
		{Config{false, 1, 1025, 0}, api.ErrArg},
		{Config{true, 1, math.MaxInt, 0}, api.ErrArg},
		{Config{true, 1, 1, -1}, api.ErrArg},
		{Config{true, 1, 1, math.MinInt}, api.ErrArg},
		{Config{true, 1, 1, 1<<40 + 1}, api.ErrArg},
		{Config{true, 1, 1, math.MaxInt}, api.ErrArg},
	} {
		if e := c.c.Check(); e != c.e {
			t.Errorf("Check of %v: %d, want %d", c.c, e, c.e)
		}
		m, e := New(c.c)
		if e != c.e || (m == nil) != (e != api.OK) {
			t.Errorf("New(%v): %v, %d, want %d", c.c, m, e, c.e)
		}
		if m != nil && (m.Config != c.c || m.Check() != api.OK) {
			t.Errorf("New(%v): %v", c.c, m.Config)
		}
	}
}

func TestNothingIsOpenAtFirst(t *testing.T) {
	for _, video := range []bool{false, true} {
		m := maker(t, Config{Video: video, Bytes: 1, Units: 1})
		whole, lost := m.Counts()
		if m.Open() != 0 || whole != 0 || lost != 0 || m.Tick(0) || m.Tick(1<<40) {
			t.Errorf("Open %d, Counts %d, %d", m.Open(), whole, lost)
		}
	}
}

// P10.1: Put of pictures.

func TestExampleOfTheDocument(t *testing.T) {
	m := maker(t, pictures())
	steps(t, m, step{first(5, 9), 0, 1, 0, 0})
	f, ok := m.Put(last(6, 9))
	if !ok || !slices.Equal(f.Units, []Unit{first(5, 9), last(6, 9)}) {
		t.Errorf("%v, %v", f, ok)
	}
	steps(t, m, step{only(7, 10), 1, 0, 2, 0})
}

func TestUnitsStayWhole(t *testing.T) {
	want := []Unit{
		{At: 8, Time: 1 << 50, Start: true, Key: true, Text: "a\x00", Tick: 9},
		{At: 9, Time: 1 << 50, Key: true, Tick: 3},
		{At: 10, Time: 1 << 50, Marker: true, Text: "\xff", Tick: 1 << 40},
	}
	m := maker(t, pictures())
	m.Put(want[0])
	m.Put(want[1])
	if f, ok := m.Put(want[2]); !ok || !slices.Equal(f.Units, want) || !f.Key() || f.Size() != 3 || f.Time() != 1<<50 {
		t.Errorf("%v, %v", f, ok)
	}
}

func TestWhatDoesNotContinue(t *testing.T) {
	for _, c := range []struct {
		what string
		u    Unit
		then step
	}{
		{"another time", last(7, 10), step{middle(8, 10), 0, 0, 0, 4}},
		{"a time before", middle(7, 8), step{middle(8, 8), 0, 0, 0, 4}},
		{"a gap", last(8, 9), step{middle(9, 9), 0, 0, 0, 4}},
		{"the same number", last(6, 9), step{last(7, 9), 0, 0, 0, 4}},
		{"the number before", last(5, 9), step{last(7, 9), 0, 0, 0, 4}},
		{"far below", last(0, 9), step{last(1, 9), 0, 0, 0, 4}},
	} {
		t.Run(c.what, func(t *testing.T) {
			m := maker(t, pictures())
			steps(t, m, step{first(5, 9), 0, 1, 0, 0}, step{middle(6, 9), 0, 2, 0, 0}, step{c.u, 0, 0, 0, 3}, c.then)
			steps(t, m, step{only(9, 9), 1, 0, 1, 4})
		})
	}
}

func TestStartBeginsAnew(t *testing.T) {
	m := maker(t, pictures())
	// Number and time would fit, but a start never continues.
	steps(t, m, step{first(5, 9), 0, 1, 0, 0}, step{middle(6, 9), 0, 2, 0, 0},
		step{first(7, 9), 0, 1, 0, 2}, step{last(8, 9), 2, 0, 1, 2})
	steps(t, m, step{first(9, 10), 0, 1, 1, 2}, step{only(10, 10), 1, 0, 2, 3})
	steps(t, m, step{first(20, 11), 0, 1, 2, 3}, step{first(2, 3), 0, 1, 2, 4}, step{last(3, 3), 2, 0, 3, 4})
}

func TestWithoutStartItIsLost(t *testing.T) {
	m := maker(t, pictures())
	steps(t, m, step{last(1, 0), 0, 0, 0, 1}, step{middle(2, 0), 0, 0, 0, 2}, step{Unit{At: 3, Key: true, Marker: true}, 0, 0, 0, 3},
		step{only(4, 0), 1, 0, 1, 3}, step{last(5, 0), 0, 0, 1, 4})
}

func TestAtMostUnits(t *testing.T) {
	c := pictures()
	c.Units = 3
	m := maker(t, c)
	steps(t, m, step{first(1, 0), 0, 1, 0, 0}, step{middle(2, 0), 0, 2, 0, 0}, step{last(3, 0), 3, 0, 1, 0})
	steps(t, m, step{first(4, 0), 0, 1, 1, 0}, step{middle(5, 0), 0, 2, 1, 0}, step{middle(6, 0), 0, 3, 1, 0}, step{last(7, 0), 0, 0, 1, 4})
	// What follows on what was given up finds no open frame.
	steps(t, m, step{last(8, 0), 0, 0, 1, 5}, step{only(9, 0), 1, 0, 2, 5})
	c.Units = 1
	m = maker(t, c)
	steps(t, m, step{only(1, 0), 1, 0, 1, 0}, step{first(2, 0), 0, 1, 1, 0}, step{last(3, 0), 0, 0, 1, 2})
}

func TestAtMostBytes(t *testing.T) {
	c := pictures()
	c.Bytes = 5
	m := maker(t, c)
	steps(t, m, step{first(1, 0).of(2, 0), 0, 1, 0, 0}, step{last(2, 0).of(3, 0), 2, 0, 1, 0})
	steps(t, m, step{first(3, 0).of(2, 0), 0, 1, 1, 0}, step{middle(4, 0), 0, 2, 1, 0}, step{last(5, 0).of(4, 0), 0, 0, 1, 3})
	steps(t, m, step{only(6, 0).of(5, 0), 1, 0, 2, 3}, step{only(7, 0).of(6, 0), 0, 0, 2, 4}, step{first(8, 0).of(6, 0), 0, 0, 2, 5})
	// The bytes of a frame that is gone don't count.
	steps(t, m, step{first(9, 0).of(5, 0), 0, 1, 2, 5}, step{first(10, 0).of(5, 0), 0, 1, 2, 6}, step{last(11, 0), 2, 0, 3, 6})
}

func TestTheGreatestPictures(t *testing.T) {
	m := maker(t, Config{Video: true, Bytes: 1 << 20, Units: 1024, Wait: 1 << 40})
	for _, more := range []int{0, 1} {
		m.Put(first(0, 0).of(1024+more, 0))
		for i := range 1022 {
			m.Put(middle(int64(i+1), 0).of(1024, 0))
		}
		if m.Open() != 1023 {
			t.Fatalf("Open %d", m.Open())
		}
		f, ok := m.Put(last(1023, 0).of(1024, 0))
		if ok != (more == 0) || ok && (len(f.Units) != 1024 || f.Size() != 1<<20) {
			t.Errorf("%d more: %v, %d units", more, ok, len(f.Units))
		}
	}
	for i := range 1024 {
		m.Put(Unit{At: int64(i), Start: i == 0})
	}
	if m.Open() != 1024 {
		t.Errorf("Open %d", m.Open())
	}
	if _, ok := m.Put(last(1024, 0)); ok || m.Open() != 0 {
		t.Errorf("1025 units: Open %d", m.Open())
	}
	if whole, lost := m.Counts(); whole != 1 || lost != 1024+1025 {
		t.Errorf("Counts %d, %d", whole, lost)
	}
}

func TestNumbersAtTheEnds(t *testing.T) {
	m := maker(t, pictures())
	steps(t, m, step{first(math.MaxInt64, 0), 0, 1, 0, 0}, step{last(math.MinInt64, 0), 0, 0, 0, 2})
	steps(t, m, step{first(math.MaxInt64-1, 0), 0, 1, 0, 2}, step{last(math.MaxInt64, 0), 2, 0, 1, 2})
	steps(t, m, step{first(math.MinInt64, math.MinInt64), 0, 1, 1, 2}, step{last(math.MinInt64+1, math.MinInt64), 2, 0, 2, 2})
	steps(t, m, step{first(-1, math.MaxInt64), 0, 1, 2, 2}, step{last(0, math.MaxInt64), 2, 0, 3, 2})
}

// P10.1: Put of sounds.

func TestSounds(t *testing.T) {
	m := maker(t, Config{Bytes: 4, Units: 1, Wait: 0})
	steps(t, m, step{middle(3, 8).of(4, 0), 1, 0, 1, 0}, step{middle(4, 8), 1, 0, 2, 0}, step{first(5, 8), 1, 0, 3, 0},
		step{last(9, 2), 1, 0, 4, 0}, step{only(9, 2), 1, 0, 5, 0}, step{middle(0, 0).of(5, 0), 0, 0, 5, 1}, step{middle(1, 0), 1, 0, 6, 1})
	u := Unit{At: 3, Time: 8, Key: true, Text: "s", Tick: 6}
	if f, ok := m.Put(u); !ok || !slices.Equal(f.Units, []Unit{u}) {
		t.Errorf("%v, %v", f, ok)
	}
	if m.Tick(1 << 40) {
		t.Error("a sound was open")
	}
}

// P10.1: Tick.

func TestTickAtWait(t *testing.T) {
	m := maker(t, pictures())
	steps(t, m, step{first(1, 0).of(0, 10), 0, 1, 0, 0}, step{middle(2, 0).of(0, 13), 0, 2, 0, 0})
	for _, now := range []int{0, 9, 10, 14} {
		if m.Tick(now) || m.Open() != 2 {
			t.Errorf("Tick(%d): Open %d", now, m.Open())
		}
	}
	// The first unit's tick counts, not the last one's.
	if !m.Tick(15) || m.Open() != 0 {
		t.Errorf("Tick(15): Open %d", m.Open())
	}
	if m.Tick(15) || m.Tick(1<<40) {
		t.Error("Tick without an open frame")
	}
	if whole, lost := m.Counts(); whole != 0 || lost != 2 {
		t.Errorf("Counts %d, %d", whole, lost)
	}
	steps(t, m, step{last(3, 0), 0, 0, 0, 3}, step{first(4, 0).of(0, 20), 0, 1, 0, 3})
	if m.Tick(24) || !m.Tick(30) {
		t.Error("Tick after a Tick")
	}
}

func TestTickOfAnEarlierFirst(t *testing.T) {
	m := maker(t, pictures())
	// The later packets of a picture may have arrived first.
	steps(t, m, step{first(1, 0).of(0, 10), 0, 1, 0, 0}, step{middle(2, 0).of(0, 3), 0, 2, 0, 0})
	if m.Tick(14) || !m.Tick(15) {
		t.Error("Tick")
	}
	steps(t, m, step{first(3, 0).of(0, 10), 0, 1, 0, 2}, step{first(4, 0).of(0, 12), 0, 1, 0, 3})
	if m.Tick(15) || m.Tick(16) || !m.Tick(17) {
		t.Error("Tick by the tick of what was lost")
	}
}

func TestWaitAtItsEnds(t *testing.T) {
	c := pictures()
	c.Wait = 0
	m := maker(t, c)
	steps(t, m, step{first(1, 0).of(0, 10), 0, 1, 0, 0})
	if m.Tick(9) || !m.Tick(10) {
		t.Error("Wait 0")
	}
	c.Wait = 1 << 40
	m = maker(t, c)
	steps(t, m, step{first(1, 0), 0, 1, 0, 0})
	if m.Tick(1<<40-1) || !m.Tick(1<<40) {
		t.Error("Wait 2^40")
	}
}

// P10.1 and P10.2, each by the pair: any calls.

// TestAllShortHistories goes through every sequence of a few calls on a small maker.
func TestAllShortHistories(t *testing.T) {
	const calls, depth = 12, 5
	total := 1
	for range depth {
		total *= calls
	}
	for _, c := range []Config{{true, 2, 3, 2}, {true, 5, 2, 0}, {false, 1, 1, 1}} {
		for history := range total {
			p := newPair(t, c)
			at := int64(0)
			for now := range depth {
				which := history % calls
				history /= calls
				if which == 11 {
					p.tick(now)
					continue
				}
				p.put(oneOfEleven(which, at).of(now%2, now))
				at++
			}
		}
	}
}

// oneOfEleven is a unit that continues, or that something is amiss with.
func oneOfEleven(which int, at int64) Unit {
	switch which {
	case 8:
		return last(at, 1)
	case 9:
		return last(at+1, 0)
	case 10:
		return only(at-1, 0)
	}
	return Unit{At: at, Marker: which&1 != 0, Start: which&2 != 0, Key: which&4 != 0}
}

func TestAnyCalls(t *testing.T) {
	random := rand.New(rand.NewSource(10))
	many := 0
	for range 2000 {
		p := newPair(t, Config{random.Intn(5) > 0, 1 + random.Intn(12), 1 + random.Intn(6), random.Intn(6)})
		at, time, now := random.Int63n(1<<50), random.Int63n(1<<50), 0
		start := true
		for range 80 {
			now += random.Intn(2)
			if random.Intn(8) == 0 {
				p.tick(now - random.Intn(3))
			}
			u := Unit{At: at, Time: time, Start: start, Marker: random.Intn(3) == 0, Key: random.Intn(2) == 0}
			if random.Intn(12) == 0 {
				u.Start = !u.Start
			}
			p.put(u.of(random.Intn(5), now))
			at++
			start = u.Marker
			if start || random.Intn(12) == 0 {
				time++
			}
			if random.Intn(12) == 0 {
				at += random.Int63n(5) - 2
			}
		}
		for _, f := range p.like.whole {
			if len(f) > 1 {
				many++
			}
		}
	}
	if many < 5000 {
		t.Errorf("the calls say little: %d pictures of several units", many)
	}
}

// The rules.

func TestResultsAreNewMemory(t *testing.T) {
	m := maker(t, pictures())
	m.Put(first(1, 0))
	one, _ := m.Put(last(2, 0))
	kept := slices.Clone(one.Units)
	m.Put(first(3, 7))
	m.Put(middle(4, 7))
	// What a caller appends, and writes, is the caller's.
	grown := append(one.Units, first(77, 77), first(78, 78))
	grown[0].At = 77
	two, ok := m.Put(last(5, 7))
	if !ok || !slices.Equal(two.Units, []Unit{first(3, 7), middle(4, 7), last(5, 7)}) {
		t.Errorf("%v, %v", two, ok)
	}
	one.Units[0] = kept[0]
	m.Put(only(6, 8))
	if !slices.Equal(one.Units, kept) || two.Units[0] != first(3, 7) {
		t.Errorf("%v, %v", one, two)
	}
}

func TestMakersAreApart(t *testing.T) {
	one, two := maker(t, pictures()), maker(t, pictures())
	steps(t, one, step{first(1, 0), 0, 1, 0, 0})
	steps(t, two, step{last(2, 0), 0, 0, 0, 1})
	steps(t, one, step{last(2, 0), 2, 0, 1, 0})
}

func FuzzMaker(f *testing.F) {
	f.Add(true, byte(5), byte(3), byte(2), "\x02\x01\x80\xff")
	f.Add(false, byte(1), byte(1), byte(0), "\x00\x01\x10\x20")
	f.Fuzz(func(t *testing.T, video bool, bytes, units, wait byte, s string) {
		if len(s) > 300 {
			return
		}
		p := newPair(t, Config{video, 1 + int(bytes), 1 + int(units), int(wait)})
		at, time, now := int64(0), int64(0), 0
		for _, c := range []byte(s) {
			if c >= 240 {
				now += int(c - 240)
				p.tick(now)
				continue
			}
			at += int64(c >> 4 & 3)
			time += int64(c >> 6)
			p.put(Unit{At: at, Time: time, Marker: c&1 != 0, Start: c&2 != 0, Key: c&4 != 0}.of(int(c>>3&1)*5, now))
		}
	})
}
