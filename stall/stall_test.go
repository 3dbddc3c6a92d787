package stall

import (
	"math"
	"math/rand"
	"testing"

	"antiphon/api"
)

// call is a Tick, and what it returned.
type call struct {
	now         int
	waits, sent bool
	change      int
}

// model is the list of all calls; what a dog returns is found by looking back.
type model struct {
	c     Config
	calls []call
}

// began is the tick of the last suspension, if that has not ended.
func (m *model) began() (int, bool) {
	for i := len(m.calls) - 1; i >= 0; i-- {
		switch m.calls[i].change {
		case 1:
			return m.calls[i].now, true
		case 2:
			return 0, false
		}
	}
	return 0, false
}

// waiting is the tick since when something waits, up to a call, without being sent.
func (m *model) waiting(c call) int {
	since := c.now
	if c.sent {
		return since
	}
	for i := len(m.calls) - 1; i >= 0; i-- {
		if m.calls[i].change != 0 || !m.calls[i].waits {
			break
		}
		since = m.calls[i].now
		if m.calls[i].sent {
			break
		}
	}
	return since
}

func (m *model) change(c call) int {
	at, suspended := m.began()
	switch {
	case suspended && c.now >= at+m.c.Rest:
		return 2
	case !suspended && c.waits && c.now >= m.waiting(c)+m.c.After:
		return 1
	}
	return 0
}

func (m *model) times() int {
	n := 0
	for _, c := range m.calls {
		if c.change == 1 {
			n++
		}
	}
	return n
}

// pair is a dog beside its model.
type pair struct {
	t    *testing.T
	d    *Dog
	like *model
}

func newPair(t *testing.T, c Config) *pair {
	t.Helper()
	return &pair{t: t, d: made(t, c), like: &model{c: c}}
}

// made is a new dog, which may be.
func made(t *testing.T, c Config) *Dog {
	t.Helper()
	d, e := New(c)
	if e != api.OK || d == nil {
		t.Fatalf("New(%+v): %v, %d", c, d, e)
	}
	return d
}

// tick makes a call on both, and looks at all that the dog says of itself.
func (p *pair) tick(now int, waits, sent bool) {
	p.t.Helper()
	c := call{now: now, waits: waits, sent: sent}
	should := p.like.change(c)
	c.change = p.d.Tick(now, waits, sent)
	if c.change != should {
		p.t.Fatalf("Tick(%d, %v, %v) of %+v after %+v: %d, want %d", now, waits, sent, p.like.c, p.like.calls, c.change, should)
	}
	p.like.calls = append(p.like.calls, c)
	_, suspended := p.like.began()
	sees(p.t, p.d, suspended, p.like.times())
	if p.t.Failed() {
		p.t.Fatalf("after %+v of %+v", p.like.calls, p.like.c)
	}
}

// sees fails the test unless a dog says this of itself.
func sees(t *testing.T, d *Dog, suspended bool, times int) {
	t.Helper()
	if d.Suspended() != suspended || d.Times() != times {
		t.Errorf("Suspended %v, Times %d, want %v, %d", d.Suspended(), d.Times(), suspended, times)
	}
}

// ticks fails the test unless these calls return this.
func ticks(t *testing.T, d *Dog, calls ...call) {
	t.Helper()
	for i, c := range calls {
		if change := d.Tick(c.now, c.waits, c.sent); change != c.change {
			t.Errorf("call %d, %+v: %d", i, c, change)
		}
	}
}

// P22.1: each call.

func TestExampleOfTheDocument(t *testing.T) {
	d := made(t, Config{After: 3, Rest: 5})
	for now := range 9 {
		change := Same
		switch now {
		case 3:
			change = Suspend
		case 8:
			change = Resume
		}
		ticks(t, d, call{now, true, false, change})
		sees(t, d, now >= 3 && now < 8, min(now/3, 1))
	}
}

func TestConfigs(t *testing.T) {
	if Same != 0 || Suspend != 1 || Resume != 2 {
		t.Errorf("the changes: %d, %d, %d", Same, Suspend, Resume)
	}
	for _, c := range []struct {
		c Config
		e api.Errno
	}{
		{Config{1, 1}, api.OK},
		{Config{1 << 40, 1 << 40}, api.OK},
		{Config{300, 20}, api.OK},
		{Config{}, api.ErrArg},
		{Config{0, 1}, api.ErrArg},
		{Config{1, 0}, api.ErrArg},
		{Config{-1, 1}, api.ErrArg},
		{Config{1, -1}, api.ErrArg},
		{Config{1<<40 + 1, 1}, api.ErrArg},
		{Config{1, 1<<40 + 1}, api.ErrArg},
		{Config{math.MinInt, 1}, api.ErrArg},
		{Config{1, math.MinInt}, api.ErrArg},
		{Config{math.MaxInt, 1}, api.ErrArg},
		{Config{1, math.MaxInt}, api.ErrArg},
	} {
		if e := c.c.Check(); e != c.e {
			t.Errorf("Check(%+v): %d, want %d", c.c, e, c.e)
		}
		d, e := New(c.c)
		if e != c.e || (d == nil) != (e != api.OK) {
			t.Errorf("New(%+v): %v, %d, want %d", c.c, d, e, c.e)
		}
		if d == nil {
			continue
		}
		if d.Config != c.c {
			t.Errorf("New(%+v): %+v", c.c, d.Config)
		}
		sees(t, d, false, 0)
	}
}

func TestNothingIsRecordedAtFirst(t *testing.T) {
	d := made(t, Config{After: 3, Rest: 5})
	ticks(t, d,
		call{100, true, false, Same},
		call{102, true, false, Same},
		call{103, true, false, Suspend})
}

func TestTicksThatAreLate(t *testing.T) {
	d := made(t, Config{After: 3, Rest: 5})
	ticks(t, d, call{0, true, false, Same}, call{50, true, false, Suspend}, call{54, true, false, Same}, call{90, true, false, Resume})
	sees(t, d, false, 1)
}

func TestTheSameTickTwice(t *testing.T) {
	d := made(t, Config{After: 1, Rest: 1})
	ticks(t, d,
		call{7, true, false, Same}, call{7, true, false, Same},
		call{8, true, false, Suspend}, call{8, true, false, Same},
		call{9, true, false, Resume}, call{9, true, false, Same}, call{9, true, false, Same},
		call{10, true, false, Suspend})
}

func TestNothingWaits(t *testing.T) {
	for _, sent := range []bool{false, true} {
		d := made(t, Config{After: 3, Rest: 5})
		ticks(t, d,
			call{0, true, false, Same},
			call{2, false, sent, Same},
			call{5, true, false, Same}, // since 5
			call{7, true, false, Same},
			call{7, false, sent, Same},
			call{8, false, sent, Same},
			call{9, true, false, Same}, // since 9
			call{11, true, false, Same},
			call{12, true, false, Suspend})
	}
}

// Who was sent something, and for whom more waits, waits since then.
func TestSomethingWasSent(t *testing.T) {
	d := made(t, Config{After: 3, Rest: 5})
	ticks(t, d,
		call{0, true, false, Same},
		call{2, true, true, Same},
		call{4, true, false, Same},
		call{5, true, true, Same}, // just in time
		call{7, true, false, Same},
		call{8, true, false, Suspend})
	sees(t, d, true, 1)
}

func TestAtOnceIsNeverTooLong(t *testing.T) {
	d := made(t, Config{After: 1, Rest: 1})
	for now := range 100 {
		ticks(t, d, call{now, true, true, Same})
	}
	sees(t, d, false, 0)
}

// What happens to who is suspended does not matter.
func TestSuspended(t *testing.T) {
	for _, c := range []struct{ waits, sent bool }{{true, false}, {true, true}, {false, false}, {false, true}} {
		d := made(t, Config{After: 2, Rest: 4})
		ticks(t, d,
			call{0, true, false, Same},
			call{2, true, false, Suspend},
			call{3, c.waits, c.sent, Same},
			call{5, c.waits, c.sent, Same})
		sees(t, d, true, 1)
		ticks(t, d, call{6, c.waits, c.sent, Resume})
		sees(t, d, false, 1)
		// Nothing is recorded: not even the tick of the Resume.
		ticks(t, d,
			call{9, true, false, Same},
			call{10, true, false, Same},
			call{11, true, false, Suspend})
		sees(t, d, true, 2)
	}
}

func TestTimes(t *testing.T) {
	d := made(t, Config{After: 1, Rest: 1})
	for i := range 50 {
		ticks(t, d,
			call{3 * i, true, false, Same},
			call{3*i + 1, true, false, Suspend},
			call{3*i + 2, true, false, Resume})
		sees(t, d, false, i+1)
	}
}

func TestTheGreatestConfig(t *testing.T) {
	d := made(t, Config{After: api.MaxTick, Rest: api.MaxTick})
	ticks(t, d, call{0, true, false, Same}, call{api.MaxTick - 1, true, false, Same}, call{api.MaxTick, true, false, Suspend}, call{api.MaxTick, true, false, Same})
	d = made(t, Config{After: 1, Rest: api.MaxTick})
	ticks(t, d, call{0, true, false, Same}, call{1, true, false, Suspend}, call{api.MaxTick, true, false, Same})
}

func TestDogsAreApart(t *testing.T) {
	a, b := made(t, Config{2, 2}), made(t, Config{2, 2})
	ticks(t, a, call{0, true, false, Same}, call{2, true, false, Suspend})
	sees(t, b, false, 0)
	ticks(t, b, call{2, true, false, Same}, call{3, true, false, Same})
	sees(t, a, true, 1)
}

// P22.2: who is sent something often enough, or for whom nothing waits, is never suspended.

func TestWhoTakesSomethingIsNotSuspended(t *testing.T) {
	random := rand.New(rand.NewSource(222))
	for range 300 {
		c := Config{1 + random.Intn(8), 1 + random.Intn(8)}
		d := made(t, c)
		now, last := 0, 0
		for range 200 {
			now = min(now+random.Intn(4), last+c.After)
			waits := random.Intn(8) > 0
			sent := now == last+c.After || random.Intn(10) == 0
			if sent || !waits {
				last = now
			}
			if change := d.Tick(now, waits, sent); change != Same {
				t.Fatalf("Tick(%d, %v, %v) of %+v: %d", now, waits, sent, c, change)
			}
		}
		sees(t, d, false, 0)
	}
}

func TestWhoHasNothingIsNotSuspended(t *testing.T) {
	d := made(t, Config{1, 1})
	for now := range 100 {
		ticks(t, d, call{5 * now, false, now%3 == 0, Same})
	}
	sees(t, d, false, 0)
}

// P22.3: the first Tick that is Rest or more ticks later ends it.

func TestASuspensionEnds(t *testing.T) {
	random := rand.New(rand.NewSource(223))
	for range 300 {
		c := Config{1 + random.Intn(5), 1 + random.Intn(12)}
		d := made(t, c)
		d.Tick(0, true, false)
		began := c.After + random.Intn(3)
		ticks(t, d, call{began, true, false, Suspend})
		for now := began; d.Suspended(); now += random.Intn(4) {
			change := Same
			if now-began >= c.Rest {
				change = Resume
			}
			ticks(t, d, call{now, random.Intn(2) == 0, random.Intn(2) == 0, change})
			sees(t, d, change == Same, 1)
			if t.Failed() {
				t.Fatalf("of %+v", c)
			}
		}
	}
}

// P22.1, by the pair: any calls.

// TestAllShortHistories goes through every sequence of a few calls.
func TestAllShortHistories(t *testing.T) {
	const depth, kinds = 5, 12
	total := 1
	for range depth {
		total *= kinds
	}
	for _, c := range []Config{{1, 1}, {2, 1}, {1, 2}, {2, 3}} {
		for history := range total {
			p := newPair(t, c)
			now := 0
			for range depth {
				kind := history % kinds
				now += kind / 4
				p.tick(now, kind%2 == 0, kind/2%2 == 0)
				history /= kinds
			}
		}
	}
}

func TestAnyCalls(t *testing.T) {
	random := rand.New(rand.NewSource(22))
	times := 0
	for range 400 {
		p := newPair(t, Config{1 + random.Intn(8), 1 + random.Intn(8)})
		now := random.Intn(5)
		for range 200 {
			now += random.Intn(4)
			p.tick(now, random.Intn(10) > 0, random.Intn(8) == 0)
		}
		times += p.d.Times()
	}
	if times < 3000 {
		t.Errorf("only %d suspensions", times)
	}
}
