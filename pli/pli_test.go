package pli

import (
	"math"
	"math/rand"
	"testing"

	"antiphon/api"
)

// model has the ticks of the requests since a key frame was wanted; none: nothing is wanted.
type model struct {
	c    Config
	asks []int
	sent int
}

// due is found from the number of requests: after each, the time is twice as long, but limited.
func (m *model) due() (int, bool) {
	n := len(m.asks)
	if n == 0 {
		return 0, false
	}
	wait := m.c.First
	for i := 1; i < n && wait < m.c.Most; i++ {
		wait *= 2
	}
	if wait > m.c.Most {
		wait = m.c.Most
	}
	return m.asks[n-1] + wait, true
}

func (m *model) tick(now int) bool {
	due, wanted := m.due()
	if !wanted || due > now {
		return false
	}
	m.ask(now)
	return true
}

func (m *model) want(on bool, now int) bool {
	switch {
	case !on:
		m.asks = nil
		return false
	case len(m.asks) > 0:
		return m.tick(now)
	}
	m.ask(now)
	return true
}

func (m *model) ask(now int) {
	m.asks = append(m.asks, now)
	m.sent++
}

// pair is an asker beside its model.
type pair struct {
	t    *testing.T
	a    *Asker
	like *model
}

func newPair(t *testing.T, c Config) *pair {
	t.Helper()
	return &pair{t: t, a: made(t, c), like: &model{c: c}}
}

// made is a new asker, which may be.
func made(t *testing.T, c Config) *Asker {
	t.Helper()
	a, e := New(c)
	if e != api.OK || a == nil {
		t.Fatalf("New(%+v): %v, %d", c, a, e)
	}
	return a
}

func (p *pair) want(on bool, now int) {
	p.t.Helper()
	if ok, should := p.a.Want(on, now), p.like.want(on, now); ok != should {
		p.t.Fatalf("Want(%v, %d) after %v of %+v: %v", on, now, p.like.asks, p.like.c, ok)
	}
	p.same()
}

func (p *pair) tick(now int) {
	p.t.Helper()
	if ok, should := p.a.Tick(now), p.like.tick(now); ok != should {
		p.t.Fatalf("Tick(%d) after %v of %+v: %v", now, p.like.asks, p.like.c, ok)
	}
	p.same()
}

// same looks at all that the asker says of itself, and at its requests (P21.2).
func (p *pair) same() {
	p.t.Helper()
	due, wanted := p.like.due()
	sees(p.t, p.a, wanted, due, p.like.sent)
	first := p.like.c.First
	for i := 1; i < len(p.like.asks); i++ {
		if p.like.asks[i]-p.like.asks[i-1] < first {
			p.t.Fatalf("asked at %v, First %d", p.like.asks, first)
		}
	}
	if p.t.Failed() {
		p.t.Fatalf("after %v of %+v", p.like.asks, p.like.c)
	}
}

// sees fails the test unless an asker says this of itself.
func sees(t *testing.T, a *Asker, wanted bool, due, sent int) {
	t.Helper()
	at, ok := a.Due()
	if a.Wanted() != wanted || at != due || ok != wanted || a.Sent() != sent {
		t.Errorf("Wanted %v, Due %d, %v, Sent %d, want %v, %d, %d", a.Wanted(), at, ok, a.Sent(), wanted, due, sent)
	}
}

// asks fails the test unless a call made a request, or did not.
func asks(t *testing.T, ok, should bool) {
	t.Helper()
	if ok != should {
		t.Errorf("asked: %v, want %v", ok, should)
	}
}

// P21.1: each call.

func TestExampleOfTheDocument(t *testing.T) {
	a := made(t, Config{First: 2, Most: 5})
	should := map[int]bool{0: true, 2: true, 6: true, 11: true, 16: true}
	asks(t, a.Want(true, 0), should[0])
	for now := 1; now < 21; now++ {
		asks(t, a.Tick(now), should[now])
	}
	sees(t, a, true, 21, 5)
}

func TestConfigs(t *testing.T) {
	for _, c := range []struct {
		c Config
		e api.Errno
	}{
		{Config{1, 1}, api.OK},
		{Config{1, 2}, api.OK},
		{Config{1, 1 << 30}, api.OK},
		{Config{1 << 30, 1 << 30}, api.OK},
		{Config{200, 3000}, api.OK},
		{Config{}, api.ErrArg},
		{Config{0, 1}, api.ErrArg},
		{Config{-1, 5}, api.ErrArg},
		{Config{math.MinInt, 5}, api.ErrArg},
		{Config{1, 0}, api.ErrArg},
		{Config{2, 1}, api.ErrArg},
		{Config{5, -5}, api.ErrArg},
		{Config{math.MaxInt, 1}, api.ErrArg},
		{Config{1, 1<<30 + 1}, api.ErrArg},
		{Config{1<<30 + 1, 1<<30 + 1}, api.ErrArg},
		{Config{1, math.MaxInt}, api.ErrArg},
		{Config{math.MaxInt, math.MaxInt}, api.ErrArg},
	} {
		if e := c.c.Check(); e != c.e {
			t.Errorf("Check(%+v): %d, want %d", c.c, e, c.e)
		}
		a, e := New(c.c)
		if e != c.e || (a == nil) != (e != api.OK) {
			t.Errorf("New(%+v): %v, %d, want %d", c.c, a, e, c.e)
		}
		if a == nil {
			continue
		}
		if a.Config != c.c {
			t.Errorf("New(%+v): %+v", c.c, a.Config)
		}
		sees(t, a, false, 0, 0)
	}
}

func TestNothingIsWanted(t *testing.T) {
	a := made(t, Config{First: 1, Most: 1})
	for _, now := range []int{0, 1, 5, api.MaxTick} {
		asks(t, a.Tick(now), false)
		asks(t, a.Want(false, now), false)
		sees(t, a, false, 0, 0)
	}
}

func TestWantAsksAtOnce(t *testing.T) {
	for _, now := range []int{0, 1, 1000, api.MaxTick} {
		a := made(t, Config{First: 7, Most: 9})
		asks(t, a.Want(true, now), true)
		sees(t, a, true, now+7, 1)
	}
}

func TestTickAtTheTickThatIsDue(t *testing.T) {
	a := made(t, Config{First: 3, Most: 100})
	asks(t, a.Want(true, 10), true)
	asks(t, a.Tick(10), false)
	asks(t, a.Tick(12), false)
	sees(t, a, true, 13, 1)
	asks(t, a.Tick(13), true)
	sees(t, a, true, 19, 2)
	asks(t, a.Tick(13), false)
	asks(t, a.Tick(18), false)
	asks(t, a.Tick(19), true)
	sees(t, a, true, 31, 3)
}

// A request that is late counts from when it was made.
func TestTickThatIsLate(t *testing.T) {
	a := made(t, Config{First: 3, Most: 100})
	a.Want(true, 0)
	asks(t, a.Tick(50), true)
	sees(t, a, true, 56, 2)
	asks(t, a.Tick(1000), true)
	sees(t, a, true, 1012, 3)
}

func TestWantOfWhatIsWantedAlready(t *testing.T) {
	a := made(t, Config{First: 3, Most: 100})
	asks(t, a.Want(true, 0), true)
	asks(t, a.Want(true, 0), false)
	asks(t, a.Want(true, 2), false)
	sees(t, a, true, 3, 1)
	asks(t, a.Want(true, 3), true)
	sees(t, a, true, 9, 2)
	asks(t, a.Want(true, 8), false)
	asks(t, a.Tick(9), true)
	asks(t, a.Want(true, 9), false)
	sees(t, a, true, 21, 3)
}

func TestWantedAgainIsABeginning(t *testing.T) {
	a := made(t, Config{First: 3, Most: 100})
	a.Want(true, 0)
	a.Tick(3)
	a.Tick(9)
	asks(t, a.Want(false, 9), false)
	sees(t, a, false, 0, 3)
	asks(t, a.Tick(21), false)
	asks(t, a.Want(false, 30), false)
	sees(t, a, false, 0, 3)
	asks(t, a.Want(true, 30), true)
	sees(t, a, true, 33, 4)
	asks(t, a.Tick(33), true)
	sees(t, a, true, 39, 5)
	// At once, even if the last request was made just now.
	a.Want(false, 33)
	asks(t, a.Want(true, 33), true)
	sees(t, a, true, 36, 6)
}

func TestWaitingTimes(t *testing.T) {
	for _, c := range []struct {
		c     Config
		waits []int
	}{
		{Config{1, 1}, []int{1, 1, 1, 1}},
		{Config{1, 8}, []int{1, 2, 4, 8, 8, 8}},
		{Config{3, 10}, []int{3, 6, 10, 10}},
		{Config{3, 11}, []int{3, 6, 11, 11}},
		{Config{3, 12}, []int{3, 6, 12, 12}},
		{Config{3, 13}, []int{3, 6, 12, 13, 13}},
		{Config{5, 6}, []int{5, 6, 6}},
		{Config{5, 5}, []int{5, 5, 5}},
		{Config{1 << 30, 1 << 30}, []int{1 << 30, 1 << 30, 1 << 30}},
		{Config{1<<29 + 1, 1 << 30}, []int{1<<29 + 1, 1 << 30, 1 << 30}},
	} {
		a := made(t, c.c)
		now := 5
		asks(t, a.Want(true, now), true)
		for i, wait := range c.waits {
			sees(t, a, true, now+wait, i+1)
			now += wait
			asks(t, a.Tick(now-1), false)
			asks(t, a.Tick(now), true)
		}
	}
}

func TestTheLastTicks(t *testing.T) {
	a := made(t, Config{First: 1 << 30, Most: 1 << 30})
	a.Want(true, api.MaxTick-1)
	asks(t, a.Tick(api.MaxTick), false)
	sees(t, a, true, api.MaxTick-1+1<<30, 1)
}

func TestAskersAreApart(t *testing.T) {
	a, b := made(t, Config{1, 4}), made(t, Config{2, 4})
	a.Want(true, 0)
	sees(t, b, false, 0, 0)
	b.Want(true, 1)
	a.Tick(1)
	a.Want(false, 2)
	sees(t, a, false, 0, 2)
	sees(t, b, true, 3, 1)
}

// P21.2: how far requests lie apart.

func TestBackoff(t *testing.T) {
	for first := 1; first <= 6; first++ {
		for most := first; most <= 20; most++ {
			a := made(t, Config{first, most})
			asks(t, a.Want(true, 100), true)
			last, n := 100, 1
			for now := 101; now < 300; now++ {
				if a.Tick(now) {
					if now-last < first || now-last > most {
						t.Fatalf("First %d, Most %d: asked at %d and %d", first, most, last, now)
					}
					last, n = now, n+1
				}
				if now-last >= most {
					t.Fatalf("First %d, Most %d: not asked from %d to %d", first, most, last, now)
				}
				if now-100 < (n-1)*first {
					t.Fatalf("First %d: asked %d times from 100 to %d", first, n, now)
				}
			}
			if n != a.Sent() {
				t.Errorf("Sent: %d, want %d", a.Sent(), n)
			}
		}
	}
}

// P21.1 and P21.2, each by the pair: any calls.

// TestAllShortHistories goes through every sequence of a few calls.
func TestAllShortHistories(t *testing.T) {
	const depth, kinds = 6, 7
	total := 1
	for range depth {
		total *= kinds
	}
	for _, c := range []Config{{1, 1}, {1, 3}, {2, 3}, {2, 8}} {
		for history := range total {
			p := newPair(t, c)
			now := 0
			for range depth {
				switch kind := history % kinds; kind {
				case 0:
					p.want(false, now)
				case 1, 2, 3:
					now += kind - 1
					p.want(true, now)
				default:
					now += kind - 3
					p.tick(now)
				}
				history /= kinds
			}
		}
	}
}

func TestAnyCalls(t *testing.T) {
	random := rand.New(rand.NewSource(21))
	sent := 0
	for range 400 {
		first := 1 + random.Intn(10)
		p := newPair(t, Config{first, first + random.Intn(60)})
		now := random.Intn(5)
		for range 200 {
			now += random.Intn(8)
			switch random.Intn(20) {
			case 0:
				p.want(false, now)
			case 1, 2, 3, 4, 5:
				p.want(true, now)
			default:
				p.tick(now)
			}
		}
		sent += p.a.Sent()
	}
	if sent < 5000 {
		t.Errorf("only %d requests", sent)
	}
}
