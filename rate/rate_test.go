package rate

import (
	"math"
	"math/big"
	"math/rand"
	"testing"

	"antiphon/api"
)

// added is an Add.
type added struct{ now, bytes int }

// model has all Adds; everything is summed up anew.
type model struct {
	window int
	adds   []added
	bits   uint64
}

// counted is how many bytes of an Add count.
func (a added) counted() int {
	switch {
	case a.bytes < 0:
		return 0
	case a.bytes > 1073741824:
		return 1073741824
	}
	return a.bytes
}

func (m *model) total() int {
	n := 0
	for _, a := range m.adds {
		n += a.counted()
	}
	return n
}

func (m *model) rate(now int) int {
	n := new(big.Int)
	for _, a := range m.adds {
		if a.now+m.window > now {
			n.Add(n, big.NewInt(int64(a.counted())))
		}
	}
	n.Mul(n, big.NewInt(1000))
	return int(n.Quo(n, big.NewInt(int64(m.window))).Int64())
}

func (m *model) guess(now int, waits bool) int {
	guess := m.rate(now)
	if !waits {
		guess += guess
		if guess == 0 {
			guess = 1
		}
	}
	if m.bits >= 8<<40 && guess > 1<<40 {
		return 1 << 40
	}
	if m.bits >= 8 && m.bits < 8<<40 && guess > int(m.bits/8) {
		return int(m.bits / 8)
	}
	return guess
}

// pair is a meter beside its model.
type pair struct {
	t    *testing.T
	m    *Meter
	like *model
}

func newPair(t *testing.T, window int) *pair {
	t.Helper()
	return &pair{t: t, m: made(t, window), like: &model{window: window}}
}

// made is a new meter, which may be.
func made(t *testing.T, window int) *Meter {
	t.Helper()
	m, e := New(window)
	if e != api.OK || m == nil {
		t.Fatalf("New(%d): %v, %d", window, m, e)
	}
	return m
}

func (p *pair) add(now, bytes int) {
	p.m.Add(now, bytes)
	p.like.adds = append(p.like.adds, added{now, bytes})
}

func (p *pair) cap(bits uint64) {
	p.m.Cap(bits)
	p.like.bits = bits
}

// same looks at all that the meter says at a tick.
func (p *pair) same(now int) {
	p.t.Helper()
	says(p.t, p.m, now, p.like.rate(now), p.like.guess(now, true), p.like.guess(now, false))
	if total := p.m.Total(); total != p.like.total() {
		p.t.Errorf("Total: %d, want %d", total, p.like.total())
	}
	if p.t.Failed() {
		p.t.Fatalf("window %d, after %v", p.like.window, p.like.adds)
	}
}

// says fails the test unless this is the rate, and these are the guesses if something waits, and if nothing does.
func says(t *testing.T, m *Meter, now, rate, waits, not int) {
	t.Helper()
	if n := m.Rate(now); n != rate {
		t.Errorf("Rate(%d): %d, want %d", now, n, rate)
	}
	if n := m.Guess(now, true); n != waits {
		t.Errorf("Guess(%d, true): %d, want %d", now, n, waits)
	}
	if n := m.Guess(now, false); n != not {
		t.Errorf("Guess(%d, false): %d, want %d", now, n, not)
	}
}

// P24.1: each call.

func TestExampleOfTheDocument(t *testing.T) {
	m := made(t, 10)
	m.Add(0, 5)
	m.Add(9, 5)
	for _, c := range []struct{ now, rate int }{{9, 1000}, {10, 500}} {
		if n := m.Rate(c.now); n != c.rate {
			t.Errorf("Rate(%d): %d, want %d", c.now, n, c.rate)
		}
	}
}

func TestNew(t *testing.T) {
	if Second != 1000 || MaxBytes != 1073741824 {
		t.Errorf("Second %d, MaxBytes %d", Second, MaxBytes)
	}
	for _, c := range []struct {
		window int
		e      api.Errno
	}{
		{1, api.OK},
		{1000, api.OK},
		{1 << 20, api.OK},
		{0, api.ErrArg},
		{-1, api.ErrArg},
		{math.MinInt, api.ErrArg},
		{1<<20 + 1, api.ErrArg},
		{math.MaxInt, api.ErrArg},
	} {
		m, e := New(c.window)
		if e != c.e || (m == nil) != (e != api.OK) {
			t.Errorf("New(%d): %v, %d, want %d", c.window, m, e, c.e)
		}
	}
}

func TestAMeterForWhichNothingWasSent(t *testing.T) {
	m := made(t, 100)
	for _, now := range []int{0, 1, 100, api.MaxTick} {
		says(t, m, now, 0, 0, 1)
	}
	if m.Total() != 0 {
		t.Errorf("Total: %d", m.Total())
	}
}

func TestTheWindow(t *testing.T) {
	for _, window := range []int{1, 2, 10, 1000, 1 << 20} {
		m := made(t, window)
		m.Add(50, window)
		says(t, m, 50, 1000, 1000, 2000)
		says(t, m, 50+window-1, 1000, 1000, 2000)
		says(t, m, 50+window, 0, 0, 1)
		says(t, m, api.MaxTick, 0, 0, 1)
		if m.Total() != window {
			t.Errorf("Total: %d", m.Total())
		}
	}
}

func TestWhatLeavesTheWindow(t *testing.T) {
	m := made(t, 10)
	for now := range 10 {
		m.Add(now, now+1)
		if now%2 == 0 {
			m.Add(now, 0)
		}
	}
	left := 55
	for now := 9; now < 20; now++ {
		says(t, m, now, 100*left, 100*left, max(200*left, 1))
		left -= now - 8
	}
	m.Add(20, 7)
	says(t, m, 20, 700, 700, 1400)
	if m.Total() != 62 {
		t.Errorf("Total: %d", m.Total())
	}
}

func TestOneTickManyTimes(t *testing.T) {
	m := made(t, 4)
	for i := range 6 {
		m.Add(3, 10)
		says(t, m, 3, 2500*(i+1), 2500*(i+1), 5000*(i+1))
	}
	m.Add(5, 1)
	m.Add(5, 1)
	says(t, m, 6, 15500, 15500, 31000)
	says(t, m, 7, 500, 500, 1000)
	m.Add(8, 2)
	says(t, m, 8, 1000, 1000, 2000)
	says(t, m, 9, 500, 500, 1000)
}

func TestRoundsDown(t *testing.T) {
	m := made(t, 3)
	m.Add(0, 1)
	says(t, m, 0, 333, 333, 666) // twice what was rounded down
	m.Add(0, 1)
	says(t, m, 0, 666, 666, 1332)
	m = made(t, 1001)
	m.Add(0, 1)
	says(t, m, 0, 0, 0, 1)
	m.Add(0, 1)
	says(t, m, 0, 1, 1, 2)
}

func TestBytesAreLimited(t *testing.T) {
	for _, c := range []struct{ bytes, counted int }{
		{0, 0}, {-1, 0}, {math.MinInt, 0}, {1, 1},
		{MaxBytes, MaxBytes}, {MaxBytes + 1, MaxBytes}, {math.MaxInt, MaxBytes},
	} {
		m := made(t, 1000)
		m.Add(7, 5)
		m.Add(7, c.bytes)
		m.Add(8, c.bytes)
		if m.Total() != 5+2*c.counted {
			t.Errorf("Total after Add(%d): %d", c.bytes, m.Total())
		}
		says(t, m, 8, 5+2*c.counted, 5+2*c.counted, 10+4*c.counted)
	}
}

func TestTheGreatestRate(t *testing.T) {
	m := made(t, 1)
	for range 1023 {
		m.Add(api.MaxTick, math.MaxInt)
	}
	const most = 1023 * MaxBytes * Second
	says(t, m, api.MaxTick, most, most, 2*most)
	m.Cap(math.MaxUint64)
	says(t, m, api.MaxTick, most, 1<<40, 1<<40)
}

func TestCap(t *testing.T) {
	m := made(t, 1000)
	m.Add(0, 500)
	for _, c := range []struct {
		bits       uint64
		waits, not int
	}{
		{8000, 500, 1000},
		{7999, 500, 999},
		{4008, 500, 501},
		{4000, 500, 500},
		{3999, 499, 499},
		{16, 2, 2},
		{15, 1, 1},
		{8, 1, 1},
		{7, 500, 1000}, // an eighth is 0: there is none
		{1, 500, 1000},
		{8, 1, 1},
		{0, 500, 1000},
		{1 << 43, 500, 1000},
		{math.MaxUint64, 500, 1000},
	} {
		m.Cap(c.bits)
		says(t, m, 0, 500, c.waits, c.not)
	}
}

func TestTheGreatestCap(t *testing.T) {
	const rate = 2 * MaxBytes * Second
	for _, c := range []struct {
		bits       uint64
		waits, not int
	}{
		{1<<43 - 1, 1<<40 - 1, 1<<40 - 1},
		{1 << 43, 1 << 40, 1 << 40},
		{1<<43 + 8, 1 << 40, 1 << 40},
		{1 << 63, 1 << 40, 1 << 40},
		{math.MaxUint64, 1 << 40, 1 << 40},
		{0, rate, 2 * rate},
	} {
		m := made(t, 1)
		m.Add(0, MaxBytes)
		m.Add(0, MaxBytes)
		m.Cap(c.bits)
		says(t, m, 0, rate, c.waits, c.not)
	}
}

// A cap limits what is guessed if nothing was sent, but leaves it as it is.
func TestCapOfAMeterForWhichNothingWasSent(t *testing.T) {
	m := made(t, 1000)
	m.Cap(8)
	says(t, m, 0, 0, 0, 1)
	m.Cap(1 << 20)
	says(t, m, 5, 0, 0, 1)
}

func TestGuessChangesNothing(t *testing.T) {
	m := made(t, 1000)
	m.Add(0, 500)
	for range 5 {
		says(t, m, 0, 500, 500, 1000)
		says(t, m, 999, 500, 500, 1000)
	}
	m.Add(999, 1)
	says(t, m, 999, 501, 501, 1002)
	if m.Total() != 501 {
		t.Errorf("Total: %d", m.Total())
	}
}

// What has left the window is not kept, and one tick is kept once.
func TestKeepsNoMoreThanTheWindow(t *testing.T) {
	m := made(t, 10)
	for i := range 1000 {
		m.Add(i/3, 1)
		if len(m.sends) > 10 {
			t.Fatalf("%d are kept", len(m.sends))
		}
	}
	if m.Total() != 1000 {
		t.Errorf("Total: %d", m.Total())
	}
}

func TestMetersAreApart(t *testing.T) {
	a, b := made(t, 1000), made(t, 1000)
	a.Add(0, 5)
	b.Add(1, 7)
	a.Cap(8)
	says(t, a, 1, 5, 1, 1)
	says(t, b, 1, 7, 7, 14)
}

// P24.1, by the pair: any calls.

// TestAllShortHistories goes through every sequence of a few calls.
func TestAllShortHistories(t *testing.T) {
	const depth, kinds = 6, 8
	total := 1
	for range depth {
		total *= kinds
	}
	for window := 1; window <= 3; window++ {
		for history := range total {
			p := newPair(t, window)
			now := 0
			for range depth {
				kind := history % kinds
				now += kind / 2
				if kind%2 == 0 {
					p.add(now, 5+kind)
				}
				p.same(now)
				history /= kinds
			}
		}
	}
}

func TestAnyCalls(t *testing.T) {
	random := rand.New(rand.NewSource(24))
	for range 300 {
		p := newPair(t, 1+random.Intn(60))
		now := random.Intn(5)
		for range 200 {
			if random.Intn(3) == 0 {
				now += random.Intn(15)
			}
			switch random.Intn(8) {
			case 0:
				p.cap(uint64(random.Intn(1 << 24)))
			case 1:
				p.cap(random.Uint64() >> random.Intn(64))
			case 2:
				p.add(now, random.Intn(1<<31)-1<<29)
			case 3, 4, 5:
				p.add(now, random.Intn(3000))
			}
			p.same(now)
		}
	}
}
