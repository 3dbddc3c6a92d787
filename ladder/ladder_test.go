package ladder

import (
	"math"
	"math/rand"
	"slices"
	"testing"

	"antiphon/api"
)

// What a tick is for a ladder.
const (
	neither = iota
	bad
	good
)

// model has the kinds of all ticks since the last step.
type model struct {
	c     Config
	needs []int
	aim   int
	at    int
	ticks []int
	moves int
}

// there is the layer that there is, for one that is wanted.
func (m *model) there(layer int) int {
	for i := range m.needs {
		if layer <= i {
			return i
		}
	}
	return len(m.needs) - 1
}

// kind is what a tick with a rate is.
func (m *model) kind(rate int) int {
	if m.at != 0 && rate < m.needs[m.at] {
		return bad
	}
	if m.at >= m.aim {
		return neither
	}
	next := m.needs[m.at+1]
	for range m.c.Spare {
		next += m.needs[m.at+1] / 10
	}
	if rate < next {
		return neither
	}
	return good
}

// row is how many ticks of a kind are the last ones.
func (m *model) row(kind int) int {
	n := 0
	for n < len(m.ticks) && m.ticks[len(m.ticks)-1-n] == kind {
		n++
	}
	return n
}

func (m *model) tick(rate int) bool {
	kind := m.kind(rate)
	m.ticks = append(m.ticks, kind)
	switch {
	case kind == bad && m.row(bad) == m.c.Down:
		m.step(m.at - 1)
		return true
	case kind == good && m.row(good) == m.c.Up:
		m.step(m.at + 1)
		return true
	}
	return false
}

func (m *model) want(most int) bool {
	m.aim = m.there(most)
	if m.at > m.aim {
		m.step(m.aim)
		return true
	}
	return false
}

func (m *model) step(to int) {
	m.at, m.ticks = to, nil
	m.moves++
}

// pair is a ladder beside its model.
type pair struct {
	t     *testing.T
	l     *Ladder
	like  *model
	ticks int // since the last step
	ups   int // steps up
}

func newPair(t *testing.T, c Config, most int, needs ...int) *pair {
	t.Helper()
	like := &model{c: c, needs: slices.Clone(needs)}
	like.aim = like.there(most)
	like.at = like.aim
	p := &pair{t: t, l: made(t, c, most, needs...), like: like}
	p.same()
	return p
}

// made is a new ladder, which may be.
func made(t *testing.T, c Config, most int, needs ...int) *Ladder {
	t.Helper()
	l, e := New(c, most, needs...)
	if e != api.OK || l == nil {
		t.Fatalf("New(%+v, %d, %v): %v, %d", c, most, needs, l, e)
	}
	return l
}

// tick also counts the ticks between steps (P23.3).
func (p *pair) tick(rate int) {
	p.t.Helper()
	at := p.l.At()
	ok, should := p.l.Tick(rate), p.like.tick(rate)
	if ok != should {
		p.t.Fatalf("Tick(%d): %v, of %+v", rate, ok, p.like)
	}
	p.same()
	p.ticks++
	if !ok {
		return
	}
	least := p.like.c.Down
	if p.l.At() > at {
		least = p.like.c.Up
		p.ups++
	}
	if p.ticks < least {
		p.t.Fatalf("a step from %d to %d after %d ticks, of %+v", at, p.l.At(), p.ticks, p.like)
	}
	p.ticks = 0
}

func (p *pair) want(most int) {
	p.t.Helper()
	ok, should := p.l.Want(most), p.like.want(most)
	if ok != should {
		p.t.Fatalf("Want(%d): %v, of %+v", most, ok, p.like)
	}
	if ok {
		p.ticks = 0
	}
	p.same()
}

// same looks at all that the ladder says of itself, and at what is wanted (P23.2).
func (p *pair) same() {
	p.t.Helper()
	if p.l.At() != p.like.at || p.l.Moves() != p.like.moves {
		p.t.Fatalf("At %d, Moves %d, of %+v", p.l.At(), p.l.Moves(), p.like)
	}
	if p.l.At() > p.like.aim || p.l.At() < 0 {
		p.t.Fatalf("At %d, wanted %d", p.l.At(), p.like.aim)
	}
}

// sees fails the test unless a ladder says this of itself.
func sees(t *testing.T, l *Ladder, at, moves int) {
	t.Helper()
	if l.At() != at || l.Moves() != moves {
		t.Errorf("At %d, Moves %d, want %d, %d", l.At(), l.Moves(), at, moves)
	}
}

// tick is a rate, and the layer after it.
type tick struct{ rate, at int }

// ticks fails the test unless the ladder is on these layers after these rates, and tells its steps.
func ticks(t *testing.T, l *Ladder, list ...tick) {
	t.Helper()
	for i, c := range list {
		before := l.At()
		ok := l.Tick(c.rate)
		if l.At() != c.at || ok != (before != c.at) {
			t.Errorf("tick %d, %d: %v, on %d, want %d", i, c.rate, ok, l.At(), c.at)
		}
	}
}

// again is so many ticks that change nothing.
func again(t *testing.T, l *Ladder, n, rate int) {
	t.Helper()
	for range n {
		ticks(t, l, tick{rate, l.At()})
	}
}

// P23.1: each call.

func TestExampleOfTheDocument(t *testing.T) {
	l := made(t, Config{Down: 2, Up: 3, Spare: 1}, 1, 10, 50)
	ticks(t, l, tick{20, 1}, tick{20, 0}, tick{55, 0}, tick{55, 0}, tick{55, 1})
	sees(t, l, 1, 2)
}

func TestConfigs(t *testing.T) {
	for _, c := range []struct {
		c Config
		e api.Errno
	}{
		{Config{1, 1, 0}, api.OK},
		{Config{1 << 20, 1 << 20, 100}, api.OK},
		{Config{20, 100, 2}, api.OK},
		{Config{}, api.ErrArg},
		{Config{0, 1, 0}, api.ErrArg},
		{Config{-1, 1, 0}, api.ErrArg},
		{Config{1<<20 + 1, 1, 0}, api.ErrArg},
		{Config{math.MaxInt, 1, 0}, api.ErrArg},
		{Config{math.MinInt, 1, 0}, api.ErrArg},
		{Config{1, 0, 0}, api.ErrArg},
		{Config{1, -1, 0}, api.ErrArg},
		{Config{1, 1<<20 + 1, 0}, api.ErrArg},
		{Config{1, math.MaxInt, 0}, api.ErrArg},
		{Config{1, math.MinInt, 0}, api.ErrArg},
		{Config{1, 1, -1}, api.ErrArg},
		{Config{1, 1, 101}, api.ErrArg},
		{Config{1, 1, math.MaxInt}, api.ErrArg},
		{Config{1, 1, math.MinInt}, api.ErrArg},
	} {
		if e := c.c.Check(); e != c.e {
			t.Errorf("Check(%+v): %d, want %d", c.c, e, c.e)
		}
		l, e := New(c.c, 0, 1)
		if e != c.e || (l == nil) != (e != api.OK) {
			t.Errorf("New(%+v): %v, %d, want %d", c.c, l, e, c.e)
		}
		if l != nil && l.Config != c.c {
			t.Errorf("New(%+v): %+v", c.c, l.Config)
		}
	}
}

func TestNeeds(t *testing.T) {
	if MaxNeed != 1099511627776 {
		t.Errorf("MaxNeed: %d", MaxNeed)
	}
	for _, c := range []struct {
		needs []int
		e     api.Errno
	}{
		{[]int{0}, api.OK},
		{[]int{MaxNeed}, api.OK},
		{[]int{0, 0, 0}, api.OK},
		{[]int{0, 1}, api.OK},
		{[]int{5, 5, MaxNeed}, api.OK},
		{[]int{MaxNeed, MaxNeed, MaxNeed}, api.OK},
		{nil, api.ErrArg},
		{[]int{}, api.ErrArg},
		{[]int{1, 2, 3, 4}, api.ErrArg},
		{[]int{1, 1, 1, 1, 1}, api.ErrArg},
		{[]int{-1}, api.ErrArg},
		{[]int{-1, 1}, api.ErrArg},
		{[]int{math.MinInt, 0, 1}, api.ErrArg},
		{[]int{MaxNeed + 1}, api.ErrArg},
		{[]int{1, 2, MaxNeed + 1}, api.ErrArg},
		{[]int{1, math.MaxInt}, api.ErrArg},
		{[]int{1, 0}, api.ErrArg},
		{[]int{1, 2, 1}, api.ErrArg},
		{[]int{2, 1, 3}, api.ErrArg},
		{[]int{1, -1, 3}, api.ErrArg},
		{[]int{1, MaxNeed + 1, 3}, api.ErrArg},
	} {
		l, e := New(Config{1, 1, 0}, 0, c.needs...)
		if e != c.e || (l == nil) != (e != api.OK) {
			t.Errorf("New(%v): %v, %d, want %d", c.needs, l, e, c.e)
		}
	}
}

func TestNewWants(t *testing.T) {
	for _, c := range []struct{ layers, most, at int }{
		{1, 0, 0}, {1, 1, 0}, {1, -1, 0}, {1, math.MaxInt, 0}, {1, math.MinInt, 0},
		{2, 0, 0}, {2, 1, 1}, {2, 2, 1}, {2, -5, 0}, {2, math.MaxInt, 1},
		{3, 0, 0}, {3, 1, 1}, {3, 2, 2}, {3, 3, 2}, {3, -1, 0}, {3, math.MaxInt, 2}, {3, math.MinInt, 0},
	} {
		l := made(t, Config{1, 1, 0}, c.most, []int{0, 0, 0}[:c.layers]...)
		sees(t, l, c.at, 0)
		// It is wanted, too, and no higher one is.
		again(t, l, 5, MaxNeed)
		sees(t, l, c.at, 0)
	}
}

func TestNewKeepsItsNeeds(t *testing.T) {
	needs := []int{10, 20, 30}
	l := made(t, Config{1, 1, 0}, 2, needs...)
	needs[0], needs[1], needs[2] = 0, 0, 0
	ticks(t, l, tick{29, 1}, tick{30, 2}, tick{29, 1}, tick{19, 0})
	if needs[0] != 0 || needs[1] != 0 || needs[2] != 0 {
		t.Errorf("needs: %v", needs)
	}
}

func TestWant(t *testing.T) {
	l := made(t, Config{1, 1, 0}, 2, 10, 20, 30)
	for _, c := range []struct {
		most  int
		ok    bool
		at    int
		moves int
		above int // the layer that great rates lead to
	}{
		{5, false, 2, 0, 2},
		{2, false, 2, 0, 2},
		{1, true, 1, 1, 1},
		{1, false, 1, 1, 1},
		{math.MinInt, true, 0, 2, 0},
		{-1, false, 0, 2, 0},
		{0, false, 0, 2, 0},
		{1, false, 0, 2, 1},
		{math.MaxInt, false, 1, 3, 2},
		{0, true, 0, 5, 0}, // one step, of two layers
	} {
		if ok := l.Want(c.most); ok != c.ok {
			t.Errorf("Want(%d): %v", c.most, ok)
		}
		sees(t, l, c.at, c.moves)
		for range 5 {
			l.Tick(100)
		}
		sees(t, l, c.above, c.moves+c.above-c.at)
	}
}

// A Want that makes a step resets both numbers, one that makes none resets neither.
func TestWantAndTheNumbers(t *testing.T) {
	l := made(t, Config{3, 3, 0}, 2, 10, 20, 30)
	ticks(t, l, tick{25, 2}, tick{25, 2})
	l.Want(2)
	ticks(t, l, tick{25, 1}, tick{15, 1}, tick{15, 1})
	l.Want(1)
	ticks(t, l, tick{15, 0}, tick{20, 0}, tick{20, 0})
	l.Want(2)
	ticks(t, l, tick{20, 1}, tick{30, 1}, tick{30, 1})
	l.Want(0)
	l.Want(2)
	ticks(t, l, tick{30, 0}, tick{30, 0}, tick{30, 1}, tick{15, 1}, tick{15, 1})
	l.Want(0)
	l.Want(1)
	ticks(t, l, tick{20, 0}, tick{20, 0}, tick{20, 1}, tick{19, 1}, tick{19, 1}, tick{19, 0})
	// Without a step a good tick counts, even if in between nothing higher was wanted.
	ticks(t, l, tick{20, 0}, tick{20, 0})
	l.Want(0)
	l.Want(1)
	ticks(t, l, tick{20, 1})
}

func TestDown(t *testing.T) {
	l := made(t, Config{3, 1, 0}, 2, 10, 20, 30)
	ticks(t, l, tick{29, 2}, tick{0, 2}, tick{30, 2}) // as much as it needs is enough
	ticks(t, l, tick{29, 2}, tick{29, 2}, tick{math.MinInt, 1})
	ticks(t, l, tick{19, 1}, tick{19, 1}, tick{20, 1}) // neither bad nor good
	ticks(t, l, tick{19, 1}, tick{-1, 1}, tick{19, 0})
	// Nothing is below layer 0, whatever it needs.
	again(t, l, 10, 0)
	again(t, l, 10, 9)
	sees(t, l, 0, 2)
	ticks(t, l, tick{20, 1})
}

func TestUp(t *testing.T) {
	l := made(t, Config{1, 3, 0}, 0, 10, 20, 30)
	again(t, l, 10, math.MaxInt)
	l.Want(2)
	ticks(t, l, tick{20, 0}, tick{19, 0}, tick{20, 0}, tick{20, 0}, tick{math.MaxInt, 1})
	ticks(t, l, tick{30, 1}, tick{30, 1}, tick{29, 1}, tick{30, 1}, tick{30, 1}, tick{30, 2})
	again(t, l, 10, math.MaxInt)
	sees(t, l, 2, 2)
}

// One layer at a time, however great or small the rate.
func TestOneLayerAtATime(t *testing.T) {
	l := made(t, Config{2, 3, 0}, 2, 10, 20, 30)
	ticks(t, l, tick{0, 2}, tick{0, 1}, tick{0, 1}, tick{0, 0})
	ticks(t, l, tick{1000, 0}, tick{1000, 0}, tick{1000, 1}, tick{1000, 1}, tick{1000, 1}, tick{1000, 2})
	sees(t, l, 2, 4)
}

func TestAGoodTickEndsARowOfBadOnes(t *testing.T) {
	l := made(t, Config{2, 2, 0}, 2, 10, 20, 30)
	ticks(t, l, tick{29, 2}, tick{29, 1})
	ticks(t, l, tick{19, 1}, tick{30, 1}, tick{19, 1}, tick{30, 1}, tick{30, 2})
	ticks(t, l, tick{29, 2}, tick{29, 1})
	ticks(t, l, tick{30, 1}, tick{19, 1}, tick{30, 1}, tick{19, 1}, tick{19, 0})
}

func TestSpare(t *testing.T) {
	for _, c := range []struct{ need, spare, rate int }{
		{50, 0, 50},
		{50, 1, 55},
		{50, 100, 550},
		{59, 3, 74}, // the tenth is 5
		{9, 100, 9}, // the tenth is 0
		{10, 1, 11},
		{19, 7, 26},
		{0, 100, 0},
		{300, 2, 360},
		{MaxNeed, 0, MaxNeed},
		{MaxNeed, 100, MaxNeed + 100*109951162777},
	} {
		l := made(t, Config{1, 1, c.spare}, 0, 0, c.need)
		l.Want(1)
		ticks(t, l, tick{c.rate - 1, 0}, tick{c.rate, 1})
		// Up there, what it needs is enough.
		ticks(t, l, tick{c.need, 1}, tick{c.need - 1, 0})
	}
}

func TestLayersThatNeedTheSame(t *testing.T) {
	l := made(t, Config{1, 1, 0}, 2, 10, 10, 10)
	ticks(t, l, tick{10, 2}, tick{9, 1}, tick{9, 0}, tick{9, 0}, tick{10, 1}, tick{10, 2})
}

func TestLayersThatNeedNothing(t *testing.T) {
	l := made(t, Config{1, 1, 100}, 2, 0, 0, 0)
	ticks(t, l, tick{0, 2}, tick{-1, 1}, tick{0, 2}, tick{-1, 1}, tick{-1, 0}, tick{-1, 0}, tick{0, 1})
}

// A layer that is too much stays bad while nothing higher is wanted.
func TestBadBelowWhatIsWanted(t *testing.T) {
	l := made(t, Config{2, 2, 10}, 1, 10, 20)
	ticks(t, l, tick{19, 1}, tick{19, 0}, tick{39, 0}, tick{39, 0}, tick{40, 0}, tick{39, 0}, tick{40, 0}, tick{40, 1})
}

func TestTheGreatestConfig(t *testing.T) {
	l := made(t, Config{1 << 20, 1 << 20, 100}, 1, 10, 20)
	again(t, l, 1<<20-1, 19)
	ticks(t, l, tick{19, 0})
	again(t, l, 1<<20-1, 220)
	ticks(t, l, tick{220, 1})
}

func TestLaddersAreApart(t *testing.T) {
	needs := []int{10, 20, 30}
	a, b := made(t, Config{2, 2, 0}, 2, needs...), made(t, Config{2, 2, 0}, 2, needs...)
	ticks(t, a, tick{0, 2})
	ticks(t, b, tick{0, 2})
	a.Want(0)
	sees(t, b, 2, 0)
	ticks(t, b, tick{0, 1})
	sees(t, a, 0, 1)
}

// P23.3: the number of ticks between steps is reached, too.

func TestHysteresis(t *testing.T) {
	for down := 1; down <= 5; down++ {
		for up := 1; up <= 5; up++ {
			l := made(t, Config{down, up, 0}, 2, 10, 20, 30)
			for range 3 {
				again(t, l, down-1, 0)
				ticks(t, l, tick{0, 1})
				again(t, l, down-1, 0)
				ticks(t, l, tick{0, 0})
				again(t, l, up-1, 100)
				ticks(t, l, tick{100, 1})
				again(t, l, down-1, 0)
				ticks(t, l, tick{0, 0})
				again(t, l, up-1, 100)
				ticks(t, l, tick{100, 1})
				again(t, l, up-1, 100)
				ticks(t, l, tick{100, 2})
			}
			sees(t, l, 2, 18)
		}
	}
}

// P23.1 to P23.3, each by the pair: any calls.

// TestAllShortHistories goes through every sequence of a few calls.
func TestAllShortHistories(t *testing.T) {
	const depth, kinds = 6, 7
	total := 1
	for range depth {
		total *= kinds
	}
	for _, c := range []Config{{1, 1, 0}, {2, 1, 1}, {1, 2, 5}, {2, 2, 0}} {
		for history := range total {
			p := newPair(t, c, 1, 10, 20, 30)
			for range depth {
				switch kind := history % kinds; kind {
				case 0, 1, 2:
					p.want(kind)
				default:
					p.tick([]int{5, 22, 30, 45}[kind-3])
				}
				history /= kinds
			}
		}
	}
}

func TestAnyCalls(t *testing.T) {
	random := rand.New(rand.NewSource(23))
	moves, ups := 0, 0
	for range 600 {
		needs := []int{random.Intn(40), random.Intn(40), random.Intn(40)}
		slices.Sort(needs)
		c := Config{1 + random.Intn(4), 1 + random.Intn(4), random.Intn(8)}
		p := newPair(t, c, random.Intn(5)-1, needs[:1+random.Intn(3)]...)
		for range 200 {
			switch random.Intn(12) {
			case 0:
				p.want(random.Intn(5) - 1)
			case 1:
				p.tick(random.Intn(90) - 5)
			case 2, 3, 4, 5, 6:
				p.tick(random.Intn(30) - 5)
			default:
				p.tick(60 + random.Intn(60))
			}
		}
		moves += p.l.Moves()
		ups += p.ups
	}
	if moves < 5000 || ups < 2500 {
		t.Errorf("only %d steps, %d of them up", moves, ups)
	}
}
