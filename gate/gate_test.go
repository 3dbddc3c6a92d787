package gate

import (
	"math"
	"math/rand"
	"testing"
)

// The kinds of calls that change a gate.
const (
	want = iota
	shut
	pause
	pass
)

// call is one of them, and what a Pass returned.
type call struct {
	kind    int
	layer   int
	on      bool // of a Pause; of a Pass: key
	through bool
}

// model is the list of all calls; what a gate says is found by looking back.
type model struct {
	video bool
	aim   int
	calls []call
}

func (m *model) wanted() int {
	aim := m.aim
	for _, c := range m.calls {
		if c.kind == want {
			aim = c.layer
		}
	}
	if aim < 0 {
		return 0
	}
	return aim
}

func (m *model) paused() bool {
	for i := len(m.calls) - 1; i >= 0; i-- {
		if m.calls[i].kind == pause {
			return m.calls[i].on
		}
	}
	return false
}

// open: the layer of the last frame that went through, unless the gate was closed after it.
func (m *model) open() (int, bool) {
	for i := len(m.calls) - 1; i >= 0; i-- {
		c := m.calls[i]
		if c.kind == shut || c.kind == pause && c.on {
			break
		}
		if c.kind == pass && c.through {
			return c.layer, true
		}
	}
	return 0, false
}

// pass: does a frame go through?
func (m *model) pass(layer int, key bool) bool {
	at, open := m.open()
	switch {
	case m.paused():
		return false
	case !m.video:
		return true
	case key && layer == m.wanted():
		return true
	}
	return open && layer == at
}

// counts goes through the calls from the first one on.
func (m *model) counts() (int, int) {
	shuts, turns := 0, 0
	for i, c := range m.calls {
		before := model{video: m.video, aim: m.aim, calls: m.calls[:i]}
		at, open := before.open()
		if open && (c.kind == shut || c.kind == pause && c.on) {
			shuts++
		}
		if open && m.video && c.kind == pass && c.through && c.layer != at {
			turns++
		}
	}
	return shuts, turns
}

func (m *model) needs() (int, bool) {
	at, open := m.open()
	if m.video && !m.paused() && (!open || at != m.wanted()) {
		return m.wanted(), true
	}
	return 0, false
}

// pair is a gate beside its model.
type pair struct {
	t    *testing.T
	g    *Gate
	like *model
}

func newPair(t *testing.T, video bool, aim int) *pair {
	return &pair{t: t, g: New(video, aim), like: &model{video: video, aim: aim}}
}

// do makes a call on both.
func (p *pair) do(c call) {
	p.t.Helper()
	switch c.kind {
	case want:
		p.g.Want(c.layer)
	case shut:
		p.g.Shut()
	case pause:
		p.g.Pause(c.on)
	case pass:
		c.through = p.g.Pass(c.layer, c.on)
		if should := p.like.pass(c.layer, c.on); c.through != should {
			p.t.Fatalf("Pass(%d, %v) after %+v: %v", c.layer, c.on, p.like.calls, c.through)
		}
	}
	p.like.calls = append(p.like.calls, c)
}

// same looks at all that the gate says of itself.
func (p *pair) same() {
	p.t.Helper()
	at, open := p.like.open()
	shuts, turns := p.like.counts()
	layer, needs := p.like.needs()
	sees(p.t, p.g, state{at, open, p.like.wanted(), p.like.paused(), shuts, turns, layer, needs})
	if p.t.Failed() {
		p.t.Fatalf("after %+v", p.like.calls)
	}
	p.opensByKeys()
}

// opensByKeys: P14.2, of all the calls so far.
func (p *pair) opensByKeys() {
	p.t.Helper()
	if !p.like.video {
		return
	}
	aim, previous := max(p.like.aim, 0), -1
	for _, c := range p.like.calls {
		switch {
		case c.kind == want:
			aim = max(c.layer, 0)
		case c.kind == shut, c.kind == pause && c.on:
			previous = -1
		case c.kind == pass && c.through:
			if c.layer != previous && !(c.on && c.layer == aim) {
				p.t.Fatalf("%+v went through behind layer %d, with %d wanted: %+v", c, previous, aim, p.like.calls)
			}
			previous = c.layer
		}
	}
}

// state is all that a gate says of itself.
type state struct {
	at     int
	open   bool
	aim    int
	paused bool
	shuts  int
	turns  int
	layer  int
	needs  bool
}

// sees fails the test unless a gate says this of itself.
func sees(t *testing.T, g *Gate, s state) {
	t.Helper()
	at, open := g.Open()
	shuts, turns := g.Counts()
	layer, needs := g.Needs()
	if is := (state{at, open, g.Aim(), g.Paused(), shuts, turns, layer, needs}); is != s {
		t.Errorf("%+v, want %+v", is, s)
	}
}

// passes fails the test unless a frame goes through, or does not.
func passes(t *testing.T, g *Gate, layer int, key, through bool) {
	t.Helper()
	if is := g.Pass(layer, key); is != through {
		t.Errorf("Pass(%d, %v): %v", layer, key, is)
	}
}

// P14.1: each call.

func TestExampleOfTheDocument(t *testing.T) {
	g := New(true, 1)
	passes(t, g, 1, false, false)
	passes(t, g, 0, true, false)
	passes(t, g, 1, true, true)
	passes(t, g, 1, false, true)
	sees(t, g, state{at: 1, open: true, aim: 1})
}

func TestNew(t *testing.T) {
	for _, c := range []struct{ aim, is int }{
		{0, 0}, {1, 1}, {2, 2}, {3, 3}, {math.MaxInt, math.MaxInt}, {-1, 0}, {-2, 0}, {math.MinInt, 0},
	} {
		sees(t, New(true, c.aim), state{aim: c.is, layer: c.is, needs: true})
		sees(t, New(false, c.aim), state{aim: c.is})
	}
}

func TestWant(t *testing.T) {
	g, sounds := New(true, 1), New(false, 1)
	passes(t, g, 1, true, true)
	for _, c := range []struct{ aim, is int }{
		{2, 2}, {0, 0}, {-1, 0}, {7, 7}, {math.MinInt, 0}, {math.MaxInt, math.MaxInt},
	} {
		g.Want(c.aim)
		sees(t, g, state{at: 1, open: true, aim: c.is, layer: c.is, needs: true})
		sounds.Want(c.aim)
		sees(t, sounds, state{aim: c.is})
	}
	// The layer that it is open for is wanted again: nothing has happened.
	g.Want(1)
	sees(t, g, state{at: 1, open: true, aim: 1})
}

func TestWantOfAPausedGate(t *testing.T) {
	g := New(true, 1)
	g.Pause(true)
	g.Want(2)
	sees(t, g, state{aim: 2, paused: true})
	g.Pause(false)
	sees(t, g, state{aim: 2, layer: 2, needs: true})
}

func TestShut(t *testing.T) {
	for _, video := range []bool{true, false} {
		g := New(video, 0)
		g.Shut()
		sees(t, g, state{needs: video})
		passes(t, g, 0, true, true)
		sees(t, g, state{open: true})
		g.Shut()
		sees(t, g, state{shuts: 1, needs: video})
		g.Shut()
		sees(t, g, state{shuts: 1, needs: video})
		passes(t, g, 0, false, !video)
		passes(t, g, 0, true, true)
		g.Shut()
		sees(t, g, state{shuts: 2, needs: video})
	}
}

func TestOpenOfAClosedGate(t *testing.T) {
	g := New(true, 2)
	passes(t, g, 2, true, true)
	sees(t, g, state{at: 2, open: true, aim: 2})
	g.Shut()
	sees(t, g, state{aim: 2, shuts: 1, layer: 2, needs: true})
	// The layer that it was open for counts no more.
	g.Want(1)
	passes(t, g, 1, true, true)
	sees(t, g, state{at: 1, open: true, aim: 1, shuts: 1})
}

func TestPause(t *testing.T) {
	for _, video := range []bool{true, false} {
		g := New(video, 1)
		g.Pause(true)
		sees(t, g, state{aim: 1, paused: true})
		for layer := range 3 {
			passes(t, g, layer, false, false)
			passes(t, g, layer, true, false)
		}
		sees(t, g, state{aim: 1, paused: true})
		g.Pause(false)
		passes(t, g, 1, true, true)
		g.Pause(true)
		sees(t, g, state{aim: 1, paused: true, shuts: 1})
		g.Pause(true)
		g.Shut()
		sees(t, g, state{aim: 1, paused: true, shuts: 1})
		g.Pause(false)
		passes(t, g, 1, false, !video)
		passes(t, g, 1, true, true)
		sees(t, g, state{at: 1, open: true, aim: 1, shuts: 1})
	}
}

func TestPauseOffDoesNotClose(t *testing.T) {
	g := New(true, 1)
	passes(t, g, 1, true, true)
	g.Pause(false)
	sees(t, g, state{at: 1, open: true, aim: 1})
	passes(t, g, 1, false, true)
}

func TestPictures(t *testing.T) {
	for _, c := range []struct {
		aim, at int // at below 0: closed
		layer   int
		key     bool
		through bool
		turns   int
	}{
		{1, -1, 1, true, true, 0},
		{1, -1, 1, false, false, 0},
		{1, -1, 0, true, false, 0},
		{1, -1, 0, false, false, 0},
		{1, -1, 2, true, false, 0},
		{1, 1, 1, true, true, 0},
		{1, 1, 1, false, true, 0},
		{1, 1, 0, true, false, 0},
		{1, 1, 2, true, false, 0},
		{1, 0, 0, true, true, 0},
		{1, 0, 0, false, true, 0},
		{1, 0, 1, true, true, 1},
		{1, 0, 1, false, false, 0},
		{1, 0, 2, true, false, 0},
		{1, 0, -1, true, false, 0},
		{0, 2, 0, true, true, 1},
		{0, 2, 2, false, true, 0},
		{0, -1, -1, true, false, 0},
		{0, -1, math.MinInt, true, false, 0},
	} {
		g := New(true, max(c.at, 0))
		if c.at >= 0 {
			passes(t, g, c.at, true, true)
		}
		g.Want(c.aim)
		passes(t, g, c.layer, c.key, c.through)
		s := state{at: max(c.at, 0), open: c.at >= 0, aim: c.aim, turns: c.turns}
		if c.through {
			s.at, s.open = c.layer, true
		}
		if !s.open || s.at != c.aim {
			s.layer, s.needs = c.aim, true
		}
		sees(t, g, s)
	}
}

func TestSounds(t *testing.T) {
	g := New(false, 1)
	for _, layer := range []int{1, 0, 2, 2, -1, math.MinInt, math.MaxInt} {
		passes(t, g, layer, layer == 2, true)
		sees(t, g, state{at: layer, open: true, aim: 1})
	}
	g.Shut()
	sees(t, g, state{aim: 1, shuts: 1})
}

func TestCounts(t *testing.T) {
	g := New(true, 0)
	for i := range 10 {
		g.Want(i % 3)
		passes(t, g, i%3, true, true)
		passes(t, g, i%3, false, true)
		sees(t, g, state{at: i % 3, open: true, aim: i % 3, turns: i})
	}
	for i := range 5 {
		g.Shut()
		passes(t, g, 0, true, true)
		g.Pause(true)
		g.Pause(false)
		// Who opens for another layer after having been closed does not turn.
		g.Want(2 - 2*(i%2))
		passes(t, g, g.Aim(), true, true)
		g.Want(0)
	}
	g.Shut()
	sees(t, g, state{shuts: 11, turns: 9, needs: true})
}

func TestGatesAreApart(t *testing.T) {
	a, b := New(true, 1), New(true, 1)
	passes(t, a, 1, true, true)
	passes(t, b, 1, false, false)
	b.Pause(true)
	sees(t, a, state{at: 1, open: true, aim: 1})
	sees(t, b, state{aim: 1, paused: true})
}

// P14.1 and P14.2, each by the pair: any calls.

// TestAllShortHistories goes through every sequence of a few calls.
func TestAllShortHistories(t *testing.T) {
	calls := []call{
		{kind: want, layer: 0}, {kind: want, layer: 1}, {kind: shut}, {kind: pause, on: true}, {kind: pause},
		{kind: pass, layer: 0}, {kind: pass, layer: 0, on: true}, {kind: pass, layer: 1}, {kind: pass, layer: 1, on: true},
		{kind: pass, layer: 2, on: true},
	}
	const depth = 5
	total := 1
	for range depth {
		total *= len(calls)
	}
	for _, video := range []bool{true, false} {
		for history := range total {
			p := newPair(t, video, 1)
			for range depth {
				p.do(calls[history%len(calls)])
				history /= len(calls)
			}
			p.same()
		}
	}
}

func TestAnyCalls(t *testing.T) {
	random := rand.New(rand.NewSource(14))
	through := 0
	for range 300 {
		p := newPair(t, random.Intn(4) > 0, random.Intn(5)-1)
		for range 60 {
			p.do(anyCall(random))
			p.same()
		}
		for _, c := range p.like.calls {
			if c.through {
				through++
			}
		}
	}
	if through < 3000 {
		t.Errorf("only %d frames went through", through)
	}
}

// anyCall is mostly a Pass, so that a gate is often open.
func anyCall(random *rand.Rand) call {
	c := call{kind: pass, layer: random.Intn(4) - 1, on: random.Intn(2) == 0}
	switch random.Intn(12) {
	case 0, 1:
		c.kind = want
	case 2:
		c.kind = shut
	case 3:
		c.kind = pause
	case 4:
		c.kind, c.on = pause, false
	}
	return c
}
