package drr

import (
	"math"
	"math/rand"
	"slices"
	"testing"

	"antiphon/api"
)

// one is a flow of a model.
type one struct {
	id, share, balance int
	size               int // of its head; -1: it has none
}

// model has the flows in the order of their numbers, and goes through them one by one.
type model struct {
	most    int
	flows   []*one
	turn    int
	granted bool
}

func (m *model) find(id int) *one {
	for _, f := range m.flows {
		if f.id == id {
			return f
		}
	}
	return nil
}

func (m *model) add(id, share int) api.Errno {
	if share < m.most || share > 16777216 {
		return api.ErrArg
	}
	if m.find(id) != nil {
		return api.ErrThere
	}
	m.flows = append(m.flows, &one{id: id, share: share})
	slices.SortFunc(m.flows, func(f, g *one) int {
		if f.id < g.id {
			return -1
		}
		return 1
	})
	return api.OK
}

func (m *model) remove(id int) api.Errno {
	f := m.find(id)
	if f == nil {
		return api.ErrNone
	}
	m.flows = slices.DeleteFunc(m.flows, func(g *one) bool { return g == f })
	m.granted = m.granted && m.turn != id
	return api.OK
}

func (m *model) left(id int) int {
	if f := m.find(id); f != nil {
		return f.balance
	}
	return 0
}

// next is the number of the next flow that has a head.
func (m *model) next() int {
	for _, f := range m.flows {
		if f.id > m.turn && f.size >= 0 {
			return f.id
		}
	}
	for _, f := range m.flows {
		if f.size >= 0 {
			return f.id
		}
	}
	panic("no flow has a head")
}

func (m *model) choose(l []Head) (int, bool) {
	waiting := 0
	for _, f := range m.flows {
		f.size = -1
		for _, h := range l {
			if h.Id == f.id && 0 <= h.Size && h.Size <= m.most {
				f.size = h.Size
			}
		}
		if f.size < 0 {
			f.balance = 0
		} else {
			waiting++
		}
	}
	if waiting == 0 {
		m.granted = false
		return 0, false
	}
	if f := m.find(m.turn); f == nil || f.size < 0 {
		m.turn, m.granted = m.next(), false
	}
	for {
		f := m.find(m.turn)
		if !m.granted {
			f.balance += f.share
			m.granted = true
		}
		if f.balance >= f.size {
			return f.id, true
		}
		m.turn, m.granted = m.next(), false
	}
}

func (m *model) take(size int) {
	if f := m.find(m.turn); m.granted && size >= 0 && size <= f.balance {
		f.balance -= size
	}
}

// pair is a schedule beside its model.
type pair struct {
	t    *testing.T
	s    *Sched
	like *model
}

func newPair(t *testing.T, most int) *pair {
	t.Helper()
	return &pair{t: t, s: made(t, most), like: &model{most: most}}
}

// made is a new schedule, which may be, with flows from 1 that have these shares.
func made(t *testing.T, most int, shares ...int) *Sched {
	t.Helper()
	s, e := New(most)
	if e != api.OK || s == nil {
		t.Fatalf("New(%d): %v, %d", most, s, e)
	}
	for i, share := range shares {
		if e := s.Add(i+1, share); e != api.OK {
			t.Fatalf("Add(%d, %d): %d", i+1, share, e)
		}
	}
	return s
}

func (p *pair) add(id, share int) {
	p.t.Helper()
	if e, should := p.s.Add(id, share), p.like.add(id, share); e != should {
		p.t.Fatalf("Add(%d, %d): %d, want %d", id, share, e, should)
	}
}

func (p *pair) remove(id int) {
	p.t.Helper()
	if e, should := p.s.Remove(id), p.like.remove(id); e != should {
		p.t.Fatalf("Remove(%d): %d, want %d", id, e, should)
	}
}

func (p *pair) choose(l ...Head) (int, bool) {
	p.t.Helper()
	id, ok := p.s.Choose(l...)
	if should, some := p.like.choose(l); id != should || ok != some {
		p.t.Fatalf("Choose(%v): %d, %v, want %d, %v", l, id, ok, should, some)
	}
	return id, ok
}

func (p *pair) take(size int) {
	p.s.Take(size)
	p.like.take(size)
}

// send takes what is chosen, with the size of its last head.
func (p *pair) send(l ...Head) int {
	p.t.Helper()
	id, ok := p.choose(l...)
	if !ok {
		return id
	}
	for _, h := range slices.Backward(l) {
		if h.Id == id && h.Size >= 0 && h.Size <= p.like.most {
			p.take(h.Size)
			return id
		}
	}
	p.t.Fatalf("Choose(%v): %d has no head", l, id)
	return 0
}

// same looks at the balances of flows.
func (p *pair) same(ids ...int) {
	p.t.Helper()
	for _, id := range ids {
		if left, should := p.s.Left(id), p.like.left(id); left != should || left < 0 {
			p.t.Fatalf("Left(%d): %d, want %d", id, left, should)
		}
	}
}

// sends fails the test unless these flows are chosen one after the other, of these heads; what
// is chosen is taken.
func sends(t *testing.T, s *Sched, heads []Head, ids ...int) {
	t.Helper()
	sizes := map[int]int{}
	for _, h := range heads {
		sizes[h.Id] = h.Size
	}
	var l []int
	for range ids {
		id, ok := s.Choose(heads...)
		if !ok {
			t.Errorf("Choose(%v): none", heads)
		}
		s.Take(sizes[id])
		l = append(l, id)
	}
	if !slices.Equal(l, ids) {
		t.Errorf("Choose(%v): %v, want %v", heads, l, ids)
	}
}

// none fails the test unless nothing is chosen.
func none(t *testing.T, s *Sched, heads ...Head) {
	t.Helper()
	if id, ok := s.Choose(heads...); id != 0 || ok {
		t.Errorf("Choose(%v): %d, %v", heads, id, ok)
	}
}

// left fails the test unless the flows from 1 have these balances.
func left(t *testing.T, s *Sched, balances ...int) {
	t.Helper()
	for i, balance := range balances {
		if is := s.Left(i + 1); is != balance {
			t.Errorf("Left(%d): %d, want %d", i+1, is, balance)
		}
	}
}

// heads are those of the flows from 1, of these sizes.
func heads(sizes ...int) []Head {
	var l []Head
	for i, size := range sizes {
		l = append(l, Head{i + 1, size})
	}
	return l
}

// P19.1: each call.

func TestExampleOfTheDocument(t *testing.T) {
	s := made(t, 10, 10, 20)
	sends(t, s, heads(10, 10), 1, 2, 2, 1, 2, 2)
}

func TestNew(t *testing.T) {
	if MaxQuantum != 16777216 {
		t.Errorf("MaxQuantum: %d", MaxQuantum)
	}
	for _, c := range []struct {
		most int
		e    api.Errno
	}{
		{1, api.OK},
		{1500, api.OK},
		{MaxQuantum, api.OK},
		{0, api.ErrArg},
		{-1, api.ErrArg},
		{MaxQuantum + 1, api.ErrArg},
		{math.MinInt, api.ErrArg},
		{math.MaxInt, api.ErrArg},
	} {
		s, e := New(c.most)
		if e != c.e || (s == nil) != (e != api.OK) {
			t.Errorf("New(%d): %v, %d, want %d", c.most, s, e, c.e)
		}
		if s != nil {
			none(t, s)
			none(t, s, Head{}, Head{1, 1})
			s.Take(0)
			s.Take(1)
			left(t, s, 0)
			if e := s.Remove(0); e != api.ErrNone {
				t.Errorf("Remove: %d", e)
			}
		}
	}
}

func TestAdd(t *testing.T) {
	s := made(t, 10)
	for _, c := range []struct {
		id, share int
		e         api.Errno
	}{
		{1, 10, api.OK},
		{1, 10, api.ErrThere},
		{1, 11, api.ErrThere},
		{1, 9, api.ErrArg}, // both apply: the share is named first
		{1, MaxQuantum + 1, api.ErrArg},
		{2, 9, api.ErrArg},
		{2, 0, api.ErrArg},
		{2, -10, api.ErrArg},
		{2, math.MinInt, api.ErrArg},
		{2, math.MaxInt, api.ErrArg},
		{2, MaxQuantum + 1, api.ErrArg},
		{2, MaxQuantum, api.OK},
		{0, 10, api.OK},
		{0, 10, api.ErrThere},
		{-1, 10, api.OK},
		{math.MinInt, 10, api.OK},
		{math.MaxInt, 10, api.OK},
	} {
		if e := s.Add(c.id, c.share); e != c.e {
			t.Errorf("Add(%d, %d): %d, want %d", c.id, c.share, e, c.e)
		}
	}
	left(t, s, 0, 0)
	// The share is the one that was accepted.
	sends(t, s, heads(10), 1)
	left(t, s, 0)
	sends(t, s, heads(1), 1)
	left(t, s, 9)
}

func TestRemove(t *testing.T) {
	s := made(t, 10, 30, 30)
	if e := s.Remove(3); e != api.ErrNone {
		t.Errorf("Remove: %d", e)
	}
	sends(t, s, heads(10, 10), 1)
	left(t, s, 20, 0)
	for _, e := range []api.Errno{api.OK, api.ErrNone, api.ErrNone} {
		if is := s.Remove(1); is != e {
			t.Errorf("Remove: %d, want %d", is, e)
		}
	}
	left(t, s, 0, 0)
	s.Take(0)
	s.Take(5)
	none(t, s, Head{1, 1})
	sends(t, s, heads(10, 10), 2, 2)
}

func TestAFlowThatCameBackHasNoBalance(t *testing.T) {
	s := made(t, 10, 30)
	sends(t, s, heads(10), 1)
	s.Remove(1)
	s.Add(1, 40)
	left(t, s, 0)
	// It is still its turn, but it has not been granted in it.
	s.Take(0)
	s.Take(1)
	left(t, s, 0)
	sends(t, s, heads(10), 1)
	left(t, s, 30)
}

func TestRemoveOfAnotherFlowLeavesTheTurn(t *testing.T) {
	s := made(t, 10, 30, 30)
	sends(t, s, heads(10, 10), 1)
	s.Remove(2)
	left(t, s, 20)
	s.Take(5)
	left(t, s, 15)
	sends(t, s, heads(10), 1)
	left(t, s, 5)
}

func TestChooseOfNone(t *testing.T) {
	for _, l := range [][]Head{
		nil,
		{},
		{{3, 1}},
		{{0, 0}},
		{{1, 11}},
		{{1, -1}},
		{{1, math.MinInt}, {2, math.MaxInt}},
	} {
		s := made(t, 10, 30, 30)
		sends(t, s, heads(10, 10), 1)
		left(t, s, 20, 0)
		none(t, s, l...)
		left(t, s, 0, 0)
		s.Take(0)
		s.Take(1)
		left(t, s, 0, 0)
		// It is still the turn of the first flow, which is granted again.
		sends(t, s, heads(10, 10), 1)
		left(t, s, 20, 0)
	}
}

func TestChooseConsiders(t *testing.T) {
	for _, c := range []struct {
		l    []Head
		id   int
		left []int
	}{
		{[]Head{{1, 0}}, 1, []int{10, 0, 0}},
		{[]Head{{1, 10}}, 1, []int{10, 0, 0}},
		{[]Head{{2, 10}, {1, 10}}, 1, []int{10, 0, 0}},
		{[]Head{{3, 10}, {2, 10}}, 2, []int{0, 20, 0}},
		{[]Head{{4, 10}, {0, 10}, {3, 10}}, 3, []int{0, 0, 30}},
		{[]Head{{1, 11}, {2, -1}, {3, 3}}, 3, []int{0, 0, 30}},
		// A head that is not considered takes nothing from one that is.
		{[]Head{{1, 1}, {1, 11}, {2, 2}}, 1, []int{10, 0, 0}},
		{[]Head{{1, 11}, {1, 1}}, 1, []int{10, 0, 0}},
		{[]Head{{1, 5}, {1, -1}}, 1, []int{10, 0, 0}},
	} {
		s := made(t, 10, 10, 20, 30)
		if id, ok := s.Choose(c.l...); id != c.id || !ok {
			t.Errorf("Choose(%v): %d, %v, want %d", c.l, id, ok, c.id)
		}
		left(t, s, c.left...)
		if t.Failed() {
			t.Fatalf("%v", c.l)
		}
	}
}

func TestTheLastHeadOfAFlowCounts(t *testing.T) {
	for _, c := range []struct {
		l  []Head
		id int
	}{
		{[]Head{{1, 9}, {2, 1}, {1, 5}}, 1},
		{[]Head{{1, 5}, {2, 1}, {1, 9}}, 2},
		{[]Head{{1, 9}, {1, 5}, {1, 11}, {2, 1}}, 1},
		{[]Head{{1, 5}, {1, 9}, {1, -1}, {2, 1}}, 2},
	} {
		s := made(t, 10, 10, 10)
		s.Choose(Head{1, 5})
		s.Take(5)
		left(t, s, 5)
		if id, ok := s.Choose(c.l...); id != c.id || !ok {
			t.Errorf("Choose(%v): %d, %v, want %d", c.l, id, ok, c.id)
		}
	}
}

func TestChooseWithoutTakeStays(t *testing.T) {
	s := made(t, 10, 25, 10)
	for range 5 {
		if id, ok := s.Choose(heads(10, 10)...); id != 1 || !ok {
			t.Errorf("Choose: %d, %v", id, ok)
		}
		left(t, s, 25, 0)
	}
}

func TestTheTurnPasses(t *testing.T) {
	s := made(t, 10, 15, 10, 10)
	sends(t, s, heads(10, 10, 10), 1, 2)
	// What was left of the first flow's share stays with it while it has something.
	left(t, s, 5, 0, 0)
	sends(t, s, heads(10, 10, 10), 3, 1, 1, 2)
	left(t, s, 0, 0, 0)
	// The flow whose turn it is has nothing: the next one, and after the last one the first.
	sends(t, s, []Head{{1, 10}}, 1)
	sends(t, s, []Head{{1, 10}, {2, 10}}, 2, 1)
}

func TestNextOfATurnThatLeft(t *testing.T) {
	for _, c := range []struct {
		ids  []int
		gone int
		next int
	}{
		{[]int{1, 5, 9}, 5, 9},
		{[]int{1, 5, 9}, 9, 1},
		{[]int{1, 5, 9}, 1, 5},
		{[]int{-4, -2, 3}, -2, 3},
		{[]int{math.MinInt, 0, math.MaxInt}, math.MaxInt, math.MinInt},
		{[]int{math.MinInt, 0, math.MaxInt}, math.MinInt, 0},
		{[]int{math.MinInt, 0, math.MaxInt}, 0, math.MaxInt},
	} {
		s := made(t, 10)
		var all []Head
		for _, id := range c.ids {
			s.Add(id, 10)
			all = append(all, Head{id, 10})
		}
		s.Choose(Head{c.gone, 10})
		s.Remove(c.gone)
		if id, ok := s.Choose(all...); id != c.next || !ok {
			t.Errorf("%v without %d: %d, %v, want %d", c.ids, c.gone, id, ok, c.next)
		}
	}
}

func TestTheFirstTurn(t *testing.T) {
	for _, c := range []struct {
		ids   []int
		first int
	}{
		{[]int{3}, 3},
		{[]int{3, 1}, 1},
		{[]int{-1, 5, 4}, 4},
		{[]int{-1, -7}, -7},
		{[]int{-1, 0, 1}, 0},
		{[]int{math.MaxInt, math.MinInt}, math.MaxInt},
		{[]int{math.MinInt}, math.MinInt},
	} {
		s := made(t, 10)
		var all []Head
		for _, id := range c.ids {
			s.Add(id, 10)
			all = append(all, Head{id, 10})
		}
		if id, ok := s.Choose(all...); id != c.first || !ok {
			t.Errorf("%v: %d, %v, want %d", c.ids, id, ok, c.first)
		}
	}
}

func TestTheOnlyFlowHasManyTurns(t *testing.T) {
	s := made(t, 10, 15)
	balances := []int{5, 10, 0, 5, 10, 0}
	for _, balance := range balances {
		sends(t, s, heads(10), 1)
		left(t, s, balance)
	}
}

func TestTake(t *testing.T) {
	s := made(t, 10, 20)
	s.Take(0)
	s.Take(10) // nobody is granted yet
	left(t, s, 0)
	s.Choose(heads(10)...)
	left(t, s, 20)
	for _, c := range []struct{ size, left int }{
		{0, 20},
		{-1, 20},
		{math.MinInt, 20},
		{21, 20},
		{math.MaxInt, 20},
		{7, 13}, // another size than the head's
		{14, 13},
		{13, 0},
		{1, 0},
		{0, 0},
	} {
		s.Take(c.size)
		left(t, s, c.left)
	}
	// A head of nothing is sent with nothing left.
	sends(t, s, heads(0), 1)
	left(t, s, 0)
	sends(t, s, heads(1), 1)
	left(t, s, 19)
}

func TestTheGreatestSizes(t *testing.T) {
	s := made(t, MaxQuantum, MaxQuantum, MaxQuantum)
	sends(t, s, heads(MaxQuantum, MaxQuantum), 1, 2, 1, 2)
	sends(t, s, heads(0, 0), 2, 2, 2)
	left(t, s, 0, 0)
	s.Choose(heads(1, 1)...)
	left(t, s, MaxQuantum, 0)
}

func TestHeadsAreLeftAlone(t *testing.T) {
	s := made(t, 10, 10, 10, 10)
	l := []Head{{3, 3}, {1, 1}, {2, 2}, {1, 11}, {1, 4}}
	before := slices.Clone(l)
	s.Choose(l...)
	if !slices.Equal(l, before) {
		t.Errorf("Choose changed its heads to %v", l)
	}
	clear(l)
	s.Take(4)
	left(t, s, 6, 0, 0)
}

func TestShortHistories(t *testing.T) {
	steps := []func(p *pair){
		func(p *pair) { p.add(1, 2) },
		func(p *pair) { p.add(2, 3) },
		func(p *pair) { p.remove(1) },
		func(p *pair) { p.choose(Head{1, 2}, Head{2, 2}) },
		func(p *pair) { p.choose(Head{2, 1}, Head{0, 1}) },
		func(p *pair) { p.choose(Head{1, 1}, Head{1, 2}, Head{2, 3}) },
		func(p *pair) { p.choose() },
		func(p *pair) { p.take(1) },
		func(p *pair) { p.take(2) },
	}
	const length = 6
	total := 1
	for range length {
		total *= len(steps)
	}
	for n := range total {
		p := newPair(t, 2)
		p.add(0, 2)
		for k, i := n, 0; i < length; k, i = k/len(steps), i+1 {
			steps[k%len(steps)](p)
			p.same(0, 1, 2)
		}
	}
}

func TestRandomCalls(t *testing.T) {
	ids := []int{math.MinInt, -3, 0, 1, 2, 5, math.MaxInt}
	for seed := range 300 {
		r := rand.New(rand.NewSource(int64(seed)))
		p := newPair(t, 1+r.Intn(30))
		pick := func() int { return ids[r.Intn(len(ids))] }
		for range 300 {
			switch n := r.Intn(20); {
			case n < 3:
				p.add(pick(), p.like.most+r.Intn(40)-2)
			case n == 3:
				p.remove(pick())
			case n < 6:
				p.take(r.Intn(p.like.most+3) - 1)
			default:
				var l []Head
				for range r.Intn(2 * len(ids)) {
					l = append(l, Head{pick(), r.Intn(p.like.most+3) - 1})
				}
				if n < 9 {
					p.choose(l...)
				} else {
					p.send(l...)
				}
			}
			p.same(ids...)
		}
	}
}

// P19.2: fair. What two flows that always have a head get, divided by their shares, differs by
// at most 1 plus most divided by each share.

// apart is how much more than that it is, times both shares.
func apart(most, sent, share, otherSent, otherShare int) int {
	difference := sent*otherShare - otherSent*share
	return max(difference, -difference) - share*otherShare - most*(share+otherShare)
}

func TestFair(t *testing.T) {
	for seed := range 400 {
		r := rand.New(rand.NewSource(int64(seed)))
		most := 1 + r.Intn(50)
		p := newPair(t, most)
		shares := []int{most + r.Intn(5), most + r.Intn(60), most + r.Intn(1000), most + r.Intn(20)}
		for id, share := range shares {
			p.add(id, share)
		}
		// Any history first, so that the balances are what they may be.
		for range r.Intn(50) {
			p.send(Head{0, r.Intn(most + 1)}, Head{1, r.Intn(most + 2)}, Head{2, r.Intn(most + 2)})
		}
		sent := make([]int, len(shares))
		sizes := []int{most, 1 + r.Intn(most), r.Intn(most + 1)}
		for range 500 {
			// Flows 0, 1 and 2 always have a head; the other one comes and goes.
			l := []Head{{0, sizes[0]}, {1, sizes[1]}, {2, sizes[2]}}
			if r.Intn(3) == 0 {
				l = append(l, Head{3, r.Intn(most + 1)})
			}
			size := map[int]int{}
			for _, h := range l {
				size[h.Id] = h.Size
			}
			id := p.send(l...)
			sent[id] += size[id]
			if id < 3 && id > 0 {
				sizes[id] = r.Intn(most + 1)
			}
			for i := range 3 {
				for j := range i {
					if by := apart(most, sent[i], shares[i], sent[j], shares[j]); by > 0 {
						t.Fatalf("seed %d: flows %d and %d sent %v of shares %v: too far apart", seed, i, j, sent, shares)
					}
				}
			}
		}
	}
}

// P19.3: no flow waits for more than one turn of each other flow.

func TestNoFlowWaitsForTwoTurnsOfAnother(t *testing.T) {
	for seed := range 400 {
		r := rand.New(rand.NewSource(int64(seed)))
		most := 1 + r.Intn(20)
		p := newPair(t, most)
		for id := range 5 {
			p.add(id, most+r.Intn(60))
		}
		for range r.Intn(20) {
			p.send(Head{r.Intn(5), r.Intn(most + 1)}, Head{r.Intn(5), r.Intn(most + 1)})
		}
		// Flow 2 always has a head, and the other ones often. A turn is a run of one flow.
		var turns []int
		for range 300 {
			l := []Head{{2, r.Intn(most + 1)}}
			for id := range 5 {
				if id != 2 && r.Intn(3) > 0 {
					l = append(l, Head{id, r.Intn(most + 1)})
				}
			}
			id := p.send(l...)
			switch {
			case id == 2:
				turns = nil
			case len(turns) > 0 && turns[len(turns)-1] == id:
			case slices.Contains(turns, id):
				t.Fatalf("seed %d: flow 2 waits for %v and again %d", seed, turns, id)
			default:
				turns = append(turns, id)
			}
		}
	}
}

func TestAFlowThatTakesMuchDoesNotKeepTheTurn(t *testing.T) {
	const share = 1 << 17
	s := made(t, 10, 10, share)
	sends(t, s, heads(10, 10), 1)
	for n := range share / 10 {
		if id, _ := s.Choose(heads(10, 10)...); id != 2 {
			t.Fatalf("after %d: %d", n, id)
		}
		s.Take(10)
	}
	sends(t, s, heads(10, 10), 1, 2)
}
