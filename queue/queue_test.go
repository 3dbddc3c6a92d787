package queue

import (
	"math"
	"math/rand"
	"slices"
	"testing"

	"antiphon/api"
)

const maxTick = api.MaxTick

// model has the items in groups: what is dropped together. All groups but the first one start
// with a Key item; the first one may have lost its own by Pop.
type model struct {
	frames, most int
	groups       [][]Item
	broken       bool
}

func (m *model) items() []Item {
	return slices.Concat(m.groups...)
}

func (m *model) size() int {
	n := 0
	for _, x := range m.items() {
		n += x.Size
	}
	return n
}

func (m *model) drop() []Item {
	l := m.groups[0]
	m.groups = m.groups[1:]
	if len(m.groups) == 0 {
		m.broken = true
	}
	return l
}

func (m *model) put(x Item) ([]Item, bool) {
	if x.Size < 0 || x.Size > m.most || m.broken && !x.Key {
		m.broken = true
		return nil, false
	}
	var l []Item
	for len(m.items()) >= m.frames || m.size()+x.Size > m.most {
		l = append(l, m.drop()...)
	}
	switch {
	case x.Key || len(m.items()) == 0 && !m.broken:
		m.groups = append(m.groups, []Item{x})
	case m.broken:
		return l, false
	default:
		last := len(m.groups) - 1
		m.groups[last] = append(slices.Clone(m.groups[last]), x)
	}
	m.broken = false
	return l, true
}

func (m *model) pop() (Item, bool) {
	if len(m.groups) == 0 {
		return Item{}, false
	}
	x := m.groups[0][0]
	m.groups[0] = m.groups[0][1:]
	if len(m.groups[0]) == 0 {
		m.groups = m.groups[1:]
	}
	return x, true
}

func (m *model) expire(now, age int) []Item {
	var l []Item
	for len(m.groups) > 0 && m.groups[0][0].Tick <= now-age {
		l = append(l, m.drop()...)
	}
	return l
}

func (m *model) clear() []Item {
	l := m.items()
	m.groups, m.broken = nil, true
	return l
}

// pair is a queue beside its model, and all that happened to it.
type pair struct {
	t    *testing.T
	q    *Queue
	like *model

	puts    int   // how many items were put, whose numbers are those from 0
	gone    []int // the numbers of those that were dropped or not accepted
	popped  []Item
	dropped [][]Item // what calls returned, with copies after each of them
}

func newPair(t *testing.T, frames, most int) *pair {
	t.Helper()
	return &pair{t: t, q: made(t, frames, most), like: &model{frames: frames, most: most, broken: true}}
}

// made is a new queue, which may be.
func made(t *testing.T, frames, most int) *Queue {
	t.Helper()
	q, e := New(frames, most)
	if e != api.OK || q == nil {
		t.Fatalf("New(%d, %d): %v, %d", frames, most, q, e)
	}
	return q
}

func (p *pair) put(size, tick int, key bool) {
	p.t.Helper()
	x := Item{N: p.puts, Size: size, Tick: tick, Key: key}
	p.puts++
	l, ok := p.q.Put(x)
	if should, accepted := p.like.put(x); !slices.Equal(l, should) || ok != accepted {
		p.t.Fatalf("Put(%+v): %+v, %v, want %+v, %v", x, l, ok, should, accepted)
	}
	if !ok {
		p.gone = append(p.gone, x.N)
	}
	p.drops(l)
}

func (p *pair) pop() {
	p.t.Helper()
	first, there := p.q.First()
	x, ok := p.q.Pop()
	if should, all := p.like.pop(); x != should || ok != all || first != x || there != ok {
		p.t.Fatalf("First, Pop: %+v, %v, %+v, %v, want %+v, %v", first, there, x, ok, should, all)
	}
	if ok {
		p.popped = append(p.popped, x)
	}
}

func (p *pair) expire(now, age int) {
	p.t.Helper()
	l := p.q.Expire(now, age)
	if should := p.like.expire(now, age); !slices.Equal(l, should) {
		p.t.Fatalf("Expire(%d, %d): %+v, want %+v", now, age, l, should)
	}
	p.drops(l)
}

func (p *pair) clear() {
	p.t.Helper()
	l := p.q.Break()
	if should := p.like.clear(); !slices.Equal(l, should) {
		p.t.Fatalf("Break: %+v, want %+v", l, should)
	}
	p.drops(l)
}

func (p *pair) drops(l []Item) {
	for _, x := range l {
		p.gone = append(p.gone, x.N)
	}
	p.dropped = append(p.dropped, l, slices.Clone(l))
}

// same looks at all that the queue says without a change.
func (p *pair) same() {
	p.t.Helper()
	n, size, broken := len(p.like.items()), p.like.size(), p.like.broken
	if p.q.Len() != n || p.q.Size() != size || p.q.Broken() != broken {
		p.t.Fatalf("Len, Size, Broken: %d, %d, %v, want %d, %d, %v", p.q.Len(), p.q.Size(), p.q.Broken(), n, size, broken)
	}
	var first Item
	if n > 0 {
		first = p.like.items()[0]
	}
	if x, ok := p.q.First(); x != first || ok != (n > 0) {
		p.t.Fatalf("First: %+v, %v, want %+v, %v", x, ok, first, n > 0)
	}
	if n > p.like.frames || size > p.like.most {
		p.t.Fatalf("%d items of %d bytes, at most %d and %d", n, size, p.like.frames, p.like.most)
	}
}

// key looks at what was removed by Pop: an item that isn't Key comes right after the one that
// was put ahead of it.
func (p *pair) key() {
	p.t.Helper()
	before := -1
	for i, x := range p.popped {
		missed := slices.ContainsFunc(p.gone, func(n int) bool { return n > before && n < x.N })
		if (i == 0 || missed) && !x.Key {
			p.t.Fatalf("popped %+v, gone %v", p.popped, p.gone)
		}
		if x.N <= before {
			p.t.Fatalf("popped out of order: %+v", p.popped)
		}
		before = x.N
	}
}

// apart fails the test if what an earlier call returned was changed by a later one.
func (p *pair) apart() {
	p.t.Helper()
	for i := 0; i < len(p.dropped); i += 2 {
		if !slices.Equal(p.dropped[i], p.dropped[i+1]) {
			p.t.Fatalf("result changed: %+v, was %+v", p.dropped[i], p.dropped[i+1])
		}
	}
}

// is fails the test unless the queue is as said.
func is(t *testing.T, q *Queue, n, size int, broken bool) {
	t.Helper()
	if q.Len() != n || q.Size() != size || q.Broken() != broken {
		t.Errorf("Len, Size, Broken: %d, %d, %v, want %d, %d, %v", q.Len(), q.Size(), q.Broken(), n, size, broken)
	}
}

// put fails the test unless Put returns this; the items dropped are told by their numbers.
func put(t *testing.T, q *Queue, x Item, ok bool, dropped ...int) {
	t.Helper()
	l, accepted := q.Put(x)
	if accepted != ok || !slices.Equal(numbers(l), dropped) {
		t.Errorf("Put(%+v): %+v, %v, want %v, %v", x, l, accepted, dropped, ok)
	}
}

// pop fails the test unless First and Pop return the item with this number.
func pop(t *testing.T, q *Queue, n int) {
	t.Helper()
	first, there := q.First()
	x, ok := q.Pop()
	if first.N != n || x != first || !there || !ok {
		t.Errorf("First, Pop: %+v, %v, %+v, %v, want %d", first, there, x, ok, n)
	}
}

// none fails the test unless First and Pop return nothing.
func none(t *testing.T, q *Queue) {
	t.Helper()
	if x, ok := q.First(); x != (Item{}) || ok {
		t.Errorf("First: %+v, %v", x, ok)
	}
	if x, ok := q.Pop(); x != (Item{}) || ok {
		t.Errorf("Pop: %+v, %v", x, ok)
	}
}

// expire fails the test unless Expire drops the items with these numbers.
func expire(t *testing.T, q *Queue, now, age int, dropped ...int) {
	t.Helper()
	if l := q.Expire(now, age); !slices.Equal(numbers(l), dropped) {
		t.Errorf("Expire(%d, %d): %+v, want %v", now, age, l, dropped)
	}
}

func numbers(l []Item) []int {
	var numbers []int
	for _, x := range l {
		numbers = append(numbers, x.N)
	}
	return numbers
}

// key is an item that is Key, and other one that isn't.
func key(n, size int) Item   { return Item{N: n, Size: size, Tick: n, Key: true} }
func other(n, size int) Item { return Item{N: n, Size: size, Tick: n} }

// P18.1: each call.

func TestExampleOfTheDocument(t *testing.T) {
	q := made(t, 2, 100)
	put(t, q, key(1, 10), true)
	put(t, q, other(2, 10), true)
	put(t, q, other(3, 10), false, 1, 2)
	is(t, q, 0, 0, true)
}

func TestNew(t *testing.T) {
	for _, c := range []struct {
		frames, most int
		e            api.Errno
	}{
		{1, 1, api.OK},
		{1024, 1 << 24, api.OK},
		{30, 60000, api.OK},
		{0, 1, api.ErrArg},
		{-1, 1, api.ErrArg},
		{1025, 1, api.ErrArg},
		{math.MinInt, 1, api.ErrArg},
		{math.MaxInt, 1, api.ErrArg},
		{1, 0, api.ErrArg},
		{1, -1, api.ErrArg},
		{1, 1<<24 + 1, api.ErrArg},
		{1, math.MinInt, api.ErrArg},
		{1, math.MaxInt, api.ErrArg},
		{0, 0, api.ErrArg},
	} {
		q, e := New(c.frames, c.most)
		if e != c.e || (q == nil) != (e != api.OK) {
			t.Errorf("New(%d, %d): %v, %d, want %d", c.frames, c.most, q, e, c.e)
		}
		if q != nil {
			is(t, q, 0, 0, true)
			none(t, q)
			expire(t, q, maxTick, 0)
			put(t, q, other(1, 1), false)
			is(t, q, 0, 0, true)
		}
	}
}

func TestPopTellsAllOfAnItem(t *testing.T) {
	q := made(t, 4, 100)
	items := []Item{
		{N: math.MinInt, Size: 0, Tick: maxTick, Key: true},
		{N: math.MaxInt, Size: 60, Tick: 0},
		{N: 7, Size: 40, Tick: 5, Key: true},
		{},
	}
	for _, x := range items {
		put(t, q, x, true)
	}
	is(t, q, 4, 100, false)
	for _, x := range items {
		first, _ := q.First()
		if popped, ok := q.Pop(); first != x || popped != x || !ok {
			t.Errorf("First, Pop: %+v, %+v, %v, want %+v", first, popped, ok, x)
		}
	}
	is(t, q, 0, 0, false)
	none(t, q)
}

func TestWhatDependsOnAPoppedItemIsAccepted(t *testing.T) {
	q := made(t, 4, 100)
	put(t, q, key(1, 10), true)
	put(t, q, other(2, 10), true)
	pop(t, q, 1)
	is(t, q, 1, 10, false)
	pop(t, q, 2)
	is(t, q, 0, 0, false)
	put(t, q, other(3, 10), true)
	pop(t, q, 3)
	is(t, q, 0, 0, false)
}

func TestSizesOfPut(t *testing.T) {
	for _, c := range []struct {
		size int
		ok   bool
	}{
		{0, true}, {1, true}, {100, true},
		{101, false}, {-1, false}, {math.MinInt, false}, {math.MaxInt, false},
	} {
		for _, isKey := range []bool{true, false} {
			q := made(t, 8, 100)
			put(t, q, key(1, 0), true)
			put(t, q, Item{N: 2, Size: c.size, Key: isKey}, c.ok)
			// What waits stays, but a queue that missed an item is broken.
			n, size := 1, 0
			if c.ok {
				n, size = 2, c.size
			}
			is(t, q, n, size, !c.ok)
			pop(t, q, 1)
			put(t, q, other(3, 0), c.ok)
			is(t, q, 2*n-2, size, !c.ok)
		}
	}
}

func TestAnItemTooBigAndWhatFollows(t *testing.T) {
	q := made(t, 4, 10)
	put(t, q, key(1, 4), true)
	put(t, q, other(2, 11), false)
	is(t, q, 1, 4, true)
	put(t, q, other(3, 4), false)
	is(t, q, 1, 4, true)
	put(t, q, key(4, 4), true)
	is(t, q, 2, 8, false)
	pop(t, q, 1)
	pop(t, q, 4)
	none(t, q)
}

func TestPutWithoutRoom(t *testing.T) {
	for _, c := range []struct {
		frames, most int
		before       []Item
		x            Item
		ok           bool
		dropped      []int
		n, size      int
	}{
		// Too many items.
		{1, 10, []Item{key(1, 1)}, key(2, 1), true, []int{1}, 1, 1},
		{1, 10, []Item{key(1, 1)}, other(2, 1), false, []int{1}, 0, 0},
		{2, 10, []Item{key(1, 1), key(2, 2)}, other(3, 4), true, []int{1}, 2, 6},
		{2, 10, []Item{key(1, 1), other(2, 2)}, key(3, 4), true, []int{1, 2}, 1, 4},
		{3, 10, []Item{key(1, 1), other(2, 1), key(3, 1)}, other(4, 1), true, []int{1, 2}, 2, 2},
		{3, 10, []Item{key(1, 1), other(2, 1), other(3, 1)}, other(4, 1), false, []int{1, 2, 3}, 0, 0},
		// Too many bytes.
		{9, 10, []Item{key(1, 4), key(2, 4)}, key(3, 2), true, nil, 3, 10},
		{9, 10, []Item{key(1, 4), key(2, 4)}, key(3, 3), true, []int{1}, 2, 7},
		{9, 10, []Item{key(1, 4), key(2, 4)}, key(3, 6), true, []int{1}, 2, 10},
		{9, 10, []Item{key(1, 4), key(2, 4)}, key(3, 7), true, []int{1, 2}, 1, 7},
		{9, 10, []Item{key(1, 4), key(2, 4)}, other(3, 7), false, []int{1, 2}, 0, 0},
		{9, 10, []Item{key(1, 4), other(2, 4)}, key(3, 10), true, []int{1, 2}, 1, 10},
		{9, 10, []Item{key(1, 10)}, other(2, 0), true, nil, 2, 10},
		{9, 10, []Item{key(1, 10)}, other(2, 1), false, []int{1}, 0, 0},
		{9, 10, []Item{key(1, 0), key(2, 0), key(3, 10)}, key(4, 1), true, []int{1, 2, 3}, 1, 1},
		// Both.
		{2, 10, []Item{key(1, 1), key(2, 9)}, key(3, 2), true, []int{1, 2}, 1, 2},
	} {
		q := made(t, c.frames, c.most)
		for _, x := range c.before {
			put(t, q, x, true)
		}
		put(t, q, c.x, c.ok, c.dropped...)
		is(t, q, c.n, c.size, !c.ok)
		if t.Failed() {
			t.Fatalf("%+v", c)
		}
	}
}

func TestABrokenQueueDropsNothingForWhatIsNotKey(t *testing.T) {
	q := made(t, 1, 10)
	put(t, q, key(1, 5), true)
	put(t, q, key(2, 11), false)
	put(t, q, other(3, 6), false)
	is(t, q, 1, 5, true)
	put(t, q, key(4, 6), true, 1)
	is(t, q, 1, 6, false)
}

func TestDroppingAfterPop(t *testing.T) {
	q := made(t, 4, 100)
	for _, x := range []Item{key(1, 1), other(2, 1), other(3, 1), key(4, 1)} {
		put(t, q, x, true)
	}
	pop(t, q, 1)
	put(t, q, other(5, 1), true)
	put(t, q, other(6, 1), true, 2, 3)
	is(t, q, 3, 3, false)
	pop(t, q, 4)
	expire(t, q, 5, 0, 5, 6)
	is(t, q, 0, 0, true)
	put(t, q, other(7, 1), false)
}

func TestExpire(t *testing.T) {
	for _, c := range []struct {
		items    []Item
		now, age int
		dropped  []int
		broken   bool
	}{
		{nil, 9, 0, nil, true},
		{[]Item{key(5, 1)}, 9, 5, nil, false},
		{[]Item{key(5, 1)}, 10, 5, []int{5}, true},
		{[]Item{key(5, 1)}, 11, 5, []int{5}, true},
		{[]Item{key(5, 1)}, 5, 0, []int{5}, true},
		{[]Item{key(5, 1)}, 4, 0, nil, false},
		{[]Item{key(0, 1)}, maxTick, maxTick, []int{0}, true},
		{[]Item{key(0, 1)}, maxTick - 1, maxTick, nil, false},
		{[]Item{key(maxTick, 1)}, 0, 0, nil, false},
		{[]Item{key(maxTick, 1)}, maxTick, 0, []int{maxTick}, true},
		// What depends on the first one goes with it, however new it is.
		{[]Item{key(5, 1), other(9, 1)}, 10, 5, []int{5, 9}, true},
		{[]Item{key(5, 1), other(9, 1), key(9, 1)}, 10, 5, []int{5, 9}, false},
		{[]Item{key(5, 1), key(5, 1), key(6, 1)}, 10, 5, []int{5, 5}, false},
		{[]Item{key(5, 1), key(5, 1), other(6, 1)}, 10, 5, []int{5, 5, 6}, true},
		// Only the first one is looked at.
		{[]Item{key(6, 1), key(5, 1)}, 10, 5, nil, false},
		{[]Item{key(6, 1), other(5, 1)}, 10, 5, nil, false},
	} {
		q := made(t, 8, 100)
		for _, x := range c.items {
			put(t, q, x, true)
		}
		expire(t, q, c.now, c.age, c.dropped...)
		n := len(c.items) - len(c.dropped)
		is(t, q, n, n, c.broken)
		if t.Failed() {
			t.Fatalf("%+v", c)
		}
	}
}

func TestExpireOfNothingLeavesTheQueueAsItIs(t *testing.T) {
	q := made(t, 2, 10)
	put(t, q, key(1, 1), true)
	pop(t, q, 1)
	expire(t, q, maxTick, 0)
	is(t, q, 0, 0, false)
	put(t, q, key(2, 1), true)
	put(t, q, key(3, 11), false)
	expire(t, q, 0, 0)
	is(t, q, 1, 1, true)
}

func TestExpireOfABrokenQueue(t *testing.T) {
	q := made(t, 4, 10)
	put(t, q, key(1, 1), true)
	put(t, q, key(2, 1), true)
	put(t, q, key(3, 11), false)
	expire(t, q, 1, 0, 1)
	is(t, q, 1, 1, true)
}

func TestBreak(t *testing.T) {
	q := made(t, 4, 10)
	if l := q.Break(); len(l) != 0 {
		t.Errorf("Break: %+v", l)
	}
	is(t, q, 0, 0, true)
	put(t, q, key(1, 1), true)
	put(t, q, other(2, 1), true)
	put(t, q, key(3, 1), true)
	if l := q.Break(); !slices.Equal(l, []Item{key(1, 1), other(2, 1), key(3, 1)}) {
		t.Errorf("Break: %+v", l)
	}
	is(t, q, 0, 0, true)
	none(t, q)
	put(t, q, other(4, 1), false)
	put(t, q, key(5, 1), true)
	pop(t, q, 5)
	is(t, q, 0, 0, false)
	q.Break()
	is(t, q, 0, 0, true)
}

func TestResultsAreKept(t *testing.T) {
	q := made(t, 4, 100)
	fill := func(from int) {
		for n := from; n < from+4; n++ {
			q.Put(key(n, 1))
		}
	}
	fill(1)
	broken := q.Break()
	fill(10)
	expired := q.Expire(12, 1)
	fill(20)
	dropped, _ := q.Put(key(30, 99))
	fill(40)
	for _, c := range []struct{ is, should []int }{
		{numbers(broken), []int{1, 2, 3, 4}},
		{numbers(expired), []int{10, 11}},
		{numbers(dropped), []int{20, 21, 22}},
	} {
		if !slices.Equal(c.is, c.should) {
			t.Errorf("result: %v, want %v", c.is, c.should)
		}
	}
	// Nor does what is done to a result change the queue.
	clear(q.Break()[:1])
	fill(50)
	clear(q.Expire(50, 0))
	pop(t, q, 51)
}

func TestShortHistories(t *testing.T) {
	steps := []func(p *pair){
		func(p *pair) { p.put(1, 3, true) },
		func(p *pair) { p.put(1, 4, false) },
		func(p *pair) { p.put(2, 5, false) },
		func(p *pair) { p.put(4, 6, true) },
		func(p *pair) { p.put(5, 6, true) },
		func(p *pair) { p.pop() },
		func(p *pair) { p.expire(6, 2) },
		func(p *pair) { p.clear() },
	}
	const length = 6
	total := 1
	for range length {
		total *= len(steps)
	}
	for n := range total {
		p := newPair(t, 2+n%2, 4)
		for k, i := n, 0; i < length; k, i = k/len(steps), i+1 {
			steps[k%len(steps)](p)
			p.same()
		}
		p.key()
		p.apart()
	}
}

func TestRandomCalls(t *testing.T) {
	for seed := range 300 {
		r := rand.New(rand.NewSource(int64(seed)))
		p := newPair(t, 1+r.Intn(12), 1+r.Intn(200))
		now := 0
		for range 300 {
			now += r.Intn(3)
			switch n := r.Intn(40); {
			case n < 24:
				p.put(r.Intn(p.like.most/3+2), now, r.Intn(4) == 0)
			case n == 24:
				p.put(p.like.most+1+r.Intn(3), now, r.Intn(2) == 0)
			case n == 25:
				p.put(-1-r.Intn(3), now, r.Intn(2) == 0)
			case n < 36:
				p.pop()
			case n < 39:
				p.expire(now, r.Intn(12))
			default:
				p.clear()
			}
			p.same()
		}
		p.key()
		p.apart()
	}
}

func TestOddTicks(t *testing.T) {
	ticks := []int{math.MinInt, -1, 0, 1, maxTick, math.MaxInt}
	for _, tick := range ticks {
		for _, now := range ticks {
			for _, age := range ticks {
				q := made(t, 2, 10)
				q.Put(Item{Size: 1, Tick: tick, Key: true})
				q.Expire(now, age) // ends, and does not panic
				if n := q.Len(); n > 1 || q.Size() != n {
					t.Errorf("%d items of %d bytes", n, q.Size())
				}
			}
		}
	}
}

// P18.2: never too many items, nor too many bytes.

func TestCaps(t *testing.T) {
	for _, c := range []struct{ frames, most, size int }{
		{1, 1 << 24, 0},
		{1024, 1 << 24, 0},
		{1024, 1 << 24, 1 << 14},
		{1024, 1 << 24, 1<<14 + 1},
		{1024, 1 << 24, 1 << 24},
		{1024, 1, 1},
		{3, 10, 5},
	} {
		q := made(t, c.frames, c.most)
		reached := 0
		for n := range 3000 {
			q.Put(Item{N: n, Size: c.size, Tick: n, Key: n%5 == 0})
			if q.Len() > c.frames || q.Size() > c.most || q.Size() != q.Len()*c.size {
				t.Fatalf("%+v: %d items of %d bytes", c, q.Len(), q.Size())
			}
			reached = max(reached, q.Len())
		}
		fit := c.frames
		if c.size > 0 {
			fit = min(fit, c.most/c.size)
		}
		if reached != fit {
			t.Errorf("%+v: at most %d items, want %d", c, reached, fit)
		}
	}
}

// P18.3: what is sent starts with a Key item, and after each one that is missing comes a Key one.

func TestKey(t *testing.T) {
	p := newPair(t, 3, 10)
	p.put(1, 0, false) // 0 is not accepted
	p.put(1, 1, true)
	p.put(1, 2, false)
	p.pop()
	p.put(1, 3, false)
	p.put(1, 4, false)
	p.put(1, 5, false) // 2 to 4 are dropped, 5 is not accepted
	p.put(1, 6, false)
	p.put(1, 7, true)
	p.put(11, 8, true) // not accepted
	p.put(1, 9, false)
	p.put(1, 10, true)
	p.put(1, 11, false)
	for range 4 {
		p.pop()
	}
	p.key()
	var l []int
	for _, x := range p.popped {
		l = append(l, x.N)
	}
	if should := []int{1, 7, 10, 11}; !slices.Equal(l, should) {
		t.Errorf("popped %v, want %v", l, should)
	}
}
