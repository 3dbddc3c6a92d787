package egress

import (
	"cmp"
	"math"
	"math/rand"
	"slices"
	"strconv"
	"strings"
	"testing"

	"antiphon/api"
	"antiphon/drr"
	"antiphon/queue"
)

// one is a flow of a model.
type one struct {
	*queue.Queue
	id    int
	video bool
}

// model is an outlet by the document's words, with its flows in the order of their numbers.
type model struct {
	c      Config
	flows  []one
	sched  *drr.Sched
	credit int
	row    int
}

func newModel(c Config) *model {
	s, _ := drr.New(c.Most)
	return &model{c: c, sched: s}
}

// find is where a flow is, or -1.
func (m *model) find(id int) int {
	return slices.IndexFunc(m.flows, func(f one) bool { return f.id == id })
}

func (m *model) add(id int, video bool, share int) api.Errno {
	if m.find(id) >= 0 {
		return api.ErrThere
	}
	if video {
		if e := m.sched.Add(id, share); e != api.OK {
			return e
		}
	}
	q, _ := queue.New(m.c.Frames, m.c.Bytes)
	m.flows = append(m.flows, one{q, id, video})
	slices.SortFunc(m.flows, func(f, g one) int { return cmp.Compare(f.id, g.id) })
	return api.OK
}

func (m *model) remove(id int) ([]Sent, api.Errno) {
	i := m.find(id)
	if i < 0 {
		return nil, api.ErrNone
	}
	l := m.clear(id)
	if m.flows[i].video {
		m.sched.Remove(id)
	}
	m.flows = slices.Delete(m.flows, i, i+1)
	return l, api.OK
}

func (m *model) clear(id int) []Sent {
	if i := m.find(id); i >= 0 {
		return all(id, m.flows[i].Break())
	}
	return nil
}

func (m *model) put(id int, x queue.Item) ([]Sent, bool) {
	i := m.find(id)
	if i < 0 || x.Size > m.c.Most {
		return nil, false
	}
	if !m.flows[i].video {
		x.Key = true
	}
	l, ok := m.flows[i].Put(x)
	return all(id, l), ok
}

// next is where the next flow is, or -1.
func (m *model) next() int {
	next, lowest := -1, 0
	var heads []drr.Head
	for i, f := range m.flows {
		switch x, ok := f.First(); {
		case ok && f.video:
			heads = append(heads, drr.Head{Id: f.id, Size: x.Size})
		case ok && (next < 0 || x.Tick < lowest):
			next, lowest = i, x.Tick
		}
	}
	if next >= 0 && m.row < m.c.Guard || next >= 0 && len(heads) == 0 {
		return next
	}
	if id, ok := m.sched.Choose(heads...); ok {
		return m.find(id)
	}
	return -1
}

func (m *model) run() []Sent {
	var l []Sent
	for {
		i := m.next()
		if i < 0 {
			return l
		}
		f := m.flows[i]
		if x, _ := f.First(); x.Size > m.credit {
			return l
		}
		x, _ := f.Pop()
		m.credit -= x.Size
		m.row++
		if f.video {
			m.sched.Take(x.Size)
			m.row = 0
		}
		l = append(l, Sent{f.id, x})
	}
}

func (m *model) tick(now int) []Sent {
	var l []Sent
	for _, f := range m.flows {
		l = append(l, all(f.id, f.Expire(now, m.c.Age))...)
	}
	return l
}

func all(id int, items []queue.Item) []Sent {
	var l []Sent
	for _, x := range items {
		l = append(l, Sent{id, x})
	}
	return l
}

// pair is an outlet beside its model, and what waits by what the calls told.
type pair struct {
	t    *testing.T
	o    *Out
	like *model

	puts    int
	video   map[int]bool // of the flows that there are
	waiting map[int][]queue.Item
	granted int // less what was lost above MaxCredit
	sent    int // bytes, with those that were spent
	row     int // how many sounds were sent while pictures waited, since the last picture
	longest int // of all rows
	results [][]Sent
}

func newPair(t *testing.T, c Config) *pair {
	t.Helper()
	return &pair{t: t, o: made(t, c), like: newModel(c), video: map[int]bool{}, waiting: map[int][]queue.Item{}}
}

// made is a new outlet, which may be.
func made(t *testing.T, c Config) *Out {
	t.Helper()
	o, e := New(c)
	if e != api.OK || o == nil {
		t.Fatalf("New(%+v): %v, %d", c, o, e)
	}
	return o
}

// told fails the test unless a call returned this; what it returned must not change later.
func (p *pair) told(call string, l, should []Sent) {
	p.t.Helper()
	if !slices.Equal(l, should) {
		p.t.Fatalf("%s: %+v, want %+v", call, l, should)
	}
	p.results = append(p.results, l, slices.Clone(l))
}

// leave takes what was dropped from what waits.
func (p *pair) leave(l []Sent) {
	p.t.Helper()
	for _, x := range l {
		w := p.waiting[x.Id]
		i := slices.Index(w, x.Item)
		if i != 0 {
			p.t.Fatalf("%+v left, %+v wait", x, w)
		}
		p.waiting[x.Id] = slices.Delete(w, i, i+1)
	}
}

func (p *pair) add(id int, video bool, share int) {
	p.t.Helper()
	e := p.o.Add(id, video, share)
	if should := p.like.add(id, video, share); e != should {
		p.t.Fatalf("Add(%d, %v, %d): %d, want %d", id, video, share, e, should)
	}
	if e == api.OK {
		p.video[id] = video
	}
}

func (p *pair) remove(id int) {
	p.t.Helper()
	l, e := p.o.Remove(id)
	should, want := p.like.remove(id)
	if e != want {
		p.t.Fatalf("Remove(%d): %d, want %d", id, e, want)
	}
	p.told("Remove", l, should)
	p.leave(l)
	if len(p.waiting[id]) > 0 {
		p.t.Fatalf("Remove(%d): %+v, and not %+v", id, l, p.waiting[id])
	}
	delete(p.video, id)
	p.noPictures()
}

func (p *pair) clear(id int) {
	p.t.Helper()
	l := p.o.Break(id)
	p.told("Break", l, p.like.clear(id))
	p.leave(l)
	if len(p.waiting[id]) > 0 {
		p.t.Fatalf("Break(%d): %+v, and not %+v", id, l, p.waiting[id])
	}
	p.noPictures()
}

func (p *pair) put(id, size, tick int, key bool) bool {
	p.t.Helper()
	x := queue.Item{N: p.puts, Size: size, Tick: tick, Key: key}
	p.puts++
	l, ok := p.o.Put(id, x)
	should, want := p.like.put(id, x)
	if ok != want {
		p.t.Fatalf("Put(%d, %+v): %v, want %v", id, x, ok, want)
	}
	p.told("Put", l, should)
	p.leave(l)
	if ok {
		x.Key = x.Key || !p.video[id]
		p.waiting[id] = append(p.waiting[id], x)
	}
	p.noPictures()
	return ok
}

func (p *pair) grant(n int) {
	p.t.Helper()
	before := p.o.Credit()
	p.o.Grant(n)
	p.granted += p.o.Credit() - before
	if n > 0 {
		p.like.credit = min(p.like.credit+min(n, 1<<40), 1<<40)
	}
}

func (p *pair) spend(n int) {
	p.t.Helper()
	ok := p.o.Spend(n)
	if should := n >= 0 && n <= p.like.credit; ok != should {
		p.t.Fatalf("Spend(%d): %v, want %v", n, ok, should)
	}
	if ok {
		p.like.credit -= n
		p.sent += n
	}
}

func (p *pair) run() []Sent {
	p.t.Helper()
	l := p.o.Run()
	p.told("Run", l, p.like.run())
	for _, x := range l {
		p.sends(x)
	}
	return l
}

// sends looks at the guard (P20.2).
func (p *pair) sends(x Sent) {
	p.t.Helper()
	switch {
	case p.video[x.Id]:
		p.row = 0
	case p.pictures():
		p.row++
	}
	p.longest = max(p.longest, p.row)
	if p.row > p.like.c.Guard {
		p.t.Fatalf("%d sounds in a row while pictures wait, at most %d", p.row, p.like.c.Guard)
	}
	p.leave([]Sent{x})
	p.noPictures()
	p.sent += x.Item.Size
}

// pictures: do any wait?
func (p *pair) pictures() bool {
	for id, l := range p.waiting {
		if p.video[id] && len(l) > 0 {
			return true
		}
	}
	return false
}

// noPictures ends a row of sounds if no pictures wait.
func (p *pair) noPictures() {
	if !p.pictures() {
		p.row = 0
	}
}

func (p *pair) tick(now int) {
	p.t.Helper()
	l := p.o.Tick(now)
	p.told("Tick", l, p.like.tick(now))
	p.leave(l)
	p.noPictures()
}

// young looks at the age of what waits after a Tick (P20.4).
func (p *pair) young(now int) {
	p.t.Helper()
	for id, l := range p.waiting {
		for _, x := range l {
			if x.Tick <= now-p.like.c.Age {
				p.t.Fatalf("Tick(%d): %+v of flow %d still waits, age %d", now, x, id, p.like.c.Age)
			}
		}
	}
}

// same looks at all that the outlet says without a change, and at the credit (P20.3).
func (p *pair) same(ids ...int) {
	p.t.Helper()
	for _, id := range ids {
		n, size := p.o.Waits(id)
		sum := 0
		for _, x := range p.waiting[id] {
			sum += x.Size
		}
		if n != len(p.waiting[id]) || size != sum {
			p.t.Fatalf("Waits(%d): %d, %d, want %+v", id, n, size, p.waiting[id])
		}
		i := p.like.find(id)
		if should := i >= 0 && p.like.flows[i].Broken(); p.o.Broken(id) != should {
			p.t.Fatalf("Broken(%d): %v", id, !should)
		}
	}
	if p.o.Credit() != p.like.credit || p.o.Credit() != p.granted-p.sent || p.sent > p.granted {
		p.t.Fatalf("Credit: %d, want %d; sent %d of %d", p.o.Credit(), p.like.credit, p.sent, p.granted)
	}
}

// apart fails the test if what an earlier call returned was changed by a later one.
func (p *pair) apart() {
	p.t.Helper()
	for i := 0; i < len(p.results); i += 2 {
		if !slices.Equal(p.results[i], p.results[i+1]) {
			p.t.Fatalf("result changed: %+v, was %+v", p.results[i], p.results[i+1])
		}
	}
}

// plain has room for all that a test puts.
var plain = Config{Frames: 1024, Bytes: 1 << 24, Age: 10, Most: 10, Guard: 2}

// filled has two flows of sounds, 1 and 2, and two of pictures, 3 and 4, with shares of 10 and 20.
func filled(t *testing.T, c Config) *Out {
	t.Helper()
	o := made(t, c)
	for _, e := range []api.Errno{o.Add(1, false, 0), o.Add(2, false, 0), o.Add(3, true, 10), o.Add(4, true, 20)} {
		if e != api.OK {
			t.Fatalf("Add: %d", e)
		}
	}
	return o
}

// item is one that is Key.
func item(n, size, tick int) queue.Item {
	return queue.Item{N: n, Size: size, Tick: tick, Key: true}
}

// put fails the test unless all these items are accepted, and nothing is dropped for them.
func put(t *testing.T, o *Out, id int, items ...queue.Item) {
	t.Helper()
	for _, x := range items {
		if l, ok := o.Put(id, x); len(l) > 0 || !ok {
			t.Errorf("Put(%d, %+v): %+v, %v", id, x, l, ok)
		}
	}
}

// fill puts so many items of a size, whose numbers are those from 0.
func fill(t *testing.T, o *Out, id, n, size int) {
	t.Helper()
	for i := range n {
		put(t, o, id, item(i, size, 0))
	}
}

// runs fails the test unless Run sends this: flow:number, of each.
func runs(t *testing.T, o *Out, should string) {
	t.Helper()
	is(t, "Run", o.Run(), should)
}

func is(t *testing.T, call string, l []Sent, should string) {
	t.Helper()
	var words []string
	for _, x := range l {
		words = append(words, strconv.Itoa(x.Id)+":"+strconv.Itoa(x.Item.N))
	}
	if s := strings.Join(words, " "); s != should {
		t.Errorf("%s: %s, want %s", call, s, should)
	}
}

// flows fails the test unless Run sends items of these flows.
func flows(t *testing.T, o *Out, should ...int) {
	t.Helper()
	var l []int
	for _, x := range o.Run() {
		l = append(l, x.Id)
	}
	if !slices.Equal(l, should) {
		t.Errorf("Run: %v, want %v", l, should)
	}
}

// waits fails the test unless so many items and bytes wait, in a queue that is broken or not.
func waits(t *testing.T, o *Out, id, n, size int, broken bool) {
	t.Helper()
	if count, bytes := o.Waits(id); count != n || bytes != size || o.Broken(id) != broken {
		t.Errorf("flow %d: Waits %d, %d, Broken %v, want %d, %d, %v", id, count, bytes, o.Broken(id), n, size, broken)
	}
}

// P20.1: each call.

func TestExampleOfTheDocument(t *testing.T) {
	o := filled(t, plain)
	fill(t, o, 1, 3, 1)
	fill(t, o, 3, 1, 1)
	o.Grant(4)
	runs(t, o, "1:0 1:1 3:0 1:2")
}

func TestConfigs(t *testing.T) {
	if MaxCredit != 1099511627776 {
		t.Errorf("MaxCredit: %d", MaxCredit)
	}
	for _, c := range []struct {
		c Config
		e api.Errno
	}{
		{Config{1, 1, 1, 1, 1}, api.OK},
		{Config{1024, 1 << 24, 1 << 40, 1 << 24, 1024}, api.OK},
		{Config{30, 60000, 50, 1500, 4}, api.OK},
		{Config{}, api.ErrArg},
		{Config{0, 1, 1, 1, 1}, api.ErrArg},
		{Config{1025, 1, 1, 1, 1}, api.ErrArg},
		{Config{-1, 1, 1, 1, 1}, api.ErrArg},
		{Config{1, 0, 1, 1, 1}, api.ErrArg},
		{Config{1, 1<<24 + 1, 1, 1, 1}, api.ErrArg},
		{Config{1, math.MinInt, 1, 1, 1}, api.ErrArg},
		{Config{1, 1, 0, 1, 1}, api.ErrArg},
		{Config{1, 1, 1<<40 + 1, 1, 1}, api.ErrArg},
		{Config{1, 1, -1, 1, 1}, api.ErrArg},
		{Config{1, 1, 1, 0, 1}, api.ErrArg},
		{Config{1, 1, 1, 1<<24 + 1, 1}, api.ErrArg},
		{Config{1, 1, 1, math.MaxInt, 1}, api.ErrArg},
		{Config{1, 1, 1, 1, 0}, api.ErrArg},
		{Config{1, 1, 1, 1, 1025}, api.ErrArg},
		{Config{1, 1, 1, 1, -1}, api.ErrArg},
	} {
		if e := c.c.Check(); e != c.e {
			t.Errorf("Check(%+v): %d, want %d", c.c, e, c.e)
		}
		o, e := New(c.c)
		if e != c.e || (o == nil) != (e != api.OK) {
			t.Errorf("New(%+v): %v, %d, want %d", c.c, o, e, c.e)
		}
		if o != nil && o.Config != c.c {
			t.Errorf("New(%+v): %+v", c.c, o.Config)
		}
	}
}

func TestAnOutletWithoutFlows(t *testing.T) {
	o := made(t, plain)
	if o.Credit() != 0 {
		t.Errorf("Credit: %d", o.Credit())
	}
	o.Grant(5)
	runs(t, o, "")
	is(t, "Tick", o.Tick(api.MaxTick), "")
	noFlow(t, o, 0)
	noFlow(t, o, 1)
	if o.Credit() != 5 {
		t.Errorf("Credit: %d", o.Credit())
	}
}

// noFlow fails the test unless each call says that there is no such flow.
func noFlow(t *testing.T, o *Out, id int) {
	t.Helper()
	if l, e := o.Remove(id); len(l) > 0 || e != api.ErrNone {
		t.Errorf("Remove(%d): %+v, %d", id, l, e)
	}
	is(t, "Break", o.Break(id), "")
	if l, ok := o.Put(id, item(1, 1, 1)); len(l) > 0 || ok {
		t.Errorf("Put(%d): %+v, %v", id, l, ok)
	}
	waits(t, o, id, 0, 0, false)
}

func TestAdd(t *testing.T) {
	o := made(t, plain)
	for _, c := range []struct {
		id    int
		video bool
		share int
		e     api.Errno
	}{
		{1, false, 0, api.OK},
		{1, false, 0, api.ErrThere},
		{1, true, 10, api.ErrThere},
		{1, true, 9, api.ErrThere}, // both apply: this one is named first
		{2, true, 9, api.ErrArg},
		{2, true, -1, api.ErrArg},
		{2, true, 1<<24 + 1, api.ErrArg},
		{2, true, 10, api.OK},
		{2, true, 10, api.ErrThere},
		{2, true, 9, api.ErrThere},
		{2, false, 0, api.ErrThere},
		{3, true, 1 << 24, api.OK},
		{4, false, math.MinInt, api.OK}, // sounds have no share
		{5, false, math.MaxInt, api.OK},
		{0, true, 10, api.OK},
		{-1, false, 0, api.OK},
		{math.MinInt, true, 10, api.OK},
		{math.MaxInt, true, 10, api.OK},
	} {
		if e := o.Add(c.id, c.video, c.share); e != c.e {
			t.Errorf("Add(%d, %v, %d): %d, want %d", c.id, c.video, c.share, e, c.e)
		}
		if c.e == api.OK {
			waits(t, o, c.id, 0, 0, true)
		}
		if c.e == api.ErrArg {
			noFlow(t, o, c.id)
		}
	}
}

func TestAddOfAFlowThatIsThereChangesNothing(t *testing.T) {
	o := filled(t, plain)
	fill(t, o, 1, 1, 1)
	fill(t, o, 3, 1, 1)
	o.Add(1, true, 10)
	o.Add(3, false, 0)
	waits(t, o, 1, 1, 1, false)
	waits(t, o, 3, 1, 1, false)
	// The kinds are those of the first time.
	if _, ok := o.Put(1, queue.Item{N: 1, Size: 1}); !ok {
		t.Error("Put: a sound that is not Key")
	}
	o.Grant(3)
	runs(t, o, "1:0 1:1 3:0")
}

func TestRemove(t *testing.T) {
	o := filled(t, plain)
	put(t, o, 1, item(1, 1, 0), item(2, 2, 0))
	put(t, o, 3, item(3, 3, 0), queue.Item{N: 4, Size: 4}, item(5, 5, 0))
	put(t, o, 4, item(6, 6, 0))
	for _, c := range []struct {
		id     int
		should string
	}{{3, "3:3 3:4 3:5"}, {1, "1:1 1:2"}, {2, ""}} {
		l, e := o.Remove(c.id)
		if e != api.OK {
			t.Errorf("Remove(%d): %d", c.id, e)
		}
		is(t, "Remove", l, c.should)
		noFlow(t, o, c.id)
	}
	o.Grant(20)
	runs(t, o, "4:6")
}

func TestAFlowThatCameBack(t *testing.T) {
	o := filled(t, plain)
	fill(t, o, 1, 1, 1)
	fill(t, o, 3, 1, 1)
	o.Remove(1)
	o.Remove(3)
	// The numbers are free, in the schedule too, and for the other kind.
	if e := o.Add(1, true, 10); e != api.OK {
		t.Errorf("Add: %d", e)
	}
	if e := o.Add(3, true, 10); e != api.OK {
		t.Errorf("Add: %d", e)
	}
	waits(t, o, 1, 0, 0, true)
	waits(t, o, 3, 0, 0, true)
	o.Remove(1)
	if e := o.Add(1, false, 10); e != api.OK {
		t.Errorf("Add: %d", e)
	}
	put(t, o, 1, queue.Item{N: 7})
	if _, ok := o.Put(3, queue.Item{N: 8}); ok {
		t.Error("Put: a picture that is not Key is first")
	}
	runs(t, o, "1:7")
}

func TestRemoveTakesTheBalance(t *testing.T) {
	o := filled(t, plain)
	fill(t, o, 3, 3, 5)
	fill(t, o, 4, 6, 10)
	o.Grant(20)
	flows(t, o, 3, 3, 4) // 10 are left of flow 4
	o.Remove(4)
	o.Add(4, true, 20)
	fill(t, o, 4, 6, 10)
	o.Grant(100)
	flows(t, o, 4, 4, 3, 4, 4, 4, 4)
}

func TestBreak(t *testing.T) {
	o := filled(t, plain)
	put(t, o, 1, item(1, 1, 0))
	put(t, o, 3, item(2, 1, 0), queue.Item{N: 3, Size: 1})
	put(t, o, 4, item(4, 1, 0))
	is(t, "Break", o.Break(3), "3:2 3:3")
	waits(t, o, 3, 0, 0, true)
	is(t, "Break", o.Break(3), "")
	is(t, "Break", o.Break(5), "")
	is(t, "Break", o.Break(1), "1:1")
	waits(t, o, 1, 0, 0, true)
	waits(t, o, 4, 1, 1, false)
	if l, ok := o.Put(3, queue.Item{N: 5}); len(l) > 0 || ok {
		t.Errorf("Put: %+v, %v", l, ok)
	}
	put(t, o, 3, item(6, 0, 0))
	put(t, o, 1, queue.Item{N: 7})
	o.Grant(1)
	runs(t, o, "1:7 3:6 4:4")
}

func TestPutOfSizes(t *testing.T) {
	for _, c := range []struct {
		bytes, size int
		ok, broken  bool
	}{
		{100, 0, true, false},
		{100, 10, true, false},
		{5, 5, true, false},
		// Above Most: as if nothing was put.
		{100, 11, false, false},
		{100, 101, false, false},
		{5, 11, false, false},
		{100, math.MaxInt, false, false},
		// Above what the queue takes, or below 0: the queue is broken.
		{5, 6, false, true},
		{5, 10, false, true},
		{100, -1, false, true},
		{100, math.MinInt, false, true},
	} {
		for _, x := range []Sent{
			{1, queue.Item{N: 1, Size: c.size}},
			{1, queue.Item{N: 1, Size: c.size, Key: true}},
			{3, queue.Item{N: 1, Size: c.size}},
			{3, queue.Item{N: 1, Size: c.size, Key: true}},
		} {
			o := filled(t, Config{Frames: 9, Bytes: c.bytes, Age: 10, Most: 10, Guard: 2})
			put(t, o, x.Id, item(0, 0, 0))
			if l, ok := o.Put(x.Id, x.Item); len(l) > 0 || ok != c.ok {
				t.Errorf("Put(%+v): %+v, %v, want %v", x, l, ok, c.ok)
			}
			if c.ok {
				waits(t, o, x.Id, 2, c.size, false)
			} else {
				waits(t, o, x.Id, 1, 0, c.broken)
			}
		}
	}
}

func TestAPictureTooGreatIsRefusedByItself(t *testing.T) {
	o := filled(t, plain)
	// A queue that is broken stays so.
	if _, ok := o.Put(3, item(1, 11, 0)); ok || !o.Broken(3) {
		t.Errorf("Put: %v, Broken: %v", ok, o.Broken(3))
	}
	put(t, o, 3, item(2, 1, 0))
	if l, ok := o.Put(3, queue.Item{N: 3, Size: 11}); len(l) > 0 || ok {
		t.Errorf("Put: %+v, %v", l, ok)
	}
	waits(t, o, 3, 1, 1, false)
	put(t, o, 3, queue.Item{N: 4, Size: 1})
	o.Grant(2)
	runs(t, o, "3:2 3:4")
}

func TestASoundIsAlwaysKey(t *testing.T) {
	o := filled(t, Config{Frames: 2, Bytes: 100, Age: 10, Most: 10, Guard: 2})
	x := queue.Item{N: 1, Size: 2, Tick: 3}
	put(t, o, 1, x, x)
	// One makes place for the next one: none depends on another.
	x.Key = true
	for range 3 {
		if l, ok := o.Put(1, queue.Item{N: 1, Size: 2, Tick: 3}); !slices.Equal(l, []Sent{{1, x}}) || !ok {
			t.Errorf("Put: %+v, %v", l, ok)
		}
	}
	o.Grant(2)
	if l := o.Run(); !slices.Equal(l, []Sent{{1, x}}) {
		t.Errorf("Run: %+v", l)
	}
	if l := o.Break(1); !slices.Equal(l, []Sent{{1, x}}) {
		t.Errorf("Break: %+v", l)
	}
}

func TestPutTellsWhatIsDropped(t *testing.T) {
	o := filled(t, Config{Frames: 2, Bytes: 100, Age: 10, Most: 10, Guard: 2})
	put(t, o, 4, item(1, 1, 0), queue.Item{N: 2, Size: 1})
	put(t, o, 3, item(1, 1, 0))
	// What is dropped is told, accepted or not.
	l, ok := o.Put(4, queue.Item{N: 3, Size: 1})
	is(t, "Put", l, "4:1 4:2")
	waits(t, o, 4, 0, 0, true)
	if ok {
		t.Error("Put: accepted")
	}
	put(t, o, 4, item(4, 1, 0), item(5, 1, 0))
	l, ok = o.Put(4, item(6, 1, 0))
	is(t, "Put", l, "4:4")
	if !ok {
		t.Error("Put: not accepted")
	}
	waits(t, o, 4, 2, 2, false)
	waits(t, o, 3, 1, 1, false)
}

func TestWhatIsPutIsSentWhole(t *testing.T) {
	o := filled(t, plain)
	items := []queue.Item{item(math.MinInt, 10, api.MaxTick), {N: math.MaxInt}, item(7, 3, 5)}
	put(t, o, 3, items...)
	o.Grant(13)
	if l := o.Run(); !slices.Equal(l, all(3, items)) {
		t.Errorf("Run: %+v", l)
	}
	waits(t, o, 3, 0, 0, false)
}

func TestGrant(t *testing.T) {
	for _, c := range []struct{ before, n, credit int }{
		{0, 0, 0},
		{0, 7, 7},
		{7, 5, 12},
		{7, 0, 7},
		{7, -1, 7},
		{7, -7, 7},
		{7, math.MinInt, 7},
		{0, 1 << 40, 1 << 40},
		{0, 1<<40 + 1, 1 << 40},
		{0, math.MaxInt, 1 << 40},
		{7, 1<<40 - 8, 1<<40 - 1},
		{7, 1<<40 - 7, 1 << 40},
		{7, 1<<40 - 6, 1 << 40},
		{1 << 40, 1, 1 << 40},
		{1 << 40, 1 << 40, 1 << 40},
		{1 << 40, math.MaxInt, 1 << 40},
		{1 << 40, -1, 1 << 40},
		{1 << 40, math.MinInt, 1 << 40},
	} {
		o := made(t, plain)
		o.Grant(c.before)
		o.Grant(c.n)
		if o.Credit() != c.credit {
			t.Errorf("Grant(%d), Grant(%d): %d, want %d", c.before, c.n, o.Credit(), c.credit)
		}
	}
}

func TestSpend(t *testing.T) {
	o := made(t, plain)
	o.Grant(10)
	for _, c := range []struct {
		n      int
		ok     bool
		credit int
	}{
		{11, false, 10},
		{-1, false, 10},
		{math.MaxInt, false, 10},
		{math.MinInt, false, 10},
		{0, true, 10},
		{4, true, 6},
		{7, false, 6},
		{6, true, 0},
		{0, true, 0},
		{1, false, 0},
	} {
		if ok := o.Spend(c.n); ok != c.ok || o.Credit() != c.credit {
			t.Errorf("Spend(%d): %v, %d, want %v, %d", c.n, ok, o.Credit(), c.ok, c.credit)
		}
	}
}

func TestTheOldestSoundGoesFirst(t *testing.T) {
	o := made(t, plain)
	ids := []int{5, 2, -9, math.MaxInt, math.MinInt, 0}
	for _, id := range ids {
		o.Add(id, false, 0)
	}
	put(t, o, 5, item(1, 1, 3), item(2, 1, 3), item(3, 1, 9))
	put(t, o, 2, item(4, 1, 3), item(5, 1, 4))
	put(t, o, math.MaxInt, item(6, 1, 0), item(7, 1, api.MaxTick))
	put(t, o, math.MinInt, item(8, 1, api.MaxTick), item(9, 1, 0))
	put(t, o, 0, item(10, 1, 3))
	o.Grant(100)
	l := o.Run()
	var numbers []int
	for _, x := range l {
		numbers = append(numbers, x.Item.N)
	}
	// Of equal ticks, the lowest number; only the first item of each flow counts.
	if should := []int{6, 10, 4, 1, 2, 5, 3, 8, 9, 7}; !slices.Equal(numbers, should) {
		t.Errorf("Run: %v, want %v", numbers, should)
	}
}

func TestSoundsGoAheadOfPictures(t *testing.T) {
	for _, c := range []struct {
		guard, sounds, pictures int
		should                  []int
	}{
		{1, 3, 2, []int{1, 3, 1, 3, 1}},
		{2, 3, 2, []int{1, 1, 3, 1, 3}},
		{3, 3, 2, []int{1, 1, 1, 3, 3}},
		{4, 3, 2, []int{1, 1, 1, 3, 3}},
		{1, 1, 3, []int{1, 3, 3, 3}},
		{1, 4, 1, []int{1, 3, 1, 1, 1}},
		{2, 5, 0, []int{1, 1, 1, 1, 1}},
		{2, 0, 2, []int{3, 3}},
	} {
		c2 := plain
		c2.Guard = c.guard
		o := filled(t, c2)
		// The ticks of the pictures, which are lower, do not count.
		fill(t, o, 3, c.pictures, 1)
		for n := range c.sounds {
			put(t, o, 1, item(n, 1, 9))
		}
		o.Grant(100)
		flows(t, o, c.should...)
		if t.Failed() {
			t.Fatalf("%+v", c)
		}
	}
}

func TestTheRowGoesOnFromRunToRun(t *testing.T) {
	o := filled(t, plain)
	fill(t, o, 1, 9, 1)
	fill(t, o, 3, 9, 1)
	for _, id := range []int{1, 1, 3, 1, 1, 3, 1} {
		o.Grant(1)
		flows(t, o, id)
	}
}

func TestSoundsInARowBeforeAPicture(t *testing.T) {
	// Sounds that were sent while no pictures waited are in the row.
	o := filled(t, plain)
	fill(t, o, 1, 4, 0)
	fill(t, o, 2, 1, 0)
	flows(t, o, 1, 1, 1, 1, 2)
	fill(t, o, 1, 3, 0)
	fill(t, o, 3, 2, 0)
	flows(t, o, 3, 1, 1, 3, 1)
}

func TestOnlyAPictureEndsTheRow(t *testing.T) {
	o := filled(t, plain)
	fill(t, o, 1, 2, 0)
	flows(t, o, 1, 1)
	// None of these is one that is sent.
	fill(t, o, 3, 1, 0)
	o.Break(3)
	fill(t, o, 4, 1, 1)
	o.Tick(10)
	o.Remove(4)
	flows(t, o)
	o.Grant(5)
	o.Spend(5)
	fill(t, o, 1, 1, 0)
	fill(t, o, 3, 1, 1)
	flows(t, o)
	o.Grant(1)
	flows(t, o, 3, 1)
}

func TestPicturesByTheirShares(t *testing.T) {
	o := filled(t, plain)
	fill(t, o, 3, 4, 10)
	fill(t, o, 4, 4, 10)
	o.Grant(1000)
	flows(t, o, 3, 4, 4, 3, 4, 4, 3, 3)
}

func TestCreditEndsARun(t *testing.T) {
	o := filled(t, plain)
	fill(t, o, 3, 3, 10)
	o.Grant(9)
	runs(t, o, "")
	o.Grant(1)
	runs(t, o, "3:0")
	o.Grant(19)
	runs(t, o, "3:1")
	if o.Credit() != 9 {
		t.Errorf("Credit: %d", o.Credit())
	}
	o.Grant(5)
	runs(t, o, "3:2")
	if o.Credit() != 4 {
		t.Errorf("Credit: %d", o.Credit())
	}
}

func TestNothingGoesAheadOfWhatIsNext(t *testing.T) {
	// A sound that is too great for the credit holds up all others.
	o := filled(t, plain)
	put(t, o, 2, item(0, 5, 0))
	put(t, o, 1, item(0, 1, 1))
	fill(t, o, 3, 1, 1)
	o.Grant(4)
	runs(t, o, "")
	o.Grant(3)
	runs(t, o, "2:0 1:0 3:0")
	// And so does a picture, when it is its turn.
	fill(t, o, 1, 3, 1)
	fill(t, o, 3, 1, 10)
	fill(t, o, 4, 1, 1)
	o.Grant(3)
	runs(t, o, "1:0 1:1")
	runs(t, o, "")
	o.Grant(10)
	runs(t, o, "3:0 1:2")
	o.Grant(1)
	runs(t, o, "4:0")
}

func TestItemsOfNothingNeedNoCredit(t *testing.T) {
	o := filled(t, plain)
	fill(t, o, 1, 3, 0)
	fill(t, o, 3, 2, 0)
	runs(t, o, "1:0 1:1 3:0 1:2 3:1")
	if o.Credit() != 0 {
		t.Errorf("Credit: %d", o.Credit())
	}
}

func TestARunWithoutPicturesEndsTheirBalances(t *testing.T) {
	for _, idle := range []bool{true, false} {
		o := filled(t, plain)
		fill(t, o, 4, 1, 10)
		o.Grant(1000)
		if idle {
			flows(t, o, 4) // Choose of nothing ended the run: 10 that flow 4 had left are gone
		} else {
			fill(t, o, 4, 1, 10)
			flows(t, o, 4, 4)
		}
		fill(t, o, 3, 3, 10)
		fill(t, o, 4, 5, 10)
		// It is still the turn of flow 4, but it gets its share anew.
		flows(t, o, 4, 4, 3, 4, 4, 3, 4, 3)
	}
}

func TestBalancesLastWhilePicturesWait(t *testing.T) {
	o := filled(t, plain)
	fill(t, o, 3, 3, 10)
	fill(t, o, 4, 5, 10)
	o.Grant(20)
	flows(t, o, 3, 4)
	// Flow 4 may send one more: neither sounds nor runs that send nothing change that.
	flows(t, o)
	fill(t, o, 1, 4, 0)
	flows(t, o, 1, 1)
	o.Grant(20)
	flows(t, o, 4, 1, 1, 3)
	o.Grant(1000)
	flows(t, o, 4, 4, 3, 4)
}

func TestSoundsLeaveTheTurnAlone(t *testing.T) {
	// As long as it is not the turn of pictures, nobody is chosen, so nobody loses a balance.
	o := filled(t, plain)
	fill(t, o, 4, 2, 10)
	o.Grant(10)
	flows(t, o, 4)
	o.Break(4)
	put(t, o, 1, item(0, 1, 0))
	flows(t, o) // no credit for the sound
	fill(t, o, 3, 2, 10)
	fill(t, o, 4, 5, 10)
	o.Grant(1000)
	flows(t, o, 1, 4, 3, 4, 4, 3, 4, 4)
}

func TestTick(t *testing.T) {
	o := made(t, plain)
	ids := []int{7, -1, 3, 100, 0, math.MinInt, math.MaxInt, 12, 5}
	for i, id := range ids {
		o.Add(id, i%2 == 0, 10)
		put(t, o, id, item(id, 1, 5), queue.Item{N: id, Size: 1, Tick: 9}, item(id, 1, 6))
	}
	for _, now := range []int{0, 5, 14} {
		is(t, "Tick", o.Tick(now), "")
	}
	// A picture takes along the one that depends on it; a sound does not.
	var should []Sent
	slices.Sort(ids)
	videos := []int{7, 3, 0, math.MaxInt, 5}
	for _, id := range ids {
		should = append(should, Sent{id, item(id, 1, 5)})
		if slices.Contains(videos, id) {
			should = append(should, Sent{id, queue.Item{N: id, Size: 1, Tick: 9}})
		}
	}
	if l := o.Tick(15); !slices.Equal(l, should) {
		t.Errorf("Tick: %+v, want %+v", l, should)
	}
	for _, id := range ids {
		n := 2
		if slices.Contains(videos, id) {
			n = 1
		}
		waits(t, o, id, n, n, false)
	}
	o.Tick(api.MaxTick)
	for _, id := range ids {
		waits(t, o, id, 0, 0, true)
	}
}

func TestTicksOfOneFlow(t *testing.T) {
	o := filled(t, plain)
	put(t, o, 3, item(1, 1, 5), queue.Item{N: 2, Size: 1, Tick: 6}, item(3, 1, 7))
	is(t, "Tick", o.Tick(14), "")
	is(t, "Tick", o.Tick(15), "3:1 3:2")
	is(t, "Tick", o.Tick(15), "")
	waits(t, o, 3, 1, 1, false)
	is(t, "Tick", o.Tick(17), "3:3")
	waits(t, o, 3, 0, 0, true)
	// An item that waits behind a younger one waits until that one goes.
	put(t, o, 1, item(1, 1, 20), item(2, 1, 5))
	is(t, "Tick", o.Tick(29), "")
	is(t, "Tick", o.Tick(30), "1:1 1:2")
}

func TestResultsAreKept(t *testing.T) {
	o := filled(t, Config{Frames: 4, Bytes: 100, Age: 10, Most: 10, Guard: 2})
	results := []func() []Sent{
		func() []Sent { return o.Break(3) },
		func() []Sent { return o.Tick(10) },
		func() []Sent { return o.Run() },
		func() []Sent { l, _ := o.Put(3, item(9, 0, 0)); return l },
		func() []Sent { l, _ := o.Remove(3); return l },
	}
	var kept, copies [][]Sent
	for _, result := range results {
		fill(t, o, 3, 4, 0)
		l := result()
		if len(l) == 0 {
			t.Fatal("nothing was returned")
		}
		kept, copies = append(kept, l), append(copies, slices.Clone(l))
		o.Break(3)
	}
	o.Add(3, true, 10)
	for range results {
		for n := range 4 {
			put(t, o, 3, item(50+n, 1, 7))
		}
		o.Break(3)
	}
	for i := range kept {
		if !slices.Equal(kept[i], copies[i]) {
			t.Errorf("result %d: %+v, was %+v", i, kept[i], copies[i])
		}
	}
	// Nor does what is done to a result change the outlet.
	fill(t, o, 3, 4, 0)
	l, _ := o.Put(3, item(4, 0, 0))
	clear(l)
	runs(t, o, "3:1 3:2 3:3 3:4")
}

func TestShortHistories(t *testing.T) {
	steps := []func(p *pair){
		func(p *pair) { p.put(1, 1, 1, false) },
		func(p *pair) { p.put(2, 2, 2, false) },
		func(p *pair) { p.put(3, 2, 1, true) },
		func(p *pair) { p.put(4, 3, 2, true) },
		func(p *pair) { p.put(4, 3, 3, false) },
		func(p *pair) { p.grant(2); p.run() },
		func(p *pair) { p.grant(5); p.run() },
		func(p *pair) { p.tick(4) },
		func(p *pair) { p.clear(4) },
		func(p *pair) { p.remove(3); p.add(3, true, 4) },
	}
	const length = 5
	total := 1
	for range length {
		total *= len(steps)
	}
	for n := range total {
		p := newPair(t, Config{Frames: 2, Bytes: 5, Age: 3, Most: 3, Guard: 1})
		p.add(1, false, 0)
		p.add(2, false, 0)
		p.add(3, true, 3)
		p.add(4, true, 5)
		for k, i := n, 0; i < length; k, i = k/len(steps), i+1 {
			steps[k%len(steps)](p)
			p.same(1, 2, 3, 4)
		}
		p.apart()
	}
}

func TestRandomCalls(t *testing.T) {
	ids := []int{math.MinInt, -3, 0, 1, 2, 5, 6, math.MaxInt}
	for seed := range 300 {
		r := rand.New(rand.NewSource(int64(seed)))
		p := newPair(t, Config{1 + r.Intn(8), 1 + r.Intn(60), 1 + r.Intn(30), 1 + r.Intn(30), 1 + r.Intn(4)})
		pick := func() int { return ids[r.Intn(len(ids))] }
		for range 400 {
			switch n := r.Intn(60); {
			case n < 4:
				p.add(pick(), r.Intn(2) == 0, p.like.c.Most+r.Intn(40)-2)
			case n == 4:
				p.remove(pick())
			case n == 5:
				p.clear(pick())
			case n < 40:
				p.put(pick(), r.Intn(p.like.c.Most+3)-1, r.Intn(50), r.Intn(3) == 0)
			case n < 46:
				p.grant(r.Intn(100) - 10)
			case n < 48:
				p.spend(r.Intn(40) - 5)
			case n < 57:
				p.run()
			default:
				p.tick(r.Intn(80))
			}
			p.same(ids...)
		}
		p.apart()
	}
}

// P20.2: the guard. P20.4: the age.

// TestGuardAndAge passes time, and lets enough wait that pictures nearly always do.
func TestGuardAndAge(t *testing.T) {
	for seed := range 200 {
		r := rand.New(rand.NewSource(int64(seed)))
		p := newPair(t, Config{1 + r.Intn(20), 200, 1 + r.Intn(12), 20, 1 + r.Intn(5)})
		for id := range 6 {
			p.add(id, id%2 == 0, 20+r.Intn(50))
		}
		pictures := 0
		for now := range 200 {
			for range r.Intn(8) {
				p.put(r.Intn(6), r.Intn(21), now, r.Intn(3) == 0)
			}
			p.grant(r.Intn(100))
			for _, x := range p.run() {
				pictures += 1 - x.Id%2
			}
			p.tick(now)
			p.young(now)
			p.same(0, 1, 2, 3, 4, 5)
		}
		if pictures == 0 || p.longest == 0 {
			t.Fatalf("seed %d: %d pictures, %d sounds in a row", seed, pictures, p.longest)
		}
	}
}

func TestTheGreatestGuard(t *testing.T) {
	o := filled(t, Config{Frames: 1024, Bytes: 1 << 24, Age: api.MaxTick, Most: 1, Guard: 1024})
	o.Remove(3)
	o.Add(3, true, 1)
	for range 3 {
		fill(t, o, 1, 1024, 0)
		fill(t, o, 2, 1024, 0)
		fill(t, o, 3, 2, 0)
		l := o.Run()
		if len(l) != 2050 {
			t.Fatalf("Run: %d", len(l))
		}
		for i, x := range l {
			if picture := i == 1024 || i == 2049; (x.Id == 3) != picture {
				t.Fatalf("Run: %d is of flow %d", i, x.Id)
			}
		}
	}
	is(t, "Tick", o.Tick(api.MaxTick), "")
	fill(t, o, 1, 1, 0)
	is(t, "Tick", o.Tick(api.MaxTick-1), "")
	is(t, "Tick", o.Tick(api.MaxTick), "1:0")
}

// P20.3: no more bytes than were granted.

func TestNoMoreThanWasGranted(t *testing.T) {
	for seed := range 200 {
		r := rand.New(rand.NewSource(int64(seed)))
		o := filled(t, plain)
		granted, used := 0, 0
		for n := range 300 {
			put(t, o, 1+r.Intn(4), item(n, r.Intn(11), n))
			grant := r.Intn(12) - 3
			o.Grant(grant)
			granted += max(grant, 0)
			if spend := r.Intn(20); o.Spend(spend) {
				used += spend
			}
			for _, x := range o.Run() {
				used += x.Item.Size
			}
			if used > granted || o.Credit() != granted-used {
				t.Fatalf("seed %d: %d of %d bytes, Credit %d", seed, used, granted, o.Credit())
			}
		}
	}
}

// P5: two flows of pictures that always wait get bytes in proportion to their shares.

func TestFair(t *testing.T) {
	for seed := range 200 {
		r := rand.New(rand.NewSource(int64(seed)))
		most := 1 + r.Intn(50)
		o := made(t, Config{Frames: 20, Bytes: 1 << 24, Age: 10, Most: most, Guard: 1 + r.Intn(3)})
		shares := []int{most + r.Intn(5), most + r.Intn(100), most + r.Intn(1000)}
		for id, share := range shares {
			o.Add(id, true, share)
		}
		o.Add(9, false, 0)
		sent := make([]int, 3)
		for now := range 500 {
			// As little is granted as goes on waiting; flow 2 comes and goes.
			for id := range 2 {
				for n, _ := o.Waits(id); n < 20; n++ {
					put(t, o, id, item(now, 1+r.Intn(most), now))
				}
			}
			put(t, o, 2+7*r.Intn(2), item(now, r.Intn(most+1), now))
			o.Grant(r.Intn(10))
			for _, x := range o.Run() {
				if x.Id < 3 {
					sent[x.Id] += x.Item.Size
				}
			}
			o.Break(2)
			o.Break(9)
			difference := sent[0]*shares[1] - sent[1]*shares[0]
			if max(difference, -difference) > shares[0]*shares[1]+most*(shares[0]+shares[1]) {
				t.Fatalf("seed %d: sent %v of shares %v: too far apart", seed, sent, shares)
			}
		}
	}
}
