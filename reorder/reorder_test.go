package reorder

import (
	"math"
	"math/rand"
	"slices"
	"strconv"
	"testing"

	"antiphon/api"
)

// model is a buffer by the document's words: a set of things, looked through number by number.
type model struct {
	most, wait int
	waiting    map[int64]Thing
	awaited    int64
	begun      bool
	lost       int
}

func newModel(c Config) *model {
	return &model{most: c.Most, wait: c.Wait, waiting: map[int64]Thing{}}
}

// lowest and greatest are of the numbers that wait; something does.
func (m *model) lowest() int64 {
	at := int64(math.MaxInt64)
	for n := range m.waiting {
		at = min(at, n)
	}
	return at
}

func (m *model) greatest() int64 {
	at := int64(math.MinInt64)
	for n := range m.waiting {
		at = max(at, n)
	}
	return at
}

func (m *model) follow() []Thing {
	var out []Thing
	for {
		x, ok := m.waiting[m.awaited]
		if !ok {
			return out
		}
		delete(m.waiting, m.awaited)
		out = append(out, x)
		m.awaited++
	}
}

func (m *model) skip() []Thing {
	for at := m.lowest(); m.awaited < at; m.awaited++ {
		m.lost++
	}
	return m.follow()
}

func (m *model) put(x Thing) ([]Thing, api.Errno) {
	if !m.begun {
		m.begun = true
		m.awaited = x.At
	}
	if x.At < m.awaited {
		return nil, api.ErrOld
	}
	if _, ok := m.waiting[x.At]; ok {
		return nil, api.ErrTwice
	}
	m.waiting[x.At] = x
	out := m.follow()
	for len(m.waiting) > m.most {
		out = append(out, m.skip()...)
	}
	return out, api.OK
}

func (m *model) tick(now int) []Thing {
	var out []Thing
	for len(m.waiting) > 0 && m.waiting[m.lowest()].Tick+m.wait <= now {
		out = append(out, m.skip()...)
	}
	return out
}

func (m *model) flush() []Thing {
	var out []Thing
	for len(m.waiting) > 0 {
		out = append(out, m.skip()...)
	}
	return out
}

func (m *model) missing(most int) []int64 {
	var out []int64
	if len(m.waiting) == 0 {
		return nil
	}
	for at := m.awaited; at < m.greatest(); at++ {
		if _, ok := m.waiting[at]; !ok && len(out) < most {
			out = append(out, at)
		}
	}
	return out
}

// pair is a buffer beside its model; all that goes out of it is kept.
type pair struct {
	t   *testing.T
	b   *Buffer
	m   *model
	out []Thing
}

func newPair(t *testing.T, c Config) *pair {
	return &pair{t: t, b: buffer(t, c), m: newModel(c)}
}

func buffer(t *testing.T, c Config) *Buffer {
	t.Helper()
	b, e := New(c)
	if e != api.OK || b == nil {
		t.Fatalf("New(%v): %v, %d", c, b, e)
	}
	return b
}

func (p *pair) put(x Thing) api.Errno {
	p.t.Helper()
	out, e := p.b.Put(x)
	want, wantErr := p.m.put(x)
	if e != wantErr {
		p.t.Fatalf("Put(%v): error %d, want %d", x, e, wantErr)
	}
	if e != api.OK && out != nil {
		p.t.Fatalf("Put(%v): %v beside error %d", x, out, e)
	}
	p.same("Put", out, want)
	return e
}

func (p *pair) tick(now int) {
	p.t.Helper()
	p.same("Tick", p.b.Tick(now), p.m.tick(now))
	if len(p.m.waiting) > 0 {
		if first := p.m.waiting[p.m.lowest()]; now-first.Tick >= p.m.wait {
			p.t.Fatalf("after Tick(%d), %v waits", now, first)
		}
	}
}

func (p *pair) flush() {
	p.t.Helper()
	p.same("Flush", p.b.Flush(), p.m.flush())
}

// same looks at what went out, and at all that the buffer says of itself.
func (p *pair) same(call string, out, want []Thing) {
	p.t.Helper()
	if !slices.Equal(out, want) {
		p.t.Fatalf("%s: %v, want %v", call, out, want)
	}
	for _, x := range out {
		if l := len(p.out); l > 0 && p.out[l-1].At >= x.At {
			p.t.Fatalf("%s: %d after %d", call, x.At, p.out[l-1].At)
		}
		p.out = append(p.out, x)
	}
	if p.b.Len() != len(p.m.waiting) || p.b.Lost() != p.m.lost {
		p.t.Fatalf("%s: Len %d, Lost %d, want %d, %d", call, p.b.Len(), p.b.Lost(), len(p.m.waiting), p.m.lost)
	}
	if p.b.Len() > p.m.most {
		p.t.Fatalf("%s: %d wait", call, p.b.Len())
	}
	if n, ok := p.b.Next(); n != p.m.awaited || ok != p.m.begun {
		p.t.Fatalf("%s: Next %d, %v, want %d, %v", call, n, ok, p.m.awaited, p.m.begun)
	}
	for _, most := range []int{-1, 0, 1, 2, 3, math.MaxInt} {
		if l := p.b.Missing(most); !slices.Equal(l, p.m.missing(most)) {
			p.t.Fatalf("%s: Missing(%d) %v, want %v", call, most, l, p.m.missing(most))
		}
	}
}

// numbered are things with these numbers and nothing else.
func numbered(numbers ...int64) []Thing {
	var l []Thing
	for _, at := range numbers {
		l = append(l, Thing{At: at})
	}
	return l
}

// puts puts things with these numbers; nothing must go out, or wrong.
func puts(t *testing.T, b *Buffer, tick int, numbers ...int64) {
	t.Helper()
	for _, at := range numbers {
		if out, e := b.Put(Thing{At: at, Tick: tick}); e != api.OK || len(out) != 0 {
			t.Fatalf("Put(%d): %v, %d", at, out, e)
		}
	}
}

// begin puts the first thing.
func begin(t *testing.T, b *Buffer, at int64) {
	t.Helper()
	if out, e := b.Put(Thing{At: at}); e != api.OK || !slices.Equal(out, numbered(at)) {
		t.Fatalf("Put(%d): %v, %d", at, out, e)
	}
}

// numbers are those of things.
func numbers(l []Thing) []int64 {
	var out []int64
	for _, x := range l {
		out = append(out, x.At)
	}
	return out
}

// state fails the test unless the buffer says this of itself.
func state(t *testing.T, b *Buffer, waiting int, next int64, lost int) {
	t.Helper()
	if n, ok := b.Next(); b.Len() != waiting || n != next || !ok || b.Lost() != lost {
		t.Errorf("Len %d, Next %d, %v, Lost %d, want %d, %d, %d", b.Len(), n, ok, b.Lost(), waiting, next, lost)
	}
}

// P9.1: Check and New.

func TestConfig(t *testing.T) {
	for _, c := range []struct {
		c Config
		e api.Errno
	}{
		{Config{1, 0}, api.OK},
		{Config{1024, 1 << 40}, api.OK},
		{Config{2, 5}, api.OK},
		{Config{0, 0}, api.ErrArg},
		{Config{-1, 5}, api.ErrArg},
		{Config{math.MinInt, 5}, api.ErrArg},
		{Config{1025, 5}, api.ErrArg},
		{Config{math.MaxInt, 5}, api.ErrArg},
		{Config{2, -1}, api.ErrArg},
		{Config{2, math.MinInt}, api.ErrArg},
		{Config{2, 1<<40 + 1}, api.ErrArg},
		{Config{2, math.MaxInt}, api.ErrArg},
		{Config{0, -1}, api.ErrArg},
		{Config{}, api.ErrArg},
	} {
		if e := c.c.Check(); e != c.e {
			t.Errorf("Check of %v: %d, want %d", c.c, e, c.e)
		}
		b, e := New(c.c)
		if e != c.e || (b == nil) != (e != api.OK) {
			t.Errorf("New(%v): %v, %d, want %d", c.c, b, e, c.e)
		}
		if b != nil && (b.Config != c.c || b.Check() != api.OK) {
			t.Errorf("New(%v): %v", c.c, b.Config)
		}
	}
}

// P9.1: a buffer.

func TestNothingArrived(t *testing.T) {
	b := buffer(t, Config{2, 0})
	for range 2 {
		if n, ok := b.Next(); n != 0 || ok || b.Len() != 0 || b.Lost() != 0 {
			t.Errorf("Next %d, %v, Len %d, Lost %d", n, ok, b.Len(), b.Lost())
		}
		if len(b.Missing(5)) != 0 || len(b.Tick(1<<40)) != 0 || len(b.Flush()) != 0 {
			t.Error("something was there")
		}
	}
	begin(t, b, 7)
	state(t, b, 0, 8, 0)
}

func TestExampleOfTheDocument(t *testing.T) {
	b := buffer(t, Config{2, 5})
	begin(t, b, 5)
	puts(t, b, 0, 7)
	if out, e := b.Put(Thing{At: 6}); e != api.OK || !slices.Equal(out, numbered(6, 7)) {
		t.Errorf("Put(6): %v, %d", out, e)
	}
	state(t, b, 0, 8, 0)
}

func TestTheFirstNumber(t *testing.T) {
	for _, at := range []int64{0, 1, 1 << 20, 1<<50 - 1, 1 << 50} {
		b := buffer(t, Config{2, 5})
		begin(t, b, at)
		state(t, b, 0, at+1, 0)
		if _, e := b.Put(Thing{At: at}); e != api.ErrOld {
			t.Errorf("Put(%d): %d", at, e)
		}
	}
}

func TestThingsStayWhole(t *testing.T) {
	b := buffer(t, Config{3, 5})
	first := Thing{At: 3, Text: "c", Tick: 9}
	if out, _ := b.Put(first); !slices.Equal(out, []Thing{first}) {
		t.Errorf("%v", out)
	}
	want := []Thing{{4, "d", 1}, {5, "", 1 << 40}, {6, "\x00\xff", 0}}
	for _, i := range []int{2, 1} {
		if out, _ := b.Put(want[i]); len(out) != 0 {
			t.Errorf("%v", out)
		}
	}
	if out, _ := b.Put(want[0]); !slices.Equal(out, want) {
		t.Errorf("%v", out)
	}
}

func TestWhatIsOld(t *testing.T) {
	b := buffer(t, Config{2, 5})
	begin(t, b, 10)
	puts(t, b, 0, 12, 14)
	if out, e := b.Put(Thing{At: 16}); e != api.OK || !slices.Equal(out, numbered(12)) {
		t.Fatalf("Put(16): %v, %d", out, e)
	}
	// Below the first one, released, passed over, released.
	for _, at := range []int64{0, 9, 10, 11, 12} {
		if out, e := b.Put(Thing{At: at}); e != api.ErrOld || out != nil {
			t.Errorf("Put(%d): %v, %d", at, out, e)
		}
	}
	for _, at := range []int64{14, 16} {
		if out, e := b.Put(Thing{At: at}); e != api.ErrTwice || out != nil {
			t.Errorf("Put(%d): %v, %d", at, out, e)
		}
	}
	state(t, b, 2, 13, 1)
}

func TestTheFirstOfTwoStays(t *testing.T) {
	b := buffer(t, Config{2, 5})
	begin(t, b, 10)
	b.Put(Thing{12, "first", 3})
	if out, e := b.Put(Thing{12, "second", 0}); out != nil || e != api.ErrTwice {
		t.Errorf("%v, %d", out, e)
	}
	if out := b.Tick(7); len(out) != 0 {
		t.Errorf("Tick(7): %v", out)
	}
	if out := b.Tick(8); !slices.Equal(out, []Thing{{12, "first", 3}}) {
		t.Errorf("Tick(8): %v", out)
	}
}

func TestMoreThanMost(t *testing.T) {
	b := buffer(t, Config{3, 5})
	begin(t, b, 0)
	puts(t, b, 0, 5, 9, 3)
	// The one that came last may be the lowest.
	if out, e := b.Put(Thing{At: 2}); e != api.OK || !slices.Equal(out, numbered(2, 3)) {
		t.Errorf("Put(2): %v, %d", out, e)
	}
	state(t, b, 2, 4, 1)
	puts(t, b, 0, 7)
	// Most wait, and the awaited one comes: nobody is passed over.
	if out, e := b.Put(Thing{At: 4}); e != api.OK || !slices.Equal(out, numbered(4, 5)) {
		t.Errorf("Put(4): %v, %d", out, e)
	}
	state(t, b, 2, 6, 1)
	puts(t, b, 0, 11)
	if out, e := b.Put(Thing{At: 12}); e != api.OK || !slices.Equal(out, numbered(7)) {
		t.Errorf("Put(12): %v, %d", out, e)
	}
	state(t, b, 3, 8, 2)
	// All that follows the lowest goes out, however many they are.
	if out, e := b.Put(Thing{At: 10}); e != api.OK || !slices.Equal(out, numbered(9, 10, 11, 12)) {
		t.Errorf("Put(10): %v, %d", out, e)
	}
	state(t, b, 0, 13, 3)
}

func TestMostOfOne(t *testing.T) {
	b := buffer(t, Config{1, 5})
	begin(t, b, 0)
	puts(t, b, 0, 4)
	if out, _ := b.Put(Thing{At: 9}); !slices.Equal(out, numbered(4)) {
		t.Errorf("%v", out)
	}
	if out, _ := b.Put(Thing{At: 7}); !slices.Equal(out, numbered(7)) {
		t.Errorf("%v", out)
	}
	state(t, b, 1, 8, 5)
}

func TestTheGreatestMost(t *testing.T) {
	b := buffer(t, Config{1024, 5})
	begin(t, b, 0)
	for i := range int64(1024) {
		puts(t, b, 0, 2048-2*i)
	}
	state(t, b, 1024, 1, 0)
	if out, _ := b.Put(Thing{At: 2050}); !slices.Equal(out, numbered(2)) {
		t.Errorf("%v", out)
	}
	state(t, b, 1024, 3, 1)
	if l := b.Missing(5000); len(l) != 1024 || l[0] != 3 || l[1023] != 2049 {
		t.Errorf("Missing: %d", len(l))
	}
	if out := b.Flush(); len(out) != 1024 || out[1023].At != 2050 {
		t.Errorf("Flush: %d", len(out))
	}
	state(t, b, 0, 2051, 1025)
}

func TestTickAtWait(t *testing.T) {
	b := buffer(t, Config{4, 5})
	begin(t, b, 0)
	puts(t, b, 10, 2)
	for _, now := range []int{0, 9, 10, 14} {
		if out := b.Tick(now); len(out) != 0 {
			t.Errorf("Tick(%d): %v", now, out)
		}
	}
	if out := b.Tick(15); !slices.Equal(numbers(out), []int64{2}) {
		t.Errorf("Tick(15): %v", out)
	}
	state(t, b, 0, 3, 1)
	puts(t, b, 1<<40, 5)
	if out := b.Tick(1<<40 + 4); len(out) != 0 {
		t.Errorf("%v", out)
	}
	if out := b.Tick(1<<40 + 5); len(out) != 1 {
		t.Errorf("%v", out)
	}
}

func TestTickByTheLowest(t *testing.T) {
	b := buffer(t, Config{8, 5})
	begin(t, b, 0)
	puts(t, b, 1, 6)
	puts(t, b, 2, 4)
	puts(t, b, 3, 2)
	puts(t, b, 9, 3)
	// The lowest is too young, though others waited long enough.
	if out := b.Tick(7); len(out) != 0 {
		t.Errorf("Tick(7): %v", out)
	}
	// It takes along what follows, even the young, and then the next lowest is asked.
	if out := b.Tick(8); !slices.Equal(numbers(out), []int64{2, 3, 4, 6}) {
		t.Errorf("Tick(8): %v", out)
	}
	state(t, b, 0, 7, 2)
	puts(t, b, 10, 8)
	puts(t, b, 12, 10)
	puts(t, b, 10, 12)
	if out := b.Tick(16); !slices.Equal(numbers(out), []int64{8}) {
		t.Errorf("Tick(16): %v", out)
	}
	state(t, b, 2, 9, 3)
}

func TestWaitOfNothing(t *testing.T) {
	b := buffer(t, Config{4, 0})
	begin(t, b, 0)
	puts(t, b, 10, 2)
	if out := b.Tick(9); len(out) != 0 {
		t.Errorf("Tick(9): %v", out)
	}
	if out := b.Tick(10); !slices.Equal(numbers(out), []int64{2}) {
		t.Errorf("Tick(10): %v", out)
	}
}

func TestLongestWait(t *testing.T) {
	b := buffer(t, Config{4, 1 << 40})
	begin(t, b, 0)
	puts(t, b, 0, 2)
	puts(t, b, 1, 4)
	if out := b.Tick(1<<40 - 1); len(out) != 0 {
		t.Errorf("%v", out)
	}
	if out := b.Tick(1 << 40); !slices.Equal(numbers(out), []int64{2}) {
		t.Errorf("%v", out)
	}
}

func TestFlush(t *testing.T) {
	b := buffer(t, Config{4, 5})
	begin(t, b, 0)
	puts(t, b, 3, 8, 3, 4)
	if out := b.Flush(); !slices.Equal(numbers(out), []int64{3, 4, 8}) {
		t.Errorf("%v", out)
	}
	state(t, b, 0, 9, 5)
	if out := b.Flush(); len(out) != 0 {
		t.Errorf("%v", out)
	}
	if _, e := b.Put(Thing{At: 7}); e != api.ErrOld {
		t.Errorf("Put(7): %d", e)
	}
	begin(t, b, 9)
	state(t, b, 0, 10, 5)
}

func TestMissing(t *testing.T) {
	b := buffer(t, Config{4, 5})
	begin(t, b, 10)
	if l := b.Missing(9); len(l) != 0 {
		t.Errorf("nothing waits: %v", l)
	}
	puts(t, b, 0, 17, 13, 14)
	for _, c := range []struct {
		most int
		l    []int64
	}{
		{math.MinInt, nil},
		{-1, nil},
		{0, nil},
		{1, []int64{11}},
		{2, []int64{11, 12}},
		{3, []int64{11, 12, 15}},
		{4, []int64{11, 12, 15, 16}},
		{5, []int64{11, 12, 15, 16}},
		{math.MaxInt, []int64{11, 12, 15, 16}},
	} {
		if l := b.Missing(c.most); !slices.Equal(l, c.l) {
			t.Errorf("Missing(%d): %v, want %v", c.most, l, c.l)
		}
	}
	state(t, b, 3, 11, 0)
}

func TestWideGaps(t *testing.T) {
	const far = 1<<24 - 1
	b := buffer(t, Config{1, 5})
	from := int64(1<<50 - far - 1)
	begin(t, b, from)
	puts(t, b, 0, from+far)
	if l := b.Missing(2); !slices.Equal(l, []int64{from + 1, from + 2}) {
		t.Errorf("Missing: %v", l)
	}
	if l := b.Missing(math.MaxInt); len(l) != far-1 || l[far-2] != from+far-1 {
		t.Errorf("Missing: %d", len(l))
	}
	if out := b.Flush(); len(out) != 1 || b.Lost() != far-1 {
		t.Errorf("Flush: %v, Lost %d", out, b.Lost())
	}
}

// TestAllShortHistories goes through every sequence of a few calls on a small buffer.
func TestAllShortHistories(t *testing.T) {
	const calls, depth = 9, 5
	total := 1
	for range depth {
		total *= calls
	}
	for _, c := range []Config{{1, 0}, {1, 2}, {2, 2}, {3, 1}} {
		for history := range total {
			p := newPair(t, c)
			for now := range depth {
				p.call(history%calls, now)
				history /= calls
			}
		}
	}
}

// call is one of a few calls.
func (p *pair) call(which, now int) {
	p.t.Helper()
	switch which {
	case 7:
		p.tick(now)
	case 8:
		p.flush()
	default:
		p.put(Thing{At: int64(which), Text: strconv.Itoa(now), Tick: now})
	}
}

// P9.1 to P9.3, each by the pair: any calls.

func TestAnyCalls(t *testing.T) {
	random := rand.New(rand.NewSource(9))
	seen := map[api.Errno]int{}
	for range 1500 {
		p := newPair(t, Config{1 + random.Intn(6), random.Intn(8)})
		at := int64(random.Intn(1 << 30))
		now := random.Intn(100)
		for i := range 80 {
			now += random.Intn(3)
			switch random.Intn(12) {
			case 0:
				p.tick(now)
			case 1:
				p.tick(now - random.Intn(10))
			case 2:
				p.flush()
			default:
				seen[p.put(Thing{max(at+int64(random.Intn(9)-4), 0), strconv.Itoa(i), now})]++
				at += int64(random.Intn(3))
			}
		}
	}
	if seen[api.OK] < 10000 || seen[api.ErrOld] < 1000 || seen[api.ErrTwice] < 1000 {
		t.Errorf("the calls say little: %v", seen)
	}
}

// P9.2: ORDER.

func TestAnyOrderComesOutInOrder(t *testing.T) {
	random := rand.New(rand.NewSource(10))
	for range 200 {
		b := buffer(t, Config{1 + random.Intn(40), 5})
		begin(t, b, 0)
		var out []Thing
		for _, i := range random.Perm(40) {
			l, e := b.Put(Thing{At: int64(i + 1)})
			if e != api.OK && e != api.ErrOld {
				t.Fatalf("Put(%d): %d", i+1, e)
			}
			out = append(out, l...)
		}
		out = append(out, b.Flush()...)
		if !slices.IsSortedFunc(out, func(x, y Thing) int { return int(x.At - y.At) }) || len(out)+b.Lost() != 40 {
			t.Fatalf("%v, Lost %d", numbers(out), b.Lost())
		}
		if b.Most >= 39 && len(out) != 40 {
			t.Fatalf("only %v", numbers(out))
		}
	}
}

// The rules.

func TestResultsAreNewMemory(t *testing.T) {
	b := buffer(t, Config{3, 5})
	begin(t, b, 0)
	puts(t, b, 0, 3, 4)
	missing := b.Missing(9)
	missing[0] = 77
	one, _ := b.Put(Thing{At: 2})
	two, _ := b.Put(Thing{At: 1})
	kept := slices.Clone(two)
	if len(one) != 0 || !slices.Equal(two, numbered(1, 2, 3, 4)) {
		t.Fatalf("%v, %v", one, two)
	}
	puts(t, b, 0, 7, 8, 9)
	three := b.Tick(5)
	if !slices.Equal(two, kept) || !slices.Equal(three, numbered(7, 8, 9)) {
		t.Errorf("%v, %v", two, three)
	}
	for i := range three {
		three[i] = Thing{At: 77}
	}
	_ = append(three[:0], two...)
	puts(t, b, 0, 12, 14)
	four := b.Flush()
	if !slices.Equal(four, numbered(12, 14)) || !slices.Equal(two, kept) {
		t.Errorf("%v, %v", four, two)
	}
	state(t, b, 0, 15, 5)
}

func TestBuffersAreApart(t *testing.T) {
	one, two := buffer(t, Config{1, 0}), buffer(t, Config{2, 5})
	begin(t, one, 5)
	puts(t, one, 0, 7)
	if n, ok := two.Next(); n != 0 || ok || two.Len() != 0 {
		t.Errorf("Next %d, %v", n, ok)
	}
	begin(t, two, 3)
	state(t, one, 1, 6, 0)
}

func FuzzBuffer(f *testing.F) {
	f.Add(byte(2), byte(5), "\x05\x07\x06")
	f.Add(byte(1), byte(0), "\x05\x17\xf0\x03\xff\x09")
	f.Fuzz(func(t *testing.T, most, wait byte, s string) {
		if len(s) > 300 {
			return
		}
		p := newPair(t, Config{1 + int(most), int(wait)})
		now := 0
		for _, c := range []byte(s) {
			switch {
			case c == 255:
				p.flush()
			case c >= 240:
				now += int(c - 240)
				p.tick(now)
			default:
				p.put(Thing{At: int64(c), Tick: now})
			}
		}
	})
}
