package ring

import (
	"math"
	"math/rand"
	"slices"
	"strconv"
	"testing"

	"antiphon/api"
)

// maxTick is the greatest tick.
const maxTick = api.MaxTick

// put is one packet of a model, with the ticks at which it was sent again.
type put struct {
	seq   uint16
	text  string
	again []int
}

// model has all packets that were ever put; what a ring has are the last ones of them.
type model struct {
	size, most, gap int
	puts            []*put
}

func (m *model) held() []*put {
	return m.puts[max(0, len(m.puts)-m.size):]
}

func (m *model) find(seq uint16) *put {
	for _, p := range slices.Backward(m.held()) {
		if p.seq == seq {
			return p
		}
	}
	return nil
}

func (m *model) again(seq uint16, now int) (string, api.Errno) {
	p := m.find(seq)
	if p == nil {
		return "", api.ErrNone
	}
	if len(p.again) == m.most {
		return "", api.ErrFull
	}
	if n := len(p.again); n > 0 && p.again[n-1] > now-m.gap {
		return "", api.ErrTwice
	}
	p.again = append(p.again, now)
	return p.text, api.OK
}

func (m *model) sent() int {
	n := 0
	for _, p := range m.puts {
		n += len(p.again)
	}
	return n
}

// pair is a ring beside its model.
type pair struct {
	t    *testing.T
	r    *Ring
	like *model
}

func newPair(t *testing.T, size, most, gap int) *pair {
	t.Helper()
	return &pair{t: t, r: made(t, size, most, gap), like: &model{size: size, most: most, gap: gap}}
}

// made is a new ring, which may be.
func made(t *testing.T, size, most, gap int) *Ring {
	t.Helper()
	r, e := New(size, most, gap)
	if e != api.OK || r == nil {
		t.Fatalf("New(%d, %d, %d): %v, %d", size, most, gap, r, e)
	}
	return r
}

func (p *pair) put(seq uint16, text string) {
	p.r.Put(seq, text)
	p.like.puts = append(p.like.puts, &put{seq: seq, text: text})
}

func (p *pair) again(seq uint16, now int) {
	p.t.Helper()
	text, e := p.r.Again(seq, now)
	if should, error := p.like.again(seq, now); text != should || e != error {
		p.t.Fatalf("Again(%d, %d): %q, %d, want %q, %d", seq, now, text, e, should, error)
	}
}

func (p *pair) all(now int, seqs ...uint16) {
	p.t.Helper()
	var should []string
	for _, seq := range seqs {
		if text, e := p.like.again(seq, now); e == api.OK {
			should = append(should, text)
		}
	}
	if l := p.r.All(now, seqs...); !slices.Equal(l, should) {
		p.t.Fatalf("All(%d, %v): %q, want %q", now, seqs, l, should)
	}
}

// same looks at all that the ring says without a change, for these numbers.
func (p *pair) same(seqs ...uint16) {
	p.t.Helper()
	if n, sent := p.r.Len(), p.r.Sent(); n != len(p.like.held()) || sent != p.like.sent() {
		p.t.Fatalf("Len, Sent: %d, %d, want %d, %d", n, sent, len(p.like.held()), p.like.sent())
	}
	for _, seq := range seqs {
		text, ok := p.r.Get(seq)
		if should := p.like.find(seq); ok != (should != nil) || ok && text != should.text || !ok && text != "" {
			p.t.Fatalf("Get(%d): %q, %v, want %v", seq, text, ok, should)
		}
	}
}

// again fails the test unless Again returns this.
func again(t *testing.T, r *Ring, seq uint16, now int, text string, e api.Errno) {
	t.Helper()
	if is, error := r.Again(seq, now); is != text || error != e {
		t.Errorf("Again(%d, %d): %q, %d, want %q, %d", seq, now, is, error, text, e)
	}
}

// has fails the test unless Get returns these bytes.
func has(t *testing.T, r *Ring, seq uint16, text string) {
	t.Helper()
	if is, ok := r.Get(seq); is != text || !ok {
		t.Errorf("Get(%d): %q, %v, want %q", seq, is, ok, text)
	}
}

// lacks fails the test unless Get returns nothing.
func lacks(t *testing.T, r *Ring, seq uint16) {
	t.Helper()
	if is, ok := r.Get(seq); is != "" || ok {
		t.Errorf("Get(%d): %q, %v, want none", seq, is, ok)
	}
}

// counts fails the test unless Len and Sent return these.
func counts(t *testing.T, r *Ring, n, sent int) {
	t.Helper()
	if r.Len() != n || r.Sent() != sent {
		t.Errorf("Len, Sent: %d, %d, want %d, %d", r.Len(), r.Sent(), n, sent)
	}
}

// P16.1: each call.

func TestExampleOfTheDocument(t *testing.T) {
	r := made(t, 2, 1, 0)
	r.Put(1, "one")
	r.Put(2, "two")
	r.Put(3, "three")
	again(t, r, 1, 0, "", api.ErrNone)
	again(t, r, 3, 0, "three", api.OK)
	again(t, r, 3, 0, "", api.ErrFull)
}

func TestNew(t *testing.T) {
	for _, c := range []struct {
		size, most, gap int
		e               api.Errno
	}{
		{1, 0, 0, api.OK},
		{4096, 0, 0, api.OK},
		{100, 3, 20, api.OK},
		{1, math.MaxInt, math.MaxInt, api.OK},
		{0, 0, 0, api.ErrArg},
		{-1, 0, 0, api.ErrArg},
		{math.MinInt, 1, 1, api.ErrArg},
		{4097, 0, 0, api.ErrArg},
		{math.MaxInt, 1, 1, api.ErrArg},
		{1, -1, 0, api.ErrArg},
		{1, math.MinInt, 0, api.ErrArg},
		{1, 0, -1, api.ErrArg},
		{1, 0, math.MinInt, api.ErrArg},
		{0, -1, -1, api.ErrArg},
	} {
		r, e := New(c.size, c.most, c.gap)
		if e != c.e || (r == nil) != (e != api.OK) {
			t.Errorf("New(%d, %d, %d): %v, %d, want %d", c.size, c.most, c.gap, r, e, c.e)
		}
		if r != nil {
			counts(t, r, 0, 0)
			lacks(t, r, 0)
			again(t, r, 0, 0, "", api.ErrNone)
		}
	}
}

func TestPut(t *testing.T) {
	r := made(t, 3, 1, 0)
	for i, text := range []string{"a", "", "\x00\xff", "d", "e"} {
		r.Put(uint16(65534+i), text)
		counts(t, r, min(i+1, 3), 0)
		has(t, r, uint16(65534+i), text)
	}
	lacks(t, r, 65534)
	lacks(t, r, 65535)
	has(t, r, 0, "\x00\xff")
	has(t, r, 1, "d")
	has(t, r, 2, "e")
}

func TestSizes(t *testing.T) {
	for _, size := range []int{1, 2, 3, 4095, 4096} {
		r := made(t, size, 1, 0)
		for i := range 2*size + 1 {
			r.Put(uint16(i), strconv.Itoa(i))
			if r.Len() != min(i+1, size) {
				t.Fatalf("Len of %d after %d: %d", size, i+1, r.Len())
			}
		}
		for i := range 2*size + 1 {
			if i <= size {
				lacks(t, r, uint16(i))
				again(t, r, uint16(i), 0, "", api.ErrNone)
			} else {
				has(t, r, uint16(i), strconv.Itoa(i))
				again(t, r, uint16(i), 0, strconv.Itoa(i), api.OK)
			}
		}
		counts(t, r, size, size)
	}
}

func TestTheSameNumberTwice(t *testing.T) {
	r := made(t, 3, 1, 0)
	r.Put(7, "first")
	again(t, r, 7, 0, "first", api.OK)
	again(t, r, 7, 0, "", api.ErrFull)
	r.Put(7, "second")
	counts(t, r, 2, 1)
	has(t, r, 7, "second")
	// The last packet with the number has not been sent again yet.
	again(t, r, 7, 0, "second", api.OK)
	again(t, r, 7, 0, "", api.ErrFull)
	r.Put(8, "other")
	r.Put(9, "next") // the first one leaves
	counts(t, r, 3, 2)
	has(t, r, 7, "second")
	r.Put(10, "last") // the second one leaves
	lacks(t, r, 7)
	again(t, r, 7, 0, "", api.ErrNone)
	counts(t, r, 3, 2)
}

func TestTheSameNumberInARingOfOne(t *testing.T) {
	r := made(t, 1, 1, 5)
	for i := range 3 {
		text := strconv.Itoa(i)
		r.Put(7, text)
		counts(t, r, 1, i)
		again(t, r, 7, 10, text, api.OK)
		again(t, r, 7, 10, "", api.ErrFull)
	}
}

func TestGetSendsNothing(t *testing.T) {
	r := made(t, 1, 1, 5)
	r.Put(7, "a")
	for range 3 {
		has(t, r, 7, "a")
	}
	counts(t, r, 1, 0)
	again(t, r, 7, 0, "a", api.OK)
	has(t, r, 7, "a")
}

func TestAgain(t *testing.T) {
	for _, c := range []struct {
		most, gap int
		ticks     []int
		errors    []api.Errno
	}{
		{0, 0, []int{0, 9}, []api.Errno{api.ErrFull, api.ErrFull}},
		{1, 0, []int{0, 0}, []api.Errno{api.OK, api.ErrFull}},
		{3, 0, []int{4, 4, 4, 4}, []api.Errno{api.OK, api.OK, api.OK, api.ErrFull}},
		{2, 1, []int{4, 4, 5, 5}, []api.Errno{api.OK, api.ErrTwice, api.OK, api.ErrFull}},
		{3, 5, []int{0, 4, 5, 9, 10, 99}, []api.Errno{api.OK, api.ErrTwice, api.OK, api.ErrTwice, api.OK, api.ErrFull}},
		// One that is refused counts for nothing, so the gap runs from the first one.
		{2, 5, []int{10, 14, 14, 15}, []api.Errno{api.OK, api.ErrTwice, api.ErrTwice, api.OK}},
		// Both apply: full is named first.
		{1, 5, []int{10, 11}, []api.Errno{api.OK, api.ErrFull}},
		// Never sent again before: no gap, even at tick 0.
		{1, math.MaxInt, []int{0}, []api.Errno{api.OK}},
		{9, math.MaxInt, []int{0, maxTick}, []api.Errno{api.OK, api.ErrTwice}},
		{9, maxTick, []int{0, maxTick - 1, maxTick}, []api.Errno{api.OK, api.ErrTwice, api.OK}},
		{9, maxTick + 1, []int{0, maxTick}, []api.Errno{api.OK, api.ErrTwice}},
		{math.MaxInt, 1, []int{maxTick - 1, maxTick, maxTick}, []api.Errno{api.OK, api.OK, api.ErrTwice}},
		// A tick ahead of the last one is less than any gap behind it.
		{9, 0, []int{10, 9, 10}, []api.Errno{api.OK, api.ErrTwice, api.OK}},
		{9, 5, []int{maxTick, 0, 5, maxTick}, []api.Errno{api.OK, api.ErrTwice, api.ErrTwice, api.ErrTwice}},
	} {
		r := made(t, 2, c.most, c.gap)
		r.Put(7, "a")
		r.Put(8, "other")
		sent := 0
		for i, now := range c.ticks {
			text := ""
			if c.errors[i] == api.OK {
				text = "a"
				sent++
			}
			again(t, r, 7, now, text, c.errors[i])
			counts(t, r, 2, sent)
		}
		if t.Failed() {
			t.Fatalf("most %d, gap %d, ticks %v", c.most, c.gap, c.ticks)
		}
	}
}

func TestEachPacketHasItsOwnCounts(t *testing.T) {
	r := made(t, 3, 1, 10)
	r.Put(1, "a")
	r.Put(2, "b")
	again(t, r, 1, 5, "a", api.OK)
	again(t, r, 2, 5, "b", api.OK)
	r.Put(3, "c")
	again(t, r, 3, 5, "c", api.OK)
	again(t, r, 1, 99, "", api.ErrFull)
	counts(t, r, 3, 3)
}

func TestSentCountsPacketsThatLeft(t *testing.T) {
	r := made(t, 1, 2, 0)
	r.Put(1, "a")
	r.All(0, 1, 1, 1)
	r.Put(2, "b")
	counts(t, r, 1, 2)
	again(t, r, 1, 0, "", api.ErrNone)
	again(t, r, 2, 0, "b", api.OK)
	counts(t, r, 1, 3)
}

func TestAPacketThatCameBack(t *testing.T) {
	r := made(t, 1, 1, 100)
	r.Put(1, "a")
	again(t, r, 1, 5, "a", api.OK)
	r.Put(2, "b")
	r.Put(1, "a")
	again(t, r, 1, 5, "a", api.OK)
}

func TestAll(t *testing.T) {
	r := made(t, 4, 2, 5)
	for i, text := range []string{"a", "b", "", "d"} {
		r.Put(uint16(i), text)
	}
	for _, c := range []struct {
		now  int
		seqs []uint16
		l    []string
		sent int
	}{
		{0, nil, nil, 0},
		{0, []uint16{}, nil, 0},
		{0, []uint16{9, 4, 65535}, nil, 0},
		{0, []uint16{3, 9, 0}, []string{"d", "a"}, 2},
		{1, []uint16{0, 1, 1, 3}, []string{"b"}, 3},
		{5, []uint16{0, 1, 2, 3}, []string{"a", "", "d"}, 6},
		{99, []uint16{3, 2, 1, 0}, []string{"", "b"}, 8},
		{999, []uint16{0, 1, 2, 3}, nil, 8},
	} {
		if l := r.All(c.now, c.seqs...); !slices.Equal(l, c.l) {
			t.Errorf("All(%d, %v): %q, want %q", c.now, c.seqs, l, c.l)
		}
		counts(t, r, 4, c.sent)
	}
}

func TestShortHistories(t *testing.T) {
	steps := []func(p *pair){
		func(p *pair) { p.put(1, "one") },
		func(p *pair) { p.put(2, "two") },
		func(p *pair) { p.put(1, "new one") },
		func(p *pair) { p.again(1, 3) },
		func(p *pair) { p.again(1, 5) },
		func(p *pair) { p.all(4, 2, 1, 2, 3) },
	}
	const length = 6
	total := 1
	for range length {
		total *= len(steps)
	}
	for n := range total {
		p := newPair(t, 1+n%2, 2, 2)
		for range length {
			steps[n%len(steps)](p)
			n /= len(steps)
		}
		p.same(0, 1, 2, 3)
	}
}

// P16.1 and P16.2: as random calls go.

func TestRandomCalls(t *testing.T) {
	random := rand.New(rand.NewSource(16))
	for range 300 {
		p := newPair(t, 1+random.Intn(12), random.Intn(4), random.Intn(6))
		first, span := uint16(random.Intn(1<<16)), 1+random.Intn(20)
		number := func() uint16 { return first + uint16(random.Intn(span)) }
		now := 0
		for i := range 200 {
			switch random.Intn(4) {
			case 0, 1:
				p.put(number(), strconv.Itoa(i))
			case 2:
				p.again(number(), now)
			case 3:
				p.all(now, number(), number(), number())
			}
			now += random.Intn(3)
			p.same(number(), number())
		}
	}
}

// P16.2: SAME.

func TestSame(t *testing.T) {
	random := rand.New(rand.NewSource(162))
	r := made(t, 50, 3, 0)
	last := map[uint16]string{}
	for i := range 5000 {
		seq := uint16(65500 + random.Intn(80))
		text := string([]byte{byte(i), byte(i >> 8), byte(random.Intn(256))})
		r.Put(seq, text)
		last[seq] = text
		asked := uint16(65500 + random.Intn(80))
		if is, e := r.Again(asked, i); e == api.OK && is != last[asked] {
			t.Fatalf("Again(%d): %q, was put as %q", asked, is, last[asked])
		}
	}
	if r.Sent() < 1000 {
		t.Errorf("Sent: %d", r.Sent())
	}
}

// K3: arguments stay as they are, and results share nothing with later calls.

func TestArgumentsAndResultsApart(t *testing.T) {
	r := made(t, 3, 9, 0)
	r.Put(1, "a")
	r.Put(2, "b")
	seqs := []uint16{2, 1}
	l := r.All(0, seqs...)
	seqs[0] = 1
	other := r.All(0, seqs...)
	r.Put(3, "c")
	r.Put(4, "d")
	r.All(0, 4, 3)
	if !slices.Equal(l, []string{"b", "a"}) || !slices.Equal(other, []string{"a", "a"}) || !slices.Equal(seqs, []uint16{1, 1}) {
		t.Errorf("%q, %q, %v", l, other, seqs)
	}
	l[0] = "x"
	has(t, r, 2, "b")
}

// What is kept is no more than the packets that it has.
func TestNothingElseIsKept(t *testing.T) {
	r := made(t, 3, 1, 0)
	for i := range 1 << 17 {
		r.Put(uint16(i*7), "a")
	}
	if len(r.last) != 3 || len(r.packets) != 3 {
		t.Errorf("%d numbers, %d packets", len(r.last), len(r.packets))
	}
}
