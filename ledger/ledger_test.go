package ledger

import (
	"math"
	"math/rand"
	"slices"
	"testing"

	"antiphon/api"
)

// ending is a call of End that returned OK.
type ending struct {
	n   int
	f   Fate
	now int
}

// model is the list of all calls that changed something; what a book says is found by looking through them.
type model struct {
	accepts []int
	endings []ending
}

func (m *model) find(n int) (ending, bool) {
	for _, e := range m.endings {
		if e.n == n {
			return e, true
		}
	}
	return ending{}, false
}

func (m *model) end(n int, f Fate, now int) api.Errno {
	if n < 0 || n >= len(m.accepts) {
		return api.ErrNone
	}
	if f != Sent && f != Dropped && f != Cancelled {
		return api.ErrKind
	}
	if _, ok := m.find(n); ok {
		return api.ErrTwice
	}
	m.endings = append(m.endings, ending{n, f, now})
	return api.OK
}

func (m *model) fate(n, now int) (Fate, int) {
	if n < 0 || n >= len(m.accepts) {
		return 0, 0
	}
	if e, ok := m.find(n); ok {
		return e.f, e.now - m.accepts[n]
	}
	return 0, now - m.accepts[n]
}

func (m *model) count(f Fate) int {
	if f == 0 {
		return len(m.accepts) - len(m.endings)
	}
	n := 0
	for _, e := range m.endings {
		if e.f == f {
			n++
		}
	}
	return n
}

func (m *model) late(now, age int) []int {
	var l []int
	for n, at := range m.accepts {
		if _, ok := m.find(n); !ok && at <= now-age {
			l = append(l, n)
		}
	}
	return l
}

// pair is a book beside its model.
type pair struct {
	t    *testing.T
	b    Book
	like model
}

func (p *pair) accept(now int) {
	p.t.Helper()
	if n := p.b.Accept(now); n != len(p.like.accepts) {
		p.t.Fatalf("Accept(%d) after %+v: %d", now, p.like, n)
	}
	p.like.accepts = append(p.like.accepts, now)
}

func (p *pair) end(n int, f Fate, now int) {
	p.t.Helper()
	is := p.b.End(n, f, now)
	if e := p.like.end(n, f, now); is != e {
		p.t.Fatalf("End(%d, %d, %d) after %+v: %d, want %d", n, f, now, p.like, is, e)
	}
}

// same looks at all that the book says at a tick, for these ages.
func (p *pair) same(now int, ages ...int) {
	p.t.Helper()
	for n := -1; n <= len(p.like.accepts); n++ {
		f, ticks := p.b.Fate(n, now)
		if fate, should := p.like.fate(n, now); f != fate || ticks != should {
			p.t.Fatalf("Fate(%d, %d) after %+v: %d, %d, want %d, %d", n, now, p.like, f, ticks, fate, should)
		}
	}
	for f := Fate(-1); f <= 4; f++ {
		if n := p.b.Count(f); n != p.like.count(f) {
			p.t.Fatalf("Count(%d) after %+v: %d, want %d", f, p.like, n, p.like.count(f))
		}
	}
	for _, age := range ages {
		if l, should := p.b.Late(now, age), p.like.late(now, age); !slices.Equal(l, should) {
			p.t.Fatalf("Late(%d, %d) after %+v: %v, want %v", now, age, p.like, l, should)
		}
	}
	p.one()
}

// one looks at whether each frame has one fate (P25.2).
func (p *pair) one() {
	p.t.Helper()
	sum := p.b.Count(Pending) + p.b.Count(Sent) + p.b.Count(Dropped) + p.b.Count(Cancelled)
	if p.b.Len() != len(p.like.accepts) || sum != p.b.Len() {
		p.t.Fatalf("Len after %+v: %d, and %d have a fate", p.like, p.b.Len(), sum)
	}
}

// book is one with frames that were accepted at these ticks.
func book(t *testing.T, ticks ...int) *Book {
	t.Helper()
	b := new(Book)
	for i, now := range ticks {
		if n := b.Accept(now); n != i {
			t.Fatalf("Accept(%d): %d, want %d", now, n, i)
		}
	}
	return b
}

// ends fails the test unless End returns this.
func ends(t *testing.T, b *Book, n int, f Fate, now int, e api.Errno) {
	t.Helper()
	if is := b.End(n, f, now); is != e {
		t.Errorf("End(%d, %d, %d): %d, want %d", n, f, now, is, e)
	}
}

// has fails the test unless Fate returns this.
func has(t *testing.T, b *Book, n, now int, f Fate, ticks int) {
	t.Helper()
	if is, waited := b.Fate(n, now); is != f || waited != ticks {
		t.Errorf("Fate(%d, %d): %d, %d, want %d, %d", n, now, is, waited, f, ticks)
	}
}

// counts fails the test unless so many frames have these fates.
func counts(t *testing.T, b *Book, pending, sent, dropped, cancelled int) {
	t.Helper()
	is := [...]int{b.Count(Pending), b.Count(Sent), b.Count(Dropped), b.Count(Cancelled), b.Len()}
	if should := [...]int{pending, sent, dropped, cancelled, pending + sent + dropped + cancelled}; is != should {
		t.Errorf("counts and Len: %v, want %v", is, should)
	}
}

// late fails the test unless Late returns these.
func late(t *testing.T, b *Book, now, age int, should ...int) {
	t.Helper()
	if l := b.Late(now, age); !slices.Equal(l, should) {
		t.Errorf("Late(%d, %d): %v, want %v", now, age, l, should)
	}
}

// P25.1: each call.

func TestExampleOfTheDocument(t *testing.T) {
	b := book(t, 0)
	ends(t, b, 0, Sent, 0, api.OK)
	ends(t, b, 0, Dropped, 0, api.ErrTwice)
	has(t, b, 0, 0, Sent, 0)
	counts(t, b, 0, 1, 0, 0)
}

func TestFates(t *testing.T) {
	for _, c := range []struct {
		f, is Fate
		word  string
	}{
		{Pending, 0, "pending"},
		{Sent, 1, "sent"},
		{Dropped, 2, "dropped"},
		{Cancelled, 3, "cancelled"},
		{4, 4, "no fate"},
		{-1, -1, "no fate"},
		{math.MaxInt, math.MaxInt, "no fate"},
		{math.MinInt, math.MinInt, "no fate"},
	} {
		if c.f != c.is || c.f.String() != c.word {
			t.Errorf("fate %d: %d, %q, want %q", c.is, c.f, c.f.String(), c.word)
		}
	}
}

func TestABookWithoutFrames(t *testing.T) {
	var b Book
	counts(t, &b, 0, 0, 0, 0)
	for _, n := range []int{0, -1, 1, math.MaxInt, math.MinInt} {
		has(t, &b, n, 5, Pending, 0)
		ends(t, &b, n, Sent, 5, api.ErrNone)
	}
	late(t, &b, 0, 0)
	late(t, &b, api.MaxTick, 0)
	counts(t, &b, 0, 0, 0, 0)
}

func TestAccept(t *testing.T) {
	b := new(Book)
	for i, now := range []int{0, 0, 5, api.MaxTick, 3} {
		if n := b.Accept(now); n != i {
			t.Errorf("Accept(%d): %d, want %d", now, n, i)
		}
		counts(t, b, i+1, 0, 0, 0)
		has(t, b, i, now, Pending, 0)
	}
	// A number is never given again, whatever became of its frame.
	ends(t, b, 4, Cancelled, 9, api.OK)
	if n := b.Accept(9); n != 5 {
		t.Errorf("Accept after an End: %d", n)
	}
	has(t, b, 4, 9, Cancelled, 6)
	has(t, b, 5, 9, Pending, 0)
}

func TestEndOfEachKind(t *testing.T) {
	b := book(t, 10, 20, 30, 40)
	ends(t, b, 2, Sent, 35, api.OK)
	counts(t, b, 3, 1, 0, 0)
	ends(t, b, 0, Dropped, 40, api.OK)
	counts(t, b, 2, 1, 1, 0)
	ends(t, b, 3, Cancelled, 41, api.OK)
	counts(t, b, 1, 1, 1, 1)
	ends(t, b, 1, Sent, 50, api.OK)
	counts(t, b, 0, 2, 1, 1)
	for n, should := range []ending{{0, Dropped, 30}, {1, Sent, 30}, {2, Sent, 5}, {3, Cancelled, 1}} {
		has(t, b, n, 60, should.f, should.now)
	}
}

// Errors change nothing; the one that the document names first is returned.
func TestErrorsOfEnd(t *testing.T) {
	for _, c := range []struct {
		n int
		f Fate
		e api.Errno
	}{
		{2, Sent, api.ErrNone},
		{3, Dropped, api.ErrNone},
		{-1, Cancelled, api.ErrNone},
		{math.MaxInt, Sent, api.ErrNone},
		{math.MinInt, Sent, api.ErrNone},
		{0, Pending, api.ErrKind},
		{0, 4, api.ErrKind},
		{0, -1, api.ErrKind},
		{0, math.MaxInt, api.ErrKind},
		{0, math.MinInt, api.ErrKind},
		{1, Sent, api.ErrTwice},
		{1, Dropped, api.ErrTwice},
		{1, Cancelled, api.ErrTwice},
		// Several apply.
		{2, Pending, api.ErrNone},
		{-1, 4, api.ErrNone},
		{1, Pending, api.ErrKind},
		{1, 4, api.ErrKind},
		{1, -1, api.ErrKind},
	} {
		b := book(t, 10, 20)
		ends(t, b, 1, Dropped, 25, api.OK)
		ends(t, b, c.n, c.f, 70, c.e)
		has(t, b, 0, 80, Pending, 70)
		has(t, b, 1, 80, Dropped, 5)
		counts(t, b, 1, 0, 1, 0)
		late(t, b, 80, 0, 0)
		// The frame that is pending can still end.
		ends(t, b, 0, Cancelled, 90, api.OK)
		has(t, b, 0, 95, Cancelled, 80)
	}
}

func TestFateOfAFrameThatIsPending(t *testing.T) {
	b := book(t, 0, 7)
	for _, now := range []int{7, 8, 100, api.MaxTick} {
		has(t, b, 0, now, Pending, now)
		has(t, b, 1, now, Pending, now-7)
	}
}

// For how long a frame was pending does not depend on when that is asked.
func TestFateOfAFrameThatEnded(t *testing.T) {
	b := book(t, 7, 7, 7)
	ends(t, b, 0, Sent, 7, api.OK)
	ends(t, b, 1, Dropped, 12, api.OK)
	ends(t, b, 2, Cancelled, api.MaxTick, api.OK)
	for _, now := range []int{0, 7, 12, 99, api.MaxTick} {
		has(t, b, 0, now, Sent, 0)
		has(t, b, 1, now, Dropped, 5)
		has(t, b, 2, now, Cancelled, api.MaxTick-7)
	}
}

func TestFateOfNoFrame(t *testing.T) {
	b := book(t, 1, 2)
	ends(t, b, 1, Sent, 4, api.OK)
	for _, n := range []int{2, 3, -1, math.MaxInt, math.MinInt} {
		has(t, b, n, 0, Pending, 0)
		has(t, b, n, api.MaxTick, Pending, 0)
	}
}

func TestCountOfNoFate(t *testing.T) {
	b := book(t, 1, 2, 3)
	ends(t, b, 1, Cancelled, 4, api.OK)
	for _, f := range []Fate{-1, 4, 9, math.MaxInt, math.MinInt} {
		if n := b.Count(f); n != 0 {
			t.Errorf("Count(%d): %d", f, n)
		}
	}
	counts(t, b, 2, 0, 0, 1)
}

func TestLate(t *testing.T) {
	b := book(t, 0, 10, 10, 25, 40)
	for _, c := range []struct {
		now, age int
		l        []int
	}{
		{40, 0, []int{0, 1, 2, 3, 4}},
		{40, 1, []int{0, 1, 2, 3}},
		{40, 15, []int{0, 1, 2, 3}},
		{40, 16, []int{0, 1, 2}},
		{40, 30, []int{0, 1, 2}},
		{40, 31, []int{0}},
		{40, 40, []int{0}},
		{40, 41, nil},
		{40, api.MaxTick, nil},
		{41, 1, []int{0, 1, 2, 3, 4}},
		{api.MaxTick, api.MaxTick, []int{0}},
		{api.MaxTick, api.MaxTick - 1, []int{0}},
		{api.MaxTick, api.MaxTick - 10, []int{0, 1, 2}},
		{api.MaxTick, 0, []int{0, 1, 2, 3, 4}},
	} {
		late(t, b, c.now, c.age, c.l...)
	}
}

func TestLateHasOnlyWhatIsPending(t *testing.T) {
	b := book(t, 0, 0, 0, 0, 0, 0)
	for _, c := range []struct {
		n int
		f Fate
		l []int
	}{
		{3, Sent, []int{0, 1, 2, 4, 5}},
		{1, Dropped, []int{0, 2, 4, 5}},
		{0, Cancelled, []int{2, 4, 5}},
		{5, Sent, []int{2, 4}},
		{2, Dropped, []int{4}},
		{4, Cancelled, nil},
	} {
		ends(t, b, c.n, c.f, 3, api.OK)
		late(t, b, 9, 9, c.l...)
		late(t, b, 9, 10)
	}
	if n := b.Accept(5); n != 6 {
		t.Errorf("Accept: %d", n)
	}
	late(t, b, 9, 4, 6)
}

// Ticks may decrease from call to call: what lies after now is not late, even if the age is 0.
func TestTicksThatDecrease(t *testing.T) {
	b := book(t, 50, 10, 30)
	late(t, b, 30, 0, 1, 2)
	late(t, b, 30, 20, 1)
	late(t, b, 9, 0)
	late(t, b, 50, 20, 1, 2)
	has(t, b, 0, 40, Pending, -10)
	ends(t, b, 0, Sent, 45, api.OK)
	has(t, b, 0, 60, Sent, -5)
	ends(t, b, 2, Sent, 35, api.OK)
	has(t, b, 2, 20, Sent, 5)
}

func TestTheGreatestTicks(t *testing.T) {
	b := book(t, 0, api.MaxTick)
	has(t, b, 0, api.MaxTick, Pending, api.MaxTick)
	has(t, b, 1, api.MaxTick, Pending, 0)
	ends(t, b, 0, Dropped, api.MaxTick, api.OK)
	has(t, b, 0, 0, Dropped, api.MaxTick)
	late(t, b, api.MaxTick, 0, 1)
}

// K3: results share no memory that a later call changes.
func TestResultsApart(t *testing.T) {
	b := book(t, 0, 1, 2)
	l, other := b.Late(5, 0), b.Late(5, 4)
	ends(t, b, 0, Sent, 6, api.OK)
	b.Accept(6)
	b.Late(9, 0)
	if !slices.Equal(l, []int{0, 1, 2}) || !slices.Equal(other, []int{0, 1}) {
		t.Errorf("%v, %v", l, other)
	}
	l[1], other[1] = 7, 8
	late(t, b, 9, 0, 1, 2, 3)
}

func TestAskingChangesNothing(t *testing.T) {
	b := book(t, 0, 3)
	ends(t, b, 0, Sent, 2, api.OK)
	for range 3 {
		has(t, b, 0, 9, Sent, 2)
		has(t, b, 1, 9, Pending, 6)
		late(t, b, 9, 6, 1)
		counts(t, b, 1, 1, 0, 0)
	}
}

func TestBooksAreApart(t *testing.T) {
	a, b := book(t, 0, 1), book(t, 5)
	ends(t, a, 0, Sent, 3, api.OK)
	ends(t, b, 1, Sent, 7, api.ErrNone)
	ends(t, b, 0, Dropped, 7, api.OK)
	counts(t, a, 1, 1, 0, 0)
	counts(t, b, 0, 0, 1, 0)
	has(t, a, 0, 9, Sent, 3)
	has(t, b, 0, 9, Dropped, 2)
	late(t, a, 9, 0, 1)
	late(t, b, 9, 0)
}

// Late does not go through what has ended, up to the first frame that is pending.
func TestALongBook(t *testing.T) {
	b := new(Book)
	for i := range 1 << 18 {
		b.Accept(i)
		if i > 0 {
			ends(t, b, i-1, Sent, i, api.OK)
		}
		if l := b.Late(i, 0); !slices.Equal(l, []int{i}) || b.first != i {
			t.Fatalf("Late: %v, from %d on, want %d", l, b.first, i)
		}
	}
	counts(t, b, 1, 1<<18-1, 0, 0)
	has(t, b, 0, 9, Sent, 1)
}

// P25.2: ONE.

func TestAFateNeverChanges(t *testing.T) {
	for _, f := range []Fate{Sent, Dropped, Cancelled} {
		b := book(t, 10, 10)
		ends(t, b, 0, f, 14, api.OK)
		for _, next := range []Fate{Sent, Dropped, Cancelled} {
			ends(t, b, 0, next, 20, api.ErrTwice)
			has(t, b, 0, 30, f, 4)
		}
		for _, next := range []Fate{Pending, -1, 4} {
			ends(t, b, 0, next, 20, api.ErrKind)
			has(t, b, 0, 30, f, 4)
		}
		ends(t, b, 1, Sent, 20, api.OK)
		b.Accept(20)
		b.Late(30, 0)
		has(t, b, 0, 30, f, 4)
		if n := b.Count(f); n < 1 || b.Len() != 3 {
			t.Errorf("Count(%d): %d of %d", f, n, b.Len())
		}
	}
}

func TestOne(t *testing.T) {
	random := rand.New(rand.NewSource(252))
	for range 50 {
		b := new(Book)
		var fates []Fate
		for now := range 400 {
			if random.Intn(3) == 0 {
				b.Accept(now)
				fates = append(fates, Pending)
			}
			n, f := random.Intn(len(fates)+3)-1, Fate(random.Intn(6)-1)
			if b.End(n, f, now) == api.OK {
				if fates[n] != Pending {
					t.Fatalf("frame %d: %d, then %d", n, fates[n], f)
				}
				fates[n] = f
			}
			sums := map[Fate]int{}
			for n, should := range fates {
				sums[should]++
				if is, _ := b.Fate(n, now); is != should {
					t.Fatalf("frame %d: %d, became %d", n, should, is)
				}
			}
			counts(t, b, sums[Pending], sums[Sent], sums[Dropped], sums[Cancelled])
		}
		if b.Count(Sent) == 0 || b.Count(Dropped) == 0 || b.Count(Cancelled) == 0 {
			t.Fatal("no frame of some fate")
		}
	}
}

// P25.1 and P25.2, each by the pair: any calls.

// TestAllShortHistories goes through every sequence of a few calls.
func TestAllShortHistories(t *testing.T) {
	steps := []func(p *pair, now int){
		func(p *pair, now int) { p.accept(now) },
		func(p *pair, now int) { p.accept(now + 2) },
		func(p *pair, now int) { p.end(0, Sent, now) },
		func(p *pair, now int) { p.end(0, Dropped, now+1) },
		func(p *pair, now int) { p.end(1, Cancelled, now) },
		func(p *pair, now int) { p.end(1, Pending, now) },
		func(p *pair, now int) { p.end(2, Dropped, now) },
	}
	const length = 6
	total := 1
	for range length {
		total *= len(steps)
	}
	for history := range total {
		p := &pair{t: t}
		for now := range length {
			steps[history%len(steps)](p, now)
			p.same(now+1, 0, 1, 2)
			history /= len(steps)
		}
	}
}

func TestAnyCalls(t *testing.T) {
	random := rand.New(rand.NewSource(25))
	for range 60 {
		p := &pair{t: t}
		// Ticks go up and down in some of the books.
		back := 3 * random.Intn(2)
		now := 50
		for range 120 {
			now = max(0, now+random.Intn(5)-random.Intn(back+1))
			switch random.Intn(5) {
			case 0, 1:
				p.accept(now)
			default:
				p.end(random.Intn(len(p.like.accepts)+3)-1, Fate(random.Intn(6)-1), now)
			}
			p.same(now, 0, random.Intn(20), random.Intn(200))
		}
	}
}
