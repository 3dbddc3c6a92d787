package extend

import (
	"math/rand"
	"testing"
)

// answer is what a Put returns.
type answer struct {
	at int64
	ok bool
}

// seqModel is a Seq by the document's words: all results, and the far numbers of the run.
type seqModel struct {
	results []int64
	run     []uint16
	jumps   int
}

func (m *seqModel) most() int64 {
	var most int64
	for _, at := range m.results {
		most = max(most, at)
	}
	return most
}

// nearest is the first number that goes round to n, from half a range below most on.
func nearest(most, n, modulus int64) int64 {
	from := most - modulus/2
	return from + ((n-from)%modulus+modulus)%modulus
}

func (m *seqModel) put(n uint16) answer {
	if len(m.results) == 0 {
		return m.take(First + int64(n))
	}
	if at := nearest(m.most(), int64(n), 65536); max(at-m.most(), m.most()-at) <= Far {
		return m.take(at)
	}
	if l := len(m.run); l > 0 && m.run[l-1]+1 != n {
		m.run = nil
	}
	m.run = append(m.run, n)
	if len(m.run) < Sure {
		return answer{}
	}
	m.jumps++
	cycles := m.most() / 65536
	return m.take((cycles+2)*65536 + int64(n))
}

func (m *seqModel) take(at int64) answer {
	m.results = append(m.results, at)
	m.run = nil
	return answer{at, true}
}

// agrees puts numbers into a new Seq, and into its model.
func agrees(t *testing.T, numbers ...uint16) {
	t.Helper()
	var s Seq
	var m seqModel
	for i, n := range numbers {
		want := m.put(n)
		if at, ok := s.Put(n); at != want.at || ok != want.ok {
			t.Fatalf("Put %d of %v: %d, %v, want %d, %v", i, numbers[:i+1], at, ok, want.at, want.ok)
		}
		if s.Most() != m.most() || s.Jumps() != m.jumps {
			t.Fatalf("after %v: Most %d, Jumps %d, want %d, %d", numbers[:i+1], s.Most(), s.Jumps(), m.most(), m.jumps)
		}
	}
}

// put is one Put, and what is to be seen after it.
type put struct {
	n     uint16
	at    int64
	ok    bool
	most  int64
	jumps int
}

func check(t *testing.T, puts []put) {
	t.Helper()
	var s Seq
	for i, p := range puts {
		if at, ok := s.Put(p.n); at != p.at || ok != p.ok {
			t.Errorf("Put %d, of %d: %d, %v, want %d, %v", i, p.n, at, ok, p.at, p.ok)
		}
		if s.Most() != p.most || s.Jumps() != p.jumps {
			t.Errorf("after Put %d: Most %d, Jumps %d, want %d, %d", i, s.Most(), s.Jumps(), p.most, p.jumps)
		}
	}
}

// P8.1: Seq.

func TestConstants(t *testing.T) {
	if Far != 3000 || Sure != 2 || First != 1048576 || Epoch != 68719476736 {
		t.Errorf("Far %d, Sure %d, First %d, Epoch %d", Far, Sure, First, int64(Epoch))
	}
}

func TestNothingReceived(t *testing.T) {
	var s Seq
	if s.Most() != 0 || s.Jumps() != 0 {
		t.Errorf("Most %d, Jumps %d", s.Most(), s.Jumps())
	}
}

func TestFirstNumber(t *testing.T) {
	for n := range 1 << 16 {
		var s Seq
		want := int64(1048576 + n)
		if at, ok := s.Put(uint16(n)); at != want || !ok {
			t.Fatalf("Put(%d): %d, %v", n, at, ok)
		}
		if s.Most() != want || s.Jumps() != 0 {
			t.Fatalf("after Put(%d): Most %d, Jumps %d", n, s.Most(), s.Jumps())
		}
	}
}

func TestExampleOfTheDocument(t *testing.T) {
	check(t, []put{
		{65535, 1114111, true, 1114111, 0},
		{0, 1114112, true, 1114112, 0},
	})
}

func TestTheMostStaysTheGreatest(t *testing.T) {
	check(t, []put{
		{100, First + 100, true, First + 100, 0},
		{90, First + 90, true, First + 100, 0},
		{100, First + 100, true, First + 100, 0},
		{65535, First - 1, true, First + 100, 0},
		{3100, First + 3100, true, First + 3100, 0},
		{100, First + 100, true, First + 3100, 0}, // Far is from the greatest on
		{99, 0, false, First + 3100, 0},
	})
}

func TestFarIsStillNear(t *testing.T) {
	for _, n := range []uint16{0, 1, 2999, 3000, 3001, 32767, 32768, 40000, 62535, 62536, 65535} {
		most := First + int64(n)
		check(t, []put{{n, most, true, most, 0}, {n + 3000, most + 3000, true, most + 3000, 0}})
		check(t, []put{{n, most, true, most, 0}, {n - 3000, most - 3000, true, most, 0}})
		check(t, []put{{n, most, true, most, 0}, {n + 3001, 0, false, most, 0}})
		check(t, []put{{n, most, true, most, 0}, {n - 3001, 0, false, most, 0}})
		check(t, []put{{n, most, true, most, 0}, {n + 32768, 0, false, most, 0}})
	}
}

func TestEverySecondNumber(t *testing.T) {
	for _, first := range []uint16{0, 1, 3000, 32768, 65535} {
		for n := range 1 << 16 {
			agrees(t, first, uint16(n), uint16(n+1), uint16(n+2), first)
		}
	}
}

func TestNewBeginning(t *testing.T) {
	most := int64(First + 100)
	check(t, []put{
		{100, most, true, most, 0},
		{9000, 0, false, most, 0},
		{9001, First + 2*65536 + 9001, true, First + 2*65536 + 9001, 1},
		{9000, First + 2*65536 + 9000, true, First + 2*65536 + 9001, 1}, // it is near now
		{100, 0, false, First + 2*65536 + 9001, 1},
		{101, First + 4*65536 + 101, true, First + 4*65536 + 101, 2},
	})
}

func TestNewBeginningAtTheEndsOfACycle(t *testing.T) {
	check(t, []put{
		{65535, First + 65535, true, First + 65535, 0},
		{3999, 0, false, First + 65535, 0},
		{4000, First + 2*65536 + 4000, true, First + 2*65536 + 4000, 1},
	})
	check(t, []put{
		{65535, First + 65535, true, First + 65535, 0},
		{0, First + 65536, true, First + 65536, 0},
		{3999, 0, false, First + 65536, 0},
		{4000, First + 3*65536 + 4000, true, First + 3*65536 + 4000, 1},
	})
	check(t, []put{
		{30000, First + 30000, true, First + 30000, 0},
		{65534, 0, false, First + 30000, 0},
		{65535, First + 2*65536 + 65535, true, First + 2*65536 + 65535, 1},
	})
	// What is awaited wraps around.
	check(t, []put{
		{30000, First + 30000, true, First + 30000, 0},
		{65535, 0, false, First + 30000, 0},
		{0, First + 2*65536, true, First + 2*65536, 1},
	})
}

func TestNoNumberIsAwaitedAtFirst(t *testing.T) {
	most := int64(First + 30000)
	check(t, []put{
		{30000, most, true, most, 0},
		{0, 0, false, most, 0},
		{0, 0, false, most, 0},
		{1, First + 2*65536 + 1, true, First + 2*65536 + 1, 1},
		{30000, 0, false, First + 2*65536 + 1, 1},
	})
}

func TestWhatDoesNotFollowBeginsARun(t *testing.T) {
	most := int64(First + 100)
	check(t, []put{
		{100, most, true, most, 0},
		{9000, 0, false, most, 0},
		{9000, 0, false, most, 0},
		{9002, 0, false, most, 0},
		{9001, 0, false, most, 0},
		{20000, 0, false, most, 0},
		{9002, 0, false, most, 0},
		{9003, First + 2*65536 + 9003, true, First + 2*65536 + 9003, 1},
	})
}

func TestANearNumberEndsTheRun(t *testing.T) {
	most := int64(First + 100)
	check(t, []put{
		{100, most, true, most, 0},
		{9000, 0, false, most, 0},
		{99, most - 1, true, most, 0},
		{9001, 0, false, most, 0},
		{9002, First + 2*65536 + 9002, true, First + 2*65536 + 9002, 1},
	})
}

func TestAnAwaitedNumberMayBeNear(t *testing.T) {
	most := int64(First + 10000)
	check(t, []put{
		{10000, most, true, most, 0},
		{6999, 0, false, most, 0},
		{7000, most - 3000, true, most, 0},
		{6999, 0, false, most, 0},
		{6998, 0, false, most, 0},
		{6999, First + 2*65536 + 6999, true, First + 2*65536 + 6999, 1},
	})
	check(t, []put{
		{10000, most, true, most, 0},
		{13001, 0, false, most, 0},
		{10002, most + 2, true, most + 2, 0},
		{13002, most + 3002, true, most + 3002, 0},
	})
}

// anyNumbers are numbers that are near, far, late, and in runs.
func anyNumbers(random *rand.Rand, many int) []uint16 {
	var l []uint16
	n := uint16(random.Uint32())
	for range many {
		switch random.Intn(8) {
		case 0:
			n = uint16(random.Uint32())
		case 1:
			n += uint16(random.Intn(6010) - 3005)
		case 2:
			n -= uint16(random.Intn(10))
		case 3: // the same again
		default:
			n++
		}
		l = append(l, n)
	}
	return l
}

func TestAnyNumbers(t *testing.T) {
	random := rand.New(rand.NewSource(8))
	for range 2000 {
		agrees(t, anyNumbers(random, 60)...)
	}
}

func TestShortSequencesOfEdges(t *testing.T) {
	edges := []uint16{0, 1, 2, 3000, 3001, 3002, 30000, 65535}
	for i := range len(edges) * len(edges) * len(edges) * len(edges) * len(edges) {
		var l []uint16
		for range 5 {
			l = append(l, edges[i%len(edges)])
			i /= len(edges)
		}
		agrees(t, l...)
	}
}

func TestSeqsAreValues(t *testing.T) {
	var s, other Seq
	s.Put(100)
	s.Put(9000)
	copied := s
	if at, ok := copied.Put(9001); !ok || at != First+2*65536+9001 {
		t.Errorf("Put on a copy: %d, %v", at, ok)
	}
	if s.Most() != First+100 || s.Jumps() != 0 || other.Most() != 0 {
		t.Errorf("Most %d, Jumps %d; of another one: %d", s.Most(), s.Jumps(), other.Most())
	}
	if at, ok := other.Put(9001); !ok || at != First+9001 {
		t.Errorf("Put on another one: %d, %v", at, ok)
	}
}

// P8.1: Clock.

func TestFirstTime(t *testing.T) {
	for _, n := range []uint32{0, 1, 65535, 65536, 1<<31 - 1, 1 << 31, 1<<32 - 1} {
		var c Clock
		if at := c.Put(n); at != 68719476736+int64(n) {
			t.Errorf("Put(%d): %d", n, at)
		}
	}
}

func TestTimes(t *testing.T) {
	type time struct {
		t  uint32
		at int64
	}
	for i, l := range [][]time{
		{{5, Epoch + 5}, {5, Epoch + 5}, {3, Epoch + 3}, {9, Epoch + 9}},
		{{1<<32 - 1, Epoch + 1<<32 - 1}, {0, Epoch + 1<<32}, {1<<32 - 2, Epoch + 1<<32 - 2}, {1, Epoch + 1<<32 + 1}},
		{{0, Epoch}, {1<<32 - 1, Epoch - 1}, {1, Epoch + 1}},
		{{0, Epoch}, {1<<31 - 1, Epoch + 1<<31 - 1}, {1<<32 - 2, Epoch + 1<<32 - 2}, {1<<32 - 1, Epoch + 1<<32 - 1}, {0, Epoch + 1<<32}},
		// Half the range is taken for the past, and the greatest result stays.
		{{0, Epoch}, {1 << 31, Epoch - 1<<31}, {1<<31 + 1, Epoch - 1<<31 + 1}, {1<<31 - 1, Epoch + 1<<31 - 1}, {1 << 31, Epoch + 1<<31}},
		{{7, Epoch + 7}, {1<<31 + 7, Epoch - 1<<31 + 7}, {1<<31 + 6, Epoch + 1<<31 + 6}},
		// Sixteen bits don't go round here.
		{{65535, Epoch + 65535}, {0, Epoch}, {65536, Epoch + 65536}, {200000, Epoch + 200000}},
	} {
		var c Clock
		for j, x := range l {
			if at := c.Put(x.t); at != x.at {
				t.Errorf("list %d: Put %d, of %d: %d, want %d", i, j, x.t, at, x.at)
			}
		}
	}
}

// timesAgree puts times into a new Clock, and looks at each result by the document's words.
func timesAgree(t *testing.T, times ...uint32) {
	t.Helper()
	var c Clock
	var most int64
	for i, n := range times {
		want := Epoch + int64(n)
		if i > 0 {
			want = nearest(most, int64(n), 1<<32)
		}
		if at := c.Put(n); at != want {
			t.Fatalf("Put %d of %v: %d, want %d", i, times[:i+1], at, want)
		}
		most = max(most, want)
	}
}

func TestAnyTimes(t *testing.T) {
	random := rand.New(rand.NewSource(9))
	for range 2000 {
		var times []uint32
		n := random.Uint32()
		for range 40 {
			switch random.Intn(4) {
			case 0:
				n = random.Uint32()
			case 1:
				n += 1<<31 - 2 + uint32(random.Intn(5))
			default:
				n += uint32(random.Intn(6000) - 1000)
			}
			times = append(times, n)
		}
		timesAgree(t, times...)
	}
}

func TestManyTimes(t *testing.T) {
	var c Clock
	want := c.Put(1 << 31)
	for range 1 << 17 {
		want += 1<<31 - 1
		if at := c.Put(uint32(want)); at != want {
			t.Fatalf("Put(%d): %d, want %d", uint32(want), at, want)
		}
	}
}

// P8.2: ROUND.

func TestResultsGoRoundToWhatWasPassed(t *testing.T) {
	random := rand.New(rand.NewSource(10))
	for range 1000 {
		var s Seq
		var c Clock
		for _, n := range anyNumbers(random, 60) {
			if at, ok := s.Put(n); ok && uint16(at) != n {
				t.Fatalf("Put(%d): %d", n, at)
			}
			time := random.Uint32()
			if at := c.Put(time); uint32(at) != time {
				t.Fatalf("Put(%d): %d", time, at)
			}
		}
	}
}

// P8.3: differences are preserved.

func TestDifferencesArePreserved(t *testing.T) {
	random := rand.New(rand.NewSource(11))
	for range 300 {
		var s Seq
		first := int64(random.Intn(1 << 16))
		greatest := first
		at, ok := s.Put(uint16(first))
		base := at - first
		for range 200 {
			n := greatest + int64(random.Intn(2*Far+1)-Far)
			at, ok = s.Put(uint16(n))
			if !ok || at-n != base {
				t.Fatalf("%d after %d: %d, %v", n, greatest, at, ok)
			}
			greatest = max(greatest, n)
		}
		if s.Most() != greatest+base || s.Jumps() != 0 {
			t.Fatalf("Most %d, Jumps %d", s.Most(), s.Jumps())
		}
	}
}

func TestGreatestSteps(t *testing.T) {
	var s Seq
	want, _ := s.Put(77)
	for range 1 << 17 {
		want += Far
		if at, ok := s.Put(uint16(want)); at != want || !ok {
			t.Fatalf("Put(%d): %d, %v, want %d", uint16(want), at, ok, want)
		}
	}
}

// P8.4: after a new beginning all results are greater than all before it.

func TestNewBeginningsLieAboveAll(t *testing.T) {
	random := rand.New(rand.NewSource(12))
	jumps := 0
	for range 1000 {
		var s Seq
		var most, before int64
		for _, n := range anyNumbers(random, 100) {
			was := s.Jumps()
			at, ok := s.Put(n)
			if s.Jumps() != was {
				before = most
				jumps++
			}
			if ok && at <= before {
				t.Fatalf("Put(%d): %d, and %d before the new beginning", n, at, before)
			}
			most = max(most, at)
		}
	}
	if jumps < 1000 {
		t.Errorf("only %d new beginnings", jumps)
	}
}

func TestManyNewBeginnings(t *testing.T) {
	var s Seq
	s.Put(0)
	for i := range 1 << 18 {
		before := s.Most()
		n := uint16(i*4001 + 5000)
		if _, ok := s.Put(n); ok {
			continue // it is near this time
		}
		at, ok := s.Put(n + 1)
		if !ok || uint16(at) != n+1 || at-Far <= before || at/65536 != before/65536+2 {
			t.Fatalf("Put(%d): %d, %v after %d", n+1, at, ok, before)
		}
	}
	if s.Jumps() < 1<<17 {
		t.Errorf("only %d new beginnings", s.Jumps())
	}
}

func FuzzPut(f *testing.F) {
	f.Add("\xff\xff\x00\x00")
	f.Add("\x00\x64\x23\x28\x23\x29\x00\x64\x00\x65")
	f.Fuzz(func(t *testing.T, s string) {
		var numbers []uint16
		var times []uint32
		for len(s) > 3 {
			a, b := uint16(s[0])<<8|uint16(s[1]), uint16(s[2])<<8|uint16(s[3])
			numbers = append(numbers, a, b)
			times = append(times, uint32(a)<<16|uint32(b))
			s = s[4:]
		}
		if len(numbers) > 1000 {
			return
		}
		agrees(t, numbers...)
		timesAgree(t, times...)
	})
}
