package report

import (
	"math"
	"math/big"
	"math/rand"
	"reflect"
	"slices"
	"strings"
	"testing"

	"antiphon/api"
	"antiphon/ring"
	"antiphon/rtcp"
)

// P17.1: a clock.

// at fails the test unless a clock says this of a time.
func at(t *testing.T, c *Clock, time uint32, ntp uint64) {
	t.Helper()
	if is, ok := c.At(time); is != ntp || !ok {
		t.Errorf("At(%d): %x, %v, want %x", time, is, ok, ntp)
	}
}

func TestExampleOfTheDocument(t *testing.T) {
	var c Clock
	c.Put(rtcp.Sender{})
	at(t, &c, 45000, 1<<31)
}

func TestNoReport(t *testing.T) {
	for _, n := range []uint32{0, 1, 90000, math.MaxUint32} {
		var c Clock
		if is, ok := c.At(n); is != 0 || ok {
			t.Errorf("At(%d): %d, %v", n, is, ok)
		}
		if is, ok := c.Time(); is != 0 || ok {
			t.Errorf("Time: %d, %v", is, ok)
		}
		if s, ok := c.Sender(n, n, int(n), 5); !reflect.DeepEqual(s, rtcp.Sender{}) || ok {
			t.Errorf("Sender: %+v, %v", s, ok)
		}
	}
}

func TestAReportOfZeroIsOne(t *testing.T) {
	var c Clock
	c.Put(rtcp.Sender{})
	at(t, &c, 0, 0)
	if is, ok := c.Time(); is != 0 || !ok {
		t.Errorf("Time: %d, %v", is, ok)
	}
	if s, ok := c.Sender(0, 0, 0, 0); !reflect.DeepEqual(s, rtcp.Sender{}) || !ok {
		t.Errorf("Sender: %+v, %v", s, ok)
	}
}

func TestPut(t *testing.T) {
	var c Clock
	for _, s := range []rtcp.Sender{
		{Ssrc: 1, Ntp: 2, Time: 3, Packets: 4, Octets: 5, Blocks: []rtcp.Block{{Ssrc: 6}}},
		{Ntp: math.MaxUint64, Time: math.MaxUint32},
		{Ssrc: 9, Ntp: 10, Time: 11},
		{Ssrc: 9},
	} {
		c.Put(s)
		if is, ok := c.Time(); is != s.Time || !ok {
			t.Errorf("Time: %d, %v, want %d", is, ok, s.Time)
		}
		at(t, &c, s.Time, s.Ntp)
	}
}

func TestAt(t *testing.T) {
	const second = 1 << 32
	for _, c := range []struct {
		ntp        uint64
		from, time uint32
		at         uint64
	}{
		{0, 0, 90000, second},
		{0, 0, 1, 47721},
		{0, 0, 2, 95443},
		{0, 0, 89999, second - 47722},
		{0, 0, 90001, second + 47721},
		{7, 0, 0, 7},
		{10 * second, 5000, 5000, 10 * second},
		{10 * second, 5000, 95000, 11 * second},
		{10 * second, 95000, 5000, 9 * second},
		{10 * second, 95000, 94999, 10*second - 47721},
		{10 * second, 95000, 94998, 10*second - 95443},
		{10 * second, 95000, 4999, 9*second - 47721},
		{10 * second, 95000, 50000, 10*second - second/2},
		// The source's time wraps around.
		{10 * second, 1<<32 - 90000, 0, 11 * second},
		{10 * second, 1<<32 - 90000, 45000, 11*second + second/2},
		{10 * second, 0, 1<<32 - 90000, 9 * second},
		// The Ntp time wraps around.
		{math.MaxUint64, 0, 90000, second - 1},
		{0, 90000, 0, math.MaxUint64 - second + 1},
		{5, 1, 0, math.MaxUint64 - 47715},
		// The farthest times: 2^31 - 1 is 23860 seconds and 83647 of 90000 more; 2^31 is one more.
		{0, 0, 1<<31 - 1, 23860*second + 83647*second/90000},
		{0, 5, 5 + 1<<31 - 1, 23860*second + 83647*second/90000},
		{24000 * second, 0, 1 << 31, 140*second - 83648*second/90000},
		{24000 * second, 1 << 31, 0, 140*second - 83648*second/90000},
		{24000 * second, 1<<31 + 9, 9, 140*second - 83648*second/90000},
		{24000 * second, 0, 1<<31 + 1, 140*second - 83647*second/90000},
	} {
		var k Clock
		k.Put(rtcp.Sender{Ntp: c.ntp, Time: c.from})
		at(t, &k, c.time, c.at)
	}
}

// likeAt is what At returns, by numbers of any size.
func likeAt(ntp uint64, from, time uint32) uint64 {
	wrap := new(big.Int).Lsh(big.NewInt(1), 64)
	d := new(big.Int).Sub(big.NewInt(int64(time)), big.NewInt(int64(from)))
	turn := new(big.Int).Lsh(big.NewInt(1), 32)
	d.Mod(d, turn)
	if d.BitLen() == 32 {
		d.Sub(d, turn)
	}
	seconds, rest := new(big.Int).QuoRem(d, big.NewInt(90000), new(big.Int))
	sum := new(big.Int).SetUint64(ntp)
	sum.Add(sum, seconds.Mul(seconds, turn))
	sum.Add(sum, rest.Mul(rest, turn).Quo(rest, big.NewInt(90000)))
	return sum.Mod(sum, wrap).Uint64()
}

func TestAtOfRandomTimes(t *testing.T) {
	random := rand.New(rand.NewSource(17))
	for range 20000 {
		var c Clock
		ntp, from, time := random.Uint64(), random.Uint32(), random.Uint32()
		c.Put(rtcp.Sender{Ntp: ntp, Time: from})
		at(t, &c, time, likeAt(ntp, from, time))
		time = from + uint32(random.Intn(400000)) - 200000
		at(t, &c, time, likeAt(ntp, from, time))
	}
}

func FuzzAt(f *testing.F) {
	f.Add(uint64(0), uint32(0), uint32(45000))
	f.Add(uint64(math.MaxUint64), uint32(1), uint32(1<<31+1))
	f.Fuzz(func(t *testing.T, ntp uint64, from, time uint32) {
		var c Clock
		c.Put(rtcp.Sender{Ntp: ntp, Time: from})
		at(t, &c, time, likeAt(ntp, from, time))
	})
}

func TestSender(t *testing.T) {
	var c Clock
	c.Put(rtcp.Sender{Ssrc: 1, Ntp: 2, Time: 3, Packets: 4, Octets: 5, Blocks: []rtcp.Block{{Ssrc: 6}}})
	for _, x := range []struct {
		ssrc, told      uint32
		packets, octets int
		s               rtcp.Sender
	}{
		{0, 0, 0, 0, rtcp.Sender{Ntp: 2}},
		{7, 8, 9, 10, rtcp.Sender{Ssrc: 7, Ntp: 2, Time: 8, Packets: 9, Octets: 10}},
		{math.MaxUint32, math.MaxUint32, math.MaxUint32, math.MaxUint32,
			rtcp.Sender{Ssrc: math.MaxUint32, Ntp: 2, Time: math.MaxUint32, Packets: math.MaxUint32, Octets: math.MaxUint32}},
		{7, 8, 1 << 32, 1<<33 + 5, rtcp.Sender{Ssrc: 7, Ntp: 2, Time: 8, Octets: 5}},
		{7, 8, -1, -(1 << 32) - 2, rtcp.Sender{Ssrc: 7, Ntp: 2, Time: 8, Packets: math.MaxUint32, Octets: math.MaxUint32 - 1}},
		{7, 8, math.MaxInt, math.MinInt, rtcp.Sender{Ssrc: 7, Ntp: 2, Time: 8, Packets: math.MaxUint32}},
	} {
		if s, ok := c.Sender(x.ssrc, x.told, x.packets, x.octets); !reflect.DeepEqual(s, x.s) || !ok {
			t.Errorf("Sender: %+v, %v, want %+v", s, ok, x.s)
		}
	}
	// Nothing has changed.
	at(t, &c, 3, 2)
}

// P17.1: Read.

// reads fails the test unless Read returns this.
func reads(t *testing.T, ssrc uint32, a Asks, l ...rtcp.Packet) {
	t.Helper()
	if is := Read(ssrc, l...); !same(is, a) {
		t.Errorf("Read(%d, %+v): %+v, want %+v", ssrc, l, is, a)
	}
}

// same: are two of them the same? A list that is nil is an empty one.
func same(a, b Asks) bool {
	return slices.Equal(a.Seqs, b.Seqs) && a.Key == b.Key && a.Rate == b.Rate && a.Gone == b.Gone
}

func nack(to uint32, seqs ...uint16) rtcp.Nack {
	return rtcp.Nack{From: 2, To: to, Pairs: rtcp.Pairs(seqs...)}
}

func remb(rate uint64, ssrcs ...uint32) rtcp.Remb {
	return rtcp.Remb{From: 2, Rate: rate, Ssrcs: ssrcs}
}

func fir(ssrcs ...uint32) rtcp.Fir {
	f := rtcp.Fir{From: 2}
	for i, s := range ssrcs {
		f.Orders = append(f.Orders, rtcp.Order{Ssrc: s, Seq: byte(i)})
	}
	return f
}

// strange is a packet of a type that package rtcp does not have.
type strange struct{ To uint32 }

func (strange) Head() (byte, byte) { return 206, 1 }

// wrapped is one that has the head of a Pli, but is none.
type wrapped struct{ rtcp.Pli }

func TestReadOfNothing(t *testing.T) {
	reads(t, 0, Asks{})
	reads(t, 2, Asks{})
	reads(t, 2, Asks{}, []rtcp.Packet{}...)
}

func TestReadNacks(t *testing.T) {
	reads(t, 2, Asks{}, rtcp.Nack{To: 2})
	reads(t, 2, Asks{Seqs: []uint16{5}}, nack(2, 5))
	reads(t, 2, Asks{}, nack(3, 5))
	reads(t, 3, Asks{}, rtcp.Nack{From: 3, To: 2, Pairs: []rtcp.Pair{{Pid: 1}}})
	reads(t, 2, Asks{Seqs: []uint16{5, 6, 5, 50}}, nack(2, 5, 6), nack(3, 7), nack(2, 5, 50))
	reads(t, 2, Asks{Seqs: []uint16{65535, 0, 15}}, rtcp.Nack{To: 2, Pairs: []rtcp.Pair{{Pid: 65535, Blp: 0x8001}}})
	reads(t, 0, Asks{Seqs: []uint16{0}}, rtcp.Nack{Pairs: []rtcp.Pair{{}}})
}

func TestReadKeys(t *testing.T) {
	reads(t, 2, Asks{Key: true}, rtcp.Pli{From: 1, To: 2})
	reads(t, 1, Asks{}, rtcp.Pli{From: 1, To: 2})
	reads(t, 2, Asks{Key: true}, rtcp.Pli{To: 2}, rtcp.Pli{To: 3})
	reads(t, 2, Asks{}, fir())
	reads(t, 2, Asks{Key: true}, fir(2))
	reads(t, 2, Asks{}, fir(3, 4))
	reads(t, 4, Asks{Key: true}, fir(3, 4))
	reads(t, 3, Asks{Key: true}, fir(3), fir(4), fir())
	reads(t, 2, Asks{}, rtcp.Fir{From: 2, Orders: []rtcp.Order{{Ssrc: 1, Seq: 2}}})
	reads(t, 2, Asks{Key: true}, fir(2), rtcp.Pli{To: 1})
	reads(t, 0, Asks{Key: true}, rtcp.Pli{})
}

func TestReadRates(t *testing.T) {
	reads(t, 2, Asks{}, remb(900))
	reads(t, 2, Asks{Rate: 900}, remb(900, 2))
	reads(t, 2, Asks{}, remb(900, 1, 3))
	reads(t, 3, Asks{Rate: 900}, remb(900, 1, 3))
	reads(t, 2, Asks{Rate: 800}, remb(900, 2), remb(800, 2), remb(850, 2), remb(7, 3))
	reads(t, 2, Asks{Rate: 800}, remb(800, 2), remb(900, 2))
	// 0 is not above 0.
	reads(t, 2, Asks{}, remb(0, 2))
	reads(t, 2, Asks{Rate: 5}, remb(0, 2), remb(5, 2), remb(0, 2))
	reads(t, 2, Asks{Rate: 1}, remb(math.MaxUint64, 2), remb(1, 2))
	reads(t, 2, Asks{Rate: math.MaxUint64}, remb(math.MaxUint64, 2, 2))
}

func TestReadByes(t *testing.T) {
	reads(t, 2, Asks{}, rtcp.Bye{})
	reads(t, 2, Asks{Gone: true}, rtcp.Bye{Ssrcs: []uint32{2}})
	reads(t, 2, Asks{Gone: true}, rtcp.Bye{Ssrcs: []uint32{1, 2}, Reason: "late"}, rtcp.Bye{Ssrcs: []uint32{3}})
	reads(t, 2, Asks{}, rtcp.Bye{Ssrcs: []uint32{1, 3}})
}

func TestReadOthers(t *testing.T) {
	reads(t, 2, Asks{},
		rtcp.Sender{Ssrc: 2, Blocks: []rtcp.Block{{Ssrc: 2}}},
		rtcp.Receiver{Ssrc: 2, Blocks: []rtcp.Block{{Ssrc: 2}}},
		rtcp.Sdes{Chunks: []rtcp.Chunk{{Ssrc: 2, Items: []rtcp.Item{{Kind: 1, Text: "a"}}}}},
		rtcp.Other{Kind: 206, Count: 1, Body: "\x00\x00\x00\x01\x00\x00\x00\x02"},
		strange{To: 2}, &strange{To: 2}, wrapped{rtcp.Pli{To: 2}}, &rtcp.Pli{To: 2}, &rtcp.Bye{Ssrcs: []uint32{2}})
}

func TestReadAll(t *testing.T) {
	reads(t, 2, Asks{Seqs: []uint16{1, 2, 9}, Key: true, Rate: 500, Gone: true},
		rtcp.Bye{Ssrcs: []uint32{2}}, nack(2, 1, 2), remb(600, 2), rtcp.Receiver{}, rtcp.Pli{To: 2}, remb(500, 2), nack(2, 9))
}

// likeRead finds one thing after the other among all packets.
func likeRead(ssrc uint32, l []rtcp.Packet) Asks {
	var a Asks
	for _, n := range rtcp.Nacks(l...) {
		if n.To == ssrc {
			a.Seqs = slices.Concat(a.Seqs, n.Seqs())
		}
	}
	a.Gone = slices.Contains(rtcp.Byes(l...), ssrc)
	var rates []uint64
	for _, p := range l {
		if reflect.DeepEqual(p, rtcp.Pli{From: 2, To: ssrc}) {
			a.Key = true
		}
		if f, ok := p.(rtcp.Fir); ok {
			for _, o := range f.Orders {
				a.Key = a.Key || o.Ssrc == ssrc
			}
		}
		if r, ok := p.(rtcp.Remb); ok && r.Rate > 0 && slices.Index(r.Ssrcs, ssrc) >= 0 {
			rates = append(rates, r.Rate)
		}
	}
	if len(rates) > 0 {
		a.Rate = slices.Min(rates)
	}
	return a
}

func TestReadOfRandomPackets(t *testing.T) {
	random := rand.New(rand.NewSource(171))
	some := func(most int) []uint32 {
		var l []uint32
		for range random.Intn(most) {
			l = append(l, uint32(random.Intn(6)))
		}
		return l
	}
	packet := func() rtcp.Packet {
		to := uint32(random.Intn(6))
		switch random.Intn(6) {
		case 0:
			return nack(to, uint16(random.Intn(9)), uint16(random.Intn(1<<16)))
		case 1:
			return rtcp.Pli{From: 2, To: to}
		case 2:
			return fir(some(4)...)
		case 3:
			return remb(uint64(random.Intn(5)), some(4)...)
		case 4:
			return rtcp.Bye{Ssrcs: some(3)}
		}
		return rtcp.Receiver{Ssrc: to}
	}
	for range 10000 {
		var l []rtcp.Packet
		for range random.Intn(6) {
			l = append(l, packet())
		}
		ssrc := uint32(random.Intn(6))
		reads(t, ssrc, likeRead(ssrc, l), l...)
	}
}

// P17.1 and P17.2: Serve.

// filled is a ring of these packets, numbered from 0 on.
func filled(t *testing.T, most, gap int, texts ...string) *ring.Ring {
	t.Helper()
	r, e := ring.New(64, most, gap)
	if e != api.OK {
		t.Fatalf("New: %d", e)
	}
	for i, s := range texts {
		r.Put(uint16(i), s)
	}
	return r
}

func TestServe(t *testing.T) {
	for i, c := range []struct {
		seqs  []uint16
		bytes int
		sent  []string
	}{
		{nil, 100, nil},
		{[]uint16{}, 0, nil},
		{[]uint16{0, 1, 2, 3}, 100, []string{"aa", "bbb", "c", ""}},
		{[]uint16{3, 2, 1, 0}, 100, []string{"", "c", "bbb", "aa"}},
		{[]uint16{0, 1, 2, 3}, math.MaxInt, []string{"aa", "bbb", "c", ""}},
		// Exactly as many bytes as there are, and one less.
		{[]uint16{0, 1, 2}, 6, []string{"aa", "bbb", "c"}},
		{[]uint16{0, 1, 2}, 5, []string{"aa", "bbb"}},
		{[]uint16{0, 1}, 5, []string{"aa", "bbb"}},
		{[]uint16{0, 1}, 4, []string{"aa"}},
		// It ends at the first one that is too long, even if a later one is not.
		{[]uint16{0, 1, 2, 3}, 4, []string{"aa"}},
		{[]uint16{1, 2, 3}, 2, nil},
		// Those that the ring does not have are passed over.
		{[]uint16{9, 0, 65535, 2}, 3, []string{"aa", "c"}},
		{[]uint16{9, 8}, 3, nil},
		// An empty packet needs no bytes, but it is longer than fewer than none.
		{[]uint16{3}, 0, []string{""}},
		{[]uint16{3}, -1, nil},
		{[]uint16{3, 0}, math.MinInt, nil},
		{[]uint16{3, 0, 3}, 0, []string{""}},
		// One that was sent already costs nothing.
		{[]uint16{0, 0, 0, 2}, 4, []string{"aa", "c"}},
		// But it ends all if it is too long, sent already or not.
		{[]uint16{0, 0, 2}, 3, []string{"aa"}},
	} {
		r := filled(t, 1, 0, "aa", "bbb", "c", "")
		if l := Serve(r, Asks{Seqs: c.seqs}, 0, c.bytes); !slices.Equal(l, c.sent) {
			t.Errorf("%d: %q, want %q", i, l, c.sent)
		}
		if r.Sent() != len(c.sent) {
			t.Errorf("%d: Sent %d", i, r.Sent())
		}
	}
}

func TestServeUsesOnlyTheNumbers(t *testing.T) {
	r := filled(t, 1, 0, "aa", "bbb")
	if l := Serve(r, Asks{Key: true, Rate: 1, Gone: true}, 0, 100); len(l) != 0 {
		t.Errorf("%q", l)
	}
	if l := Serve(r, Asks{Seqs: []uint16{1}, Key: true, Rate: 1, Gone: true}, 0, 100); !slices.Equal(l, []string{"bbb"}) {
		t.Errorf("%q", l)
	}
}

func TestServeAtATick(t *testing.T) {
	r := filled(t, 2, 10, "aa", "b")
	for i, c := range []struct {
		now, bytes int
		sent       []string
	}{
		{5, 2, []string{"aa"}},
		{5, 2, []string{"b"}},          // the first one was just sent again, and costs nothing
		{5, 1, nil},                    // it is still too long
		{14, 100, nil},                 // both are too early
		{15, 100, []string{"aa", "b"}}, // not any more
		{99, 100, nil},                 // both were sent again too often
	} {
		if l := Serve(r, Asks{Seqs: []uint16{0, 1}}, c.now, c.bytes); !slices.Equal(l, c.sent) {
			t.Errorf("%d: %q, want %q", i, l, c.sent)
		}
	}
	if r.Sent() != 4 {
		t.Errorf("Sent: %d", r.Sent())
	}
}

func TestServeOfWhatWasRead(t *testing.T) {
	r := filled(t, 1, 0, "aa", "bbb", "c")
	a := Read(2, nack(3, 0), nack(2, 2, 1), rtcp.Pli{To: 2})
	if l := Serve(r, a, 0, 100); !slices.Equal(l, []string{"c", "bbb"}) {
		t.Errorf("%q", l)
	}
}

// likeServe goes through the numbers with a ring like the other one, and returns what is sent.
func likeServe(r *ring.Ring, seqs []uint16, now, bytes int) []string {
	if len(seqs) == 0 {
		return nil
	}
	text, ok := r.Get(seqs[0])
	if ok && len(text) > bytes {
		return nil
	}
	first := r.All(now, seqs[0])
	return append(first, likeServe(r, seqs[1:], now, bytes-len(strings.Join(first, "")))...)
}

// P17.2: no more bytes are served than permitted.

func TestServeOfRandomRings(t *testing.T) {
	random := rand.New(rand.NewSource(172))
	for range 3000 {
		var texts []string
		for range 1 + random.Intn(10) {
			texts = append(texts, strings.Repeat("x", random.Intn(9)))
		}
		most, gap := random.Intn(3), random.Intn(3)
		r, like := filled(t, most, gap, texts...), filled(t, most, gap, texts...)
		for now := range 5 {
			var seqs []uint16
			for range random.Intn(12) {
				seqs = append(seqs, uint16(random.Intn(len(texts)+2)))
			}
			bytes := random.Intn(40) - 3
			l := Serve(r, Asks{Seqs: seqs}, now, bytes)
			if should := likeServe(like, seqs, now, bytes); !slices.Equal(l, should) || r.Sent() != like.Sent() {
				t.Fatalf("Serve(%v, %d, %d) of %q: %q, want %q", seqs, now, bytes, texts, l, should)
			}
			if n := len(strings.Join(l, "")); n > max(0, bytes) {
				t.Fatalf("%d bytes were served of %d", n, bytes)
			}
		}
	}
}

// K3: arguments stay as they are, and results share nothing with them.

func TestArgumentsAndResultsApart(t *testing.T) {
	n := rtcp.Nack{To: 2, Pairs: []rtcp.Pair{{Pid: 5, Blp: 1}}}
	l := []rtcp.Packet{n, remb(9, 2), fir(2), rtcp.Bye{Ssrcs: []uint32{2}}}
	a, b := Read(2, l...), Read(2, l...)
	a.Seqs[0] = 77
	n.Pairs[0].Pid = 6
	if !slices.Equal(b.Seqs, []uint16{5, 6}) || !slices.Equal(a.Seqs, []uint16{77, 6}) {
		t.Errorf("%v, %v", a.Seqs, b.Seqs)
	}
	want := []rtcp.Packet{rtcp.Nack{To: 2, Pairs: []rtcp.Pair{{Pid: 6, Blp: 1}}}, remb(9, 2), fir(2), rtcp.Bye{Ssrcs: []uint32{2}}}
	if !reflect.DeepEqual(l, want) {
		t.Errorf("%+v", l)
	}
	seqs := []uint16{0, 1, 0}
	r := filled(t, 9, 0, "aa", "b")
	served := Serve(r, Asks{Seqs: seqs}, 0, 100)
	served[0] = "x"
	if text, _ := r.Get(0); text != "aa" || !slices.Equal(seqs, []uint16{0, 1, 0}) {
		t.Errorf("%q, %v", text, seqs)
	}
}

func TestAClockKeepsNoBlocks(t *testing.T) {
	blocks := []rtcp.Block{{Ssrc: 6}}
	var c Clock
	c.Put(rtcp.Sender{Ntp: 2, Time: 3, Blocks: blocks})
	blocks[0].Ssrc = 7
	if s, _ := c.Sender(1, 2, 3, 4); len(s.Blocks) != 0 {
		t.Errorf("%+v", s)
	}
}
