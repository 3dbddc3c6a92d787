package rewrite

import (
	"math"
	"math/rand"
	"reflect"
	"slices"
	"strings"
	"testing"

	"antiphon/api"
	"antiphon/frame"
	"antiphon/rtp"
	"antiphon/serial"
	"antiphon/vp8"
)

// model is a stream by the document's words; its times have no end.
type model struct {
	video                  bool
	next                   rtp.Packet // what is the same in all packets, and the next number
	picture, level         int
	source                 int
	shift, last            int64
	frames, packets, bytes int
}

func (m *model) time(source int, time int64) int64 {
	if m.frames > 0 && source != m.source {
		m.shift = m.last + 3000 - time
	}
	time += m.shift
	if m.frames > 0 && m.last > time {
		time = m.last
	}
	m.source, m.last = source, time
	return time
}

func (m *model) frame(source int, f frame.Frame) []rtp.Packet {
	if len(f.Units) == 0 {
		return nil
	}
	time := m.time(source, f.Units[0].Time)
	d, _, e := vp8.Parse(f.Units[0].Text)
	m.picture++
	if e == api.OK && (d.Layer == 0 || d.Layer == -1) {
		m.level++
	}
	var l []rtp.Packet
	for _, u := range f.Units {
		p := m.next
		p.Marker, p.Time, p.Payload = u.Marker, uint32(time&(1<<32-1)), u.Text
		if d, rest, e := vp8.Parse(u.Text); m.video && e == api.OK {
			// Before the first level the one to be sent is 0, as with the first one.
			p.Payload = d.With((m.picture-1)%32768, max(m.level-1, 0)%256).Text() + rest
		}
		m.next.Seq++
		m.packets++
		m.bytes += len(p.Payload)
		l = append(l, p)
	}
	m.frames++
	return l
}

// pair is a stream beside its model, and all the packets that it has sent.
type pair struct {
	t    *testing.T
	o    *Out
	like *model
	sent []rtp.Packet
}

func newPair(t *testing.T, video bool, seq uint16) *pair {
	return &pair{t: t, o: New(video, 9, 96, seq), like: &model{video: video, next: rtp.Packet{Type: 96, Ssrc: 9, Seq: seq}}}
}

func (p *pair) frame(source int, f frame.Frame) {
	p.t.Helper()
	before := slices.Clone(f.Units)
	l, want := p.o.Frame(source, f), p.like.frame(source, f)
	if len(l) != len(want) || len(l) > 0 && !reflect.DeepEqual(l, want) {
		p.t.Fatalf("Frame(%d, %+v): %+v, want %+v", source, f, l, want)
	}
	if !slices.Equal(f.Units, before) {
		p.t.Fatalf("Frame(%d, %+v) has changed %+v", source, f, before)
	}
	for i, x := range l {
		p.keepsBody(f.Units[i].Text, x.Payload)
	}
	p.sent = append(p.sent, l...)
	counts(p.t, p.o, p.like.frames, p.like.packets, p.like.bytes)
	if p.o.Next() != p.like.next.Seq || p.o.Ssrc() != 9 {
		p.t.Fatalf("Next %d, Ssrc %d", p.o.Next(), p.o.Ssrc())
	}
}

// keepsBody: P15.3.
func (p *pair) keepsBody(from, to string) {
	p.t.Helper()
	_, body, e := vp8.Parse(from)
	if !p.like.video || e != api.OK {
		if from != to {
			p.t.Fatalf("%q became %q", from, to)
		}
		return
	}
	if _, is, e := vp8.Parse(to); is != body || e != api.OK {
		p.t.Fatalf("behind the descriptor %q became %q", body, is)
	}
}

// isStream: P15.2.
func (p *pair) isStream() {
	p.t.Helper()
	for i, x := range p.sent {
		if x.Ssrc != p.sent[0].Ssrc || x.Seq != p.sent[0].Seq+uint16(i) {
			p.t.Fatalf("packet %d: Ssrc %d, Seq %d", i, x.Ssrc, x.Seq)
		}
		if i > 0 && serial.Ahead(p.sent[i-1].Time, x.Time) {
			p.t.Fatalf("packet %d: time %d behind %d", i, x.Time, p.sent[i-1].Time)
		}
	}
}

// counts fails the test unless a stream has these counts.
func counts(t *testing.T, o *Out, frames, packets, bytes int) {
	t.Helper()
	if f, p, b := o.Counts(); f != frames || p != packets || b != bytes {
		t.Fatalf("Counts %d, %d, %d, want %d, %d, %d", f, p, b, frames, packets, bytes)
	}
}

// of is a frame with these payloads, at a time.
func of(time int64, texts ...string) frame.Frame {
	var f frame.Frame
	for i, s := range texts {
		f.Units = append(f.Units, frame.Unit{At: int64(i), Time: time, Start: i == 0, Marker: i == len(texts)-1, Text: s})
	}
	return f
}

// sends fails the test unless a frame is sent with these payloads.
func sends(t *testing.T, o *Out, f frame.Frame, texts ...string) {
	t.Helper()
	l := o.Frame(1, f)
	if len(l) != len(texts) {
		t.Fatalf("%d packets, want %d", len(l), len(texts))
	}
	for i, p := range l {
		if p.Payload != texts[i] {
			t.Fatalf("packet %d of %+v has %x, want %x", i, f, p.Payload, texts[i])
		}
	}
}

// timed fails the test unless a frame of a source at a time is sent with another one.
func timed(t *testing.T, o *Out, source int, time int64, sent uint32) {
	t.Helper()
	for i, p := range o.Frame(source, of(time, "a", "b")) {
		if p.Time != sent {
			t.Fatalf("packet %d of source %d at %d has the time %d, want %d", i, source, time, p.Time, sent)
		}
	}
}

// tells fails the test unless a time of a source is told in this way.
func tells(t *testing.T, o *Out, source int, at int64, told uint32, ok bool) {
	t.Helper()
	if n, is := o.Told(source, at); n != told || is != ok {
		t.Errorf("Told(%d, %d): %d, %v, want %d, %v", source, at, n, is, told, ok)
	}
}

// P15.1: New, and what is told of a stream.

func TestNew(t *testing.T) {
	for _, c := range []struct{ kind, is byte }{{0, 0}, {96, 96}, {111, 111}, {127, 127}, {128, 0}, {224, 96}, {255, 127}} {
		for _, video := range []bool{true, false} {
			o := New(video, math.MaxUint32, c.kind, 65535)
			if o.Ssrc() != math.MaxUint32 || o.Next() != 65535 {
				t.Errorf("Ssrc %d, Next %d", o.Ssrc(), o.Next())
			}
			counts(t, o, 0, 0, 0)
			tells(t, o, 0, 0, 0, false)
			tells(t, o, 1, 5, 0, false)
			if l := o.Frame(0, of(0, "")); len(l) != 1 || l[0].Type != c.is {
				t.Errorf("kind %d: %+v", c.kind, l)
			}
		}
	}
}

func TestNothingOfAFrameWithoutUnits(t *testing.T) {
	o := New(true, 9, 96, 7)
	for _, f := range []frame.Frame{{}, {Units: []frame.Unit{}}} {
		if l := o.Frame(3, f); len(l) != 0 || o.Next() != 7 {
			t.Errorf("%+v, Next %d", l, o.Next())
		}
		counts(t, o, 0, 0, 0)
		tells(t, o, 3, 5, 0, false)
	}
	timed(t, o, 1, 100, 100)
	o.Frame(2, frame.Frame{})
	counts(t, o, 1, 2, 2)
	tells(t, o, 2, 5, 0, false)
	tells(t, o, 1, 5, 5, true)
	// Source 1 is still the last one, and the numbers go on without a gap.
	timed(t, o, 1, 101, 101)
	if o.Next() != 11 {
		t.Errorf("Next %d", o.Next())
	}
	sends(t, o, of(102, "\x90\x80\x05"), "\x90\x80\x80\x02")
}

func TestPackets(t *testing.T) {
	f := frame.Frame{Units: []frame.Unit{
		{At: 70000, Time: 1<<32 + 5, Marker: true, Key: true, Text: "\x90\x80\x07a", Tick: 3},
		{At: 70001, Time: 1<<32 + 6, Start: true, Text: "\x00b", Tick: 4},
		{At: 70009, Time: 2, Marker: true, Tick: 5},
	}}
	o := New(true, 1<<31, 96, 65534)
	want := []rtp.Packet{
		{Marker: true, Type: 96, Seq: 65534, Time: 5, Ssrc: 1 << 31, Payload: "\x90\x80\x80\x00a"},
		{Type: 96, Seq: 65535, Time: 5, Ssrc: 1 << 31, Payload: "\x00b"},
		{Marker: true, Type: 96, Seq: 0, Time: 5, Ssrc: 1 << 31},
	}
	l := o.Frame(1, f)
	if !reflect.DeepEqual(l, want) || o.Next() != 1 {
		t.Errorf("%+v, Next %d", l, o.Next())
	}
	for _, p := range l {
		if p.Check() != api.OK {
			t.Errorf("Check of %+v: %d", p, p.Check())
		}
	}
	counts(t, o, 1, 3, 7)
}

func TestResultsAreApart(t *testing.T) {
	o, other := New(true, 9, 96, 1), New(true, 8, 97, 1)
	l := o.Frame(1, of(5, "\x10a", "\x00b"))
	before := slices.Clone(l)
	o.Frame(1, of(6, "\x10c", "\x00d"))
	if !reflect.DeepEqual(l, before) {
		t.Errorf("%+v became %+v", before, l)
	}
	counts(t, other, 0, 0, 0)
	if other.Next() != 1 || other.Ssrc() != 8 {
		t.Errorf("Next %d, Ssrc %d", other.Next(), other.Ssrc())
	}
}

func TestNumbersGoRound(t *testing.T) {
	o := New(false, 9, 111, 65000)
	for i := range 1 << 16 {
		if n := 65000 + uint16(i); o.Next() != n || o.Frame(1, of(int64(i), ""))[0].Seq != n {
			t.Fatalf("frame %d: Next %d", i, o.Next())
		}
	}
	if o.Next() != 65000 {
		t.Errorf("Next %d", o.Next())
	}
	counts(t, o, 1<<16, 1<<16, 0)
}

// P15.1: times.

func TestExampleOfTheDocument(t *testing.T) {
	o := New(true, 9, 96, 1)
	timed(t, o, 1, 100, 100)
	timed(t, o, 2, 5000, 3100)
}

func TestTimesOfOneSource(t *testing.T) {
	o := New(true, 9, 96, 1)
	// The first time is sent as it is, even 0 of source 0.
	timed(t, o, 0, 0, 0)
	timed(t, o, 0, 90, 90)
	timed(t, o, 0, 40, 90)
	timed(t, o, 0, 89, 90)
	timed(t, o, 0, 90, 90)
	timed(t, o, 0, 91, 91)
	timed(t, o, 0, 1<<31, 1<<31)
	tells(t, o, 0, 40, 40, true)
}

func TestTimesOfSeveralSources(t *testing.T) {
	o := New(false, 9, 111, 1)
	timed(t, o, 1, 100, 100)
	timed(t, o, 1, 50, 100)
	// From the last time sent on, not from that of the last frame.
	timed(t, o, 2, 5000, 3100)
	timed(t, o, 2, 4000, 3100)
	timed(t, o, 2, 5001, 3101)
	timed(t, o, 3, 0, 6101)
	timed(t, o, 3, 10, 6111)
	// Who comes again has another shift than before.
	timed(t, o, 1, 100, 9111)
	timed(t, o, 1, 99, 9111)
	timed(t, o, 1, 200, 9211)
	timed(t, o, -1, 1<<50, 12211)
	timed(t, o, math.MinInt, 1<<50, 15211)
	timed(t, o, math.MaxInt, 1<<49, 18211)
}

func TestAnEarlierFrameOfTheNewSource(t *testing.T) {
	o := New(true, 9, 96, 1)
	timed(t, o, 1, 100, 100)
	timed(t, o, 2, 5000, 3100)
	// With the shift it would be 100 to 3099, but time goes on.
	for _, at := range []int64{2000, 0, 4999} {
		timed(t, o, 2, at, 3100)
	}
	timed(t, o, 2, 5001, 3101)
}

func TestTimesGoRound(t *testing.T) {
	o := New(true, 9, 96, 1)
	timed(t, o, 1, 1<<32-1, math.MaxUint32)
	timed(t, o, 1, 1<<32, 0)
	// Modulo 2^32 that would be ahead.
	timed(t, o, 1, 1<<32-1, 0)
	timed(t, o, 1, 1<<36+7, 7)
	timed(t, o, 2, 1<<50, 3007)
	timed(t, o, 3, 0, 6007)
	timed(t, o, 3, 1<<50-1, 6006)
	timed(t, o, 3, 0, 6006)
	o = New(true, 9, 96, 1)
	timed(t, o, 1, 1<<32-1000, math.MaxUint32-999)
	timed(t, o, 2, 0, 2000)
}

// No number of turns is too great, though the times that are sent have no end.
func TestTimesGoOnAndOn(t *testing.T) {
	o := New(false, 9, 111, 1)
	timed(t, o, 0, 0, 0)
	timed(t, o, 0, 1<<50-1, math.MaxUint32)
	for i := range 20000 {
		sent := uint32(2999 + 2999*i)
		timed(t, o, i%2+1, 0, sent)
		timed(t, o, i%2+1, 1<<50-1, sent-1)
		tells(t, o, i%2+1, 5, sent+5, true)
		timed(t, o, i%2+1, 1<<49, sent-1)
	}
}

func TestTold(t *testing.T) {
	o := New(true, 9, 96, 1)
	timed(t, o, 1, 1000, 1000)
	tells(t, o, 1, 0, 0, true)
	tells(t, o, 1, 6000, 6000, true)
	tells(t, o, 1, 1<<32+6000, 6000, true)
	tells(t, o, 0, 6000, 0, false)
	tells(t, o, 2, 6000, 0, false)
	// What is told of a time is not held back by the last one.
	timed(t, o, 1, 500, 1000)
	tells(t, o, 1, 500, 500, true)
	timed(t, o, 2, 90, 4000)
	tells(t, o, 2, 90, 4000, true)
	tells(t, o, 2, 1<<50, 3910, true)
	tells(t, o, 1, 6000, 0, false)
	// A shift below 0.
	timed(t, o, 1, 50000, 7000)
	tells(t, o, 1, 43000, 0, true)
	tells(t, o, 1, 42999, math.MaxUint32, true)
	tells(t, o, 1, 0, 1<<32-43000, true)
	tells(t, o, 2, 0, 0, false)
	// To tell changes nothing.
	timed(t, o, 1, 50001, 7001)
	counts(t, o, 5, 10, 10)
}

// P15.1: numbers of pictures and levels.

func TestDescriptors(t *testing.T) {
	for _, c := range []struct {
		what, text, sent string
	}{
		{"nothing that is optional", "\x10body", "\x10body"},
		{"nothing at all behind it", "\x10", "\x10"},
		{"a narrow number", "\x90\x80\x05body", "\x90\x80\x80\x00body"},
		{"a wide number", "\x90\x80\xff\xffbody", "\x90\x80\x80\x00body"},
		{"a level", "\x90\x40\x07body", "\x90\x40\x00body"},
		{"a layer", "\x90\x20\x20body", "\x90\x20\x20body"},
		{"a key", "\x90\x10\x1fbody", "\x90\x10\x1fbody"},
		{"everything", "\xb3\xf0\x05\x07\x2cbody", "\xb3\xf0\x80\x00\x00\x2cbody"},
		{"bits that should be 0", "\xd8\x8f\x05body", "\x90\x80\x80\x00body"},
		{"a second byte without anything", "\x90\x00body", "\x10body"},
		{"a body like a descriptor", "\x10\x90\x80\x05", "\x10\x90\x80\x05"},
	} {
		t.Run(c.what, func(t *testing.T) {
			o := New(true, 9, 96, 1)
			sends(t, o, of(0, c.text), c.sent)
			counts(t, o, 1, 1, len(c.sent))
		})
	}
}

func TestWithoutADescriptor(t *testing.T) {
	for _, s := range []string{"", "\x80", "\x90\x80", "\x90\x80\x85", "\x90\xc0\x05", "\x90\x40", "\x90\x20", "\xb3\xf0\x85\x01\x07"} {
		o := New(true, 9, 96, 1)
		sends(t, o, of(0, s), s)
		counts(t, o, 1, 1, len(s))
		// It was a picture, but without a level.
		sends(t, o, of(1, s, "\x80\xc0\x05\x07b"), s, "\x80\xc0\x80\x01\x00b")
		sends(t, o, of(2, "\x80\xc0\x05\x07b"), "\x80\xc0\x80\x02\x00b")
		sends(t, o, of(3, "\x80\xc0\x05\x07b"), "\x80\xc0\x80\x03\x01b")
	}
}

func TestSoundsStayAsTheyAre(t *testing.T) {
	o := New(false, 9, 111, 1)
	for i, s := range []string{"", "\x90\x80\x05body", "\x90\xc0\x05\x07", "\xb3\xf0\x05\x07\x2cbody", "\xd8\x8f\x05", "a"} {
		sends(t, o, of(int64(i), s), s)
	}
	counts(t, o, 6, 6, 7+4+9+3+1)
}

func TestOnePictureHasOneNumber(t *testing.T) {
	o := New(true, 9, 96, 1)
	sends(t, o, of(0, "\x90\x80\x05a", "\x80\x80\x06b", "\x80\x80\x81\x00c"), "\x90\x80\x80\x00a", "\x80\x80\x80\x00b", "\x80\x80\x80\x00c")
	sends(t, o, of(0, "\x90\x80\x05a", "", "\x80\x80\x05b"), "\x90\x80\x80\x01a", "", "\x80\x80\x80\x01b")
	// A picture without a number is one, too.
	sends(t, o, of(0, "\x10a"), "\x10a")
	sends(t, o, of(0, "\x90\x80\x05a"), "\x90\x80\x80\x03a")
}

func TestPicturesGoRound(t *testing.T) {
	o := New(true, 9, 96, 1)
	for i := range 32768 + 300 {
		n := i % 32768
		sends(t, o, of(int64(i), "\x90\x80\x05a"), "\x90\x80"+string([]byte{128 | byte(n>>8), byte(n)})+"a")
	}
}

func TestLevelsGoRound(t *testing.T) {
	o := New(true, 9, 96, 1)
	for i := range 256 + 20 {
		sends(t, o, of(int64(i), "\x90\x40\x07a"), "\x90\x40"+string([]byte{byte(i)})+"a")
	}
}

func TestLevelsByLayer(t *testing.T) {
	o := New(true, 9, 96, 1)
	for _, c := range []struct{ layer, level byte }{
		// Before there is a level, 0 is sent; the first one is 0, too.
		{1, 0}, {3, 0}, {0, 0}, {1, 0}, {2, 0}, {0, 1}, {0, 2}, {3, 2}, {1, 2}, {0, 3},
	} {
		b := string([]byte{c.layer << 6})
		sends(t, o, of(0, "\x90\x60\x07"+b+"a"), "\x90\x60"+string([]byte{c.level})+b+"a")
	}
	// No layer counts as layer 0, a key alone as none.
	sends(t, o, of(0, "\x90\x40\x07a"), "\x90\x40\x04a")
	sends(t, o, of(0, "\x90\x50\x07\xc1a"), "\x90\x50\x05\x01a")
	sends(t, o, of(0, "\x10a"), "\x10a")
	sends(t, o, of(0, "\x90\x40\x07a"), "\x90\x40\x07a")
}

func TestTheFirstUnitSaysTheLayer(t *testing.T) {
	o := New(true, 9, 96, 1)
	first, upper := "\x90\x60\x07\x00a", "\x80\x60\x07\x40b"
	sends(t, o, of(0, first, upper), "\x90\x60\x00\x00a", "\x80\x60\x00\x40b")
	sends(t, o, of(1, first, upper), "\x90\x60\x01\x00a", "\x80\x60\x01\x40b")
	sends(t, o, of(2, upper, first), "\x80\x60\x01\x40b", "\x90\x60\x01\x00a")
	sends(t, o, of(3, first, first), "\x90\x60\x02\x00a", "\x90\x60\x02\x00a")
}

func TestTheLongestPayload(t *testing.T) {
	body := strings.Repeat("x", 1487-3)
	o := New(true, 9, 96, 1)
	l := o.Frame(1, of(0, "\x90\x80\x05"+body, strings.Repeat("\x00", 1487)))
	if l[0].Payload != "\x90\x80\x80\x00"+body || l[0].Len() != api.MaxDatagram || l[0].Check() != api.OK || l[1].Check() != api.OK {
		t.Errorf("%d bytes, %d", l[0].Len(), l[0].Check())
	}
	counts(t, o, 1, 2, 1488+1487)
	// K6: what is longer is no packet any more, but nothing panics.
	if l = o.Frame(1, of(0, strings.Repeat("\x00", 1<<16))); l[0].Check() != api.ErrBig {
		t.Errorf("Check %d", l[0].Check())
	}
}

// P15.1 to P15.3, each by the pair: any calls.

func TestAnyCalls(t *testing.T) {
	random := rand.New(rand.NewSource(15))
	for range 2000 {
		p := newPair(t, random.Intn(4) > 0, uint16(random.Intn(1<<16)))
		at := []int64{anyTime(random), anyTime(random), anyTime(random)}
		for range 60 {
			source := random.Intn(12) % len(at)
			// In steps by which no time increases by 2^31.
			at[source] = max(0, at[source]+int64(random.Intn(9000)-2000))
			p.frame(source, anyFrame(random, at[source]))
			p.tell(random.Intn(len(at)), at[source])
		}
		p.isStream()
	}
}

// tell compares what is told.
func (p *pair) tell(source int, at int64) {
	p.t.Helper()
	if p.like.frames > 0 && p.like.source == source {
		tells(p.t, p.o, source, at, uint32(at+p.like.shift), true)
	} else {
		tells(p.t, p.o, source, at, 0, false)
	}
}

// anyTime is often one close to where times go round.
func anyTime(random *rand.Rand) int64 {
	switch random.Intn(3) {
	case 0:
		return int64(random.Intn(1 << 40))
	case 1:
		return 1<<32*int64(random.Intn(1<<10)) - int64(random.Intn(10000)) + 5000
	}
	return 1 << 36
}

// anyFrame sometimes has no units, and payloads of all kinds.
func anyFrame(random *rand.Rand, time int64) frame.Frame {
	var f frame.Frame
	for range random.Intn(5) {
		u := frame.Unit{Time: time, Marker: random.Intn(2) == 0, Text: anyPayload(random)}
		f.Units = append(f.Units, u)
		time += int64(random.Intn(3) - 1)
	}
	return f
}

// anyPayload is a descriptor and a body, or any bytes.
func anyPayload(random *rand.Rand) string {
	b := make([]byte, random.Intn(12))
	for i := range b {
		b[i] = byte(random.Intn(256))
	}
	if random.Intn(3) == 0 {
		return string(b)
	}
	d := vp8.Desc{Start: random.Intn(2) == 0, Part: random.Intn(8), Picture: random.Intn(129) - 1,
		Level: random.Intn(257) - 1, Layer: random.Intn(5) - 1, Key: random.Intn(33) - 1}
	d.Wide = d.Picture > 127 || d.Picture >= 0 && random.Intn(2) == 0
	d.Sync = d.Layer >= 0 && random.Intn(2) == 0
	return d.Text() + string(b)
}

// Any payload, twice in a picture: what stands behind its descriptor stays.
func FuzzPayload(f *testing.F) {
	f.Add("\x90\x80\x05body", true)
	f.Add("\xb3\xf0\x85\x01\x07\xffbody", true)
	f.Add("\x90\x80\x85", true)
	f.Add("\x90\x80\x05body", false)
	f.Fuzz(func(t *testing.T, s string, video bool) {
		p := newPair(t, video, 65535)
		for i := range 3 {
			p.frame(i, of(int64(i), s, s))
		}
		p.isStream()
	})
}
