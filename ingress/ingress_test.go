package ingress

import (
	"math"
	"math/rand"
	"slices"
	"strings"
	"testing"

	"antiphon/api"
	"antiphon/extend"
	"antiphon/frame"
	"antiphon/reorder"
	"antiphon/rtp"
	"antiphon/vp8"
)

// The payloads: a first packet of a key frame and of another picture, a later packet.
const (
	key   = "\x10\x00"
	inter = "\x10\x01"
	later = "\x00\x00"
)

// model is a source by the document's words: whole packets wait in its buffer, as their bytes.
type model struct {
	video bool
	seq   extend.Seq
	clock extend.Clock
	order *reorder.Buffer
	maker *frame.Maker
	bad   int
	keys  int
}

func newModel(c Config) *model {
	m := &model{video: c.Frame.Video}
	m.order, _ = reorder.New(c.Order)
	m.maker, _ = frame.New(c.Frame)
	return m
}

func (m *model) put(p rtp.Packet, now int) ([]frame.Frame, api.Errno) {
	at, ok := m.seq.Put(p.Seq)
	if !ok {
		m.bad++
		return nil, api.ErrOld
	}
	out, e := m.order.Put(reorder.Thing{At: at, Text: p.Text(), Tick: now})
	if e != api.OK {
		m.bad++
	}
	return m.pass(out), e
}

func (m *model) tick(now int) []frame.Frame {
	frames := m.pass(m.order.Tick(now))
	m.maker.Tick(now)
	return frames
}

func (m *model) pass(out []reorder.Thing) []frame.Frame {
	var frames []frame.Frame
	for _, x := range out {
		p, _ := rtp.Parse(x.Text)
		u := frame.Unit{At: x.At, Time: m.clock.Put(p.Time), Text: p.Payload, Tick: x.Tick}
		u.Marker = p.Marker && len(p.Payload) > 0
		if d, rest, e := vp8.Parse(p.Payload); e == api.OK && m.video {
			u.Start = d.Start && d.Part == 0
			u.Key = u.Start && rest != "" && rest[0]%2 == 0
		}
		if f, ok := m.maker.Put(u); ok {
			frames = append(frames, f)
			if f.Units[0].Key {
				m.keys++
			}
		}
	}
	return frames
}

// pair is a source beside its model.
type pair struct {
	t *testing.T
	s *Source
	m *model
}

func newPair(t *testing.T, c Config) *pair {
	return &pair{t, source(t, c), newModel(c)}
}

func source(t *testing.T, c Config) *Source {
	t.Helper()
	s, e := New(c)
	if e != api.OK || s == nil {
		t.Fatalf("New(%v): %v, %d", c, s, e)
	}
	return s
}

func (p *pair) put(x rtp.Packet, now int) ([]frame.Frame, api.Errno) {
	p.t.Helper()
	frames, e := p.s.Put(x, now)
	want, wantErr := p.m.put(x, now)
	if e != wantErr {
		p.t.Fatalf("Put(%v): error %d, want %d", x, e, wantErr)
	}
	if e != api.OK && frames != nil {
		p.t.Fatalf("Put(%v): %v beside error %d", x, frames, e)
	}
	p.same("Put", frames, want)
	return frames, e
}

func (p *pair) tick(now int) {
	p.t.Helper()
	p.same("Tick", p.s.Tick(now), p.m.tick(now))
}

// same looks at what was whole, and at all that the source says of itself.
func (p *pair) same(call string, frames, want []frame.Frame) {
	p.t.Helper()
	if !equal(frames, want) {
		p.t.Fatalf("%s: %v, want %v", call, frames, want)
	}
	whole, lost := p.s.Counts()
	wantWhole, wantLost := p.m.maker.Counts()
	if whole != wantWhole || lost != wantLost || p.s.Bad() != p.m.bad || p.s.Keys() != p.m.keys {
		p.t.Fatalf("%s: Counts %d, %d, Bad %d, Keys %d, want %d, %d, %d, %d",
			call, whole, lost, p.s.Bad(), p.s.Keys(), wantWhole, wantLost, p.m.bad, p.m.keys)
	}
	n, ok := p.s.Next()
	m, wantOK := p.m.order.Next()
	if n != m || ok != wantOK || p.s.Len() != p.m.order.Len() || p.s.Lost() != p.m.order.Lost() {
		p.t.Fatalf("%s: Next %d, %v, Len %d, Lost %d", call, n, ok, p.s.Len(), p.s.Lost())
	}
	if len(p.s.heads) != p.s.Len() {
		p.t.Fatalf("%s: %d heads are kept of %d packets", call, len(p.s.heads), p.s.Len())
	}
	missing := p.m.order.Missing(50)
	for _, most := range []int{-1, 0, 1, 3, 50} {
		nacks := p.s.Nacks(most)
		if len(nacks) != max(0, min(most, len(missing))) {
			p.t.Fatalf("%s: Nacks(%d) %v of %v", call, most, nacks, missing)
		}
		for i, n := range nacks {
			if int64(n) != missing[i]%65536 {
				p.t.Fatalf("%s: Nacks(%d) %v of %v", call, most, nacks, missing)
			}
		}
	}
}

func equal(a, b []frame.Frame) bool {
	return slices.EqualFunc(a, b, func(f, g frame.Frame) bool { return slices.Equal(f.Units, g.Units) })
}

// pictures and sounds are Configs that little is lost by.
func pictures() Config {
	return Config{Order: reorder.Config{Most: 8, Wait: 5}, Frame: frame.Config{Video: true, Bytes: 1000, Units: 10, Wait: 10}}
}

func sounds() Config {
	c := pictures()
	c.Frame.Video = false
	return c
}

// packet is one; a payload may be a picture's or not.
func packet(seq uint16, time uint32, marker bool, payload string) rtp.Packet {
	return rtp.Packet{Type: 96, Ssrc: 7, Seq: seq, Time: time, Marker: marker, Payload: payload}
}

// only is a picture of one packet.
func only(seq uint16, time uint32) rtp.Packet {
	return packet(seq, time, true, inter)
}

// put fails the test unless so many frames are whole, and the error is this one.
func put(t *testing.T, s *Source, p rtp.Packet, now, whole int, want api.Errno) []frame.Frame {
	t.Helper()
	frames, e := s.Put(p, now)
	if len(frames) != whole || e != want {
		t.Fatalf("Put(%v): %v, %d, want %d, %d", p, frames, e, whole, want)
	}
	return frames
}

// says fails the test unless a source says this of itself.
func says(t *testing.T, s *Source, whole, lost, bad, keys int) {
	t.Helper()
	w, l := s.Counts()
	if w != whole || l != lost || s.Bad() != bad || s.Keys() != keys {
		t.Errorf("Counts %d, %d, Bad %d, Keys %d, want %d, %d, %d, %d", w, l, s.Bad(), s.Keys(), whole, lost, bad, keys)
	}
}

// times are those of frames.
func times(frames []frame.Frame) []int64 {
	var l []int64
	for _, f := range frames {
		l = append(l, f.Time()-extend.Epoch)
	}
	return l
}

// P11.1: Check and New.

func TestConfig(t *testing.T) {
	good := pictures()
	for _, c := range []struct {
		order reorder.Config
		frame frame.Config
		e     api.Errno
	}{
		{good.Order, good.Frame, api.OK},
		{reorder.Config{Most: 1}, frame.Config{Bytes: 1, Units: 1}, api.OK},
		{reorder.Config{Most: 1024, Wait: 1 << 40}, frame.Config{Bytes: 1 << 20, Units: 1024, Wait: 1 << 40}, api.OK},
		{reorder.Config{Most: 0}, good.Frame, api.ErrArg},
		{reorder.Config{Most: 1025}, good.Frame, api.ErrArg},
		{reorder.Config{Most: 1, Wait: -1}, good.Frame, api.ErrArg},
		{reorder.Config{Most: 1, Wait: 1<<40 + 1}, good.Frame, api.ErrArg},
		{good.Order, frame.Config{}, api.ErrArg},
		{good.Order, frame.Config{Bytes: 1<<20 + 1, Units: 1}, api.ErrArg},
		{good.Order, frame.Config{Bytes: 1, Units: 1025}, api.ErrArg},
		{good.Order, frame.Config{Bytes: 1, Units: 1, Wait: -1}, api.ErrArg},
		{reorder.Config{}, frame.Config{}, api.ErrArg},
	} {
		all := Config{c.order, c.frame}
		if e := all.Check(); e != c.e {
			t.Errorf("Check of %v: %d, want %d", all, e, c.e)
		}
		s, e := New(all)
		if e != c.e || (s == nil) != (e != api.OK) {
			t.Errorf("New(%v): %v, %d, want %d", all, s, e, c.e)
		}
		if s != nil && s.Buffer.Config != c.order {
			t.Errorf("New(%v): %v", all, s.Buffer.Config)
		}
	}
}

func TestNothingCame(t *testing.T) {
	s := source(t, pictures())
	says(t, s, 0, 0, 0, 0)
	if n, ok := s.Next(); n != 0 || ok || s.Len() != 0 || s.Lost() != 0 || len(s.Nacks(9)) != 0 || len(s.Missing(9)) != 0 {
		t.Errorf("Next %d, %v", n, ok)
	}
	if len(s.Tick(0)) != 0 || len(s.Tick(1<<40)) != 0 {
		t.Error("Tick")
	}
	says(t, s, 0, 0, 0, 0)
}

// P11.1: Put.

func TestExampleOfTheDocument(t *testing.T) {
	s := source(t, pictures())
	put(t, s, packet(2, 0, true, later), 0, 0, api.OK)
	put(t, s, packet(1, 0, false, key), 0, 0, api.ErrOld)
	says(t, s, 0, 1, 1, 0)
}

func TestFramesOfPackets(t *testing.T) {
	s := source(t, pictures())
	put(t, s, packet(65535, 90, false, key+"abc"), 3, 0, api.OK)
	put(t, s, packet(1, 90, true, later), 4, 0, api.OK)
	put(t, s, only(2, 97), 5, 0, api.OK)
	l := put(t, s, packet(0, 90, false, later+"d"), 6, 2, api.OK)
	const at = extend.First + 65535
	want := []frame.Frame{{Units: []frame.Unit{
		{At: at, Time: extend.Epoch + 90, Start: true, Key: true, Text: key + "abc", Tick: 3},
		{At: at + 1, Time: extend.Epoch + 90, Text: later + "d", Tick: 6},
		{At: at + 2, Time: extend.Epoch + 90, Marker: true, Text: later, Tick: 4},
	}}, {Units: []frame.Unit{{At: at + 3, Time: extend.Epoch + 97, Start: true, Marker: true, Text: inter, Tick: 5}}}}
	if !equal(l, want) {
		t.Errorf("%v, want %v", l, want)
	}
	says(t, s, 2, 0, 0, 1)
}

func TestOnlyThePayloadAndTheHeadCount(t *testing.T) {
	p := rtp.Packet{Marker: true, Type: 1, Seq: 5, Time: 6, Ssrc: 7, Csrcs: []uint32{8, 9}, Ext: true, Profile: 2, Data: "abcd", Payload: inter, Padding: 4}
	one := put(t, source(t, pictures()), p, 3, 1, api.OK)
	two := put(t, source(t, pictures()), only(5, 6), 3, 1, api.OK)
	if !equal(one, two) || !slices.Equal(p.Csrcs, []uint32{8, 9}) {
		t.Errorf("%v, %v", one, two)
	}
}

func TestBadPackets(t *testing.T) {
	s := source(t, pictures())
	put(t, s, only(10, 0), 0, 1, api.OK)
	put(t, s, only(10, 0), 0, 0, api.ErrOld)
	put(t, s, only(9, 0), 0, 0, api.ErrOld)
	put(t, s, only(12, 0), 0, 0, api.OK)
	put(t, s, only(12, 0), 0, 0, api.ErrTwice)
	put(t, s, only(20000, 0), 0, 0, api.ErrOld)
	says(t, s, 1, 0, 4, 0)
	if s.Len() != 1 {
		t.Errorf("Len %d", s.Len())
	}
	put(t, s, only(11, 0), 0, 2, api.OK)
	says(t, s, 3, 0, 4, 0)
}

func TestTheFirstOfTwoStays(t *testing.T) {
	s := source(t, pictures())
	put(t, s, only(1, 5), 0, 1, api.OK)
	put(t, s, packet(3, 7, true, key), 0, 0, api.OK)
	put(t, s, packet(3, 70, false, inter), 9, 0, api.ErrTwice)
	l := put(t, s, only(2, 6), 0, 2, api.OK)
	want := frame.Unit{At: extend.First + 3, Time: extend.Epoch + 7, Start: true, Key: true, Marker: true, Text: key}
	if !slices.Equal(l[1].Units, []frame.Unit{want}) {
		t.Errorf("%v", l)
	}
}

func TestBadPacketsLeaveTheClock(t *testing.T) {
	const far = 1<<31 - 1
	s := source(t, pictures())
	put(t, s, only(10, 0), 0, 1, api.OK)
	put(t, s, only(10, far), 0, 0, api.ErrOld)
	put(t, s, only(20000, far), 0, 0, api.ErrOld)
	put(t, s, only(12, 20), 0, 0, api.OK)
	put(t, s, only(12, far), 0, 0, api.ErrTwice)
	// Had the clock heard of far, this time would lie ahead.
	l := put(t, s, only(11, far+9), 0, 2, api.OK)
	if got := times(l); !slices.Equal(got, []int64{far + 9 - 1<<32, 20}) {
		t.Errorf("%v", got)
	}
}

func TestTheClockGoesByTheOrder(t *testing.T) {
	s := source(t, pictures())
	put(t, s, only(1, 0), 0, 1, api.OK)
	put(t, s, only(4, 3<<30+1), 0, 0, api.OK)
	put(t, s, only(3, 2<<30), 0, 0, api.OK)
	l := put(t, s, only(2, 1<<30), 0, 3, api.OK)
	if got := times(l); !slices.Equal(got, []int64{1 << 30, 2 << 30, 3<<30 + 1}) {
		t.Errorf("%v", got)
	}
}

func TestTimesGoRound(t *testing.T) {
	s := source(t, sounds())
	var got []int64
	for i, time := range []uint32{math.MaxUint32 - 1, 4, 2, 9} {
		got = append(got, times(put(t, s, packet(uint16(i), time, false, "s"), 0, 1, api.OK))...)
	}
	if !slices.Equal(got, []int64{1<<32 - 2, 1<<32 + 4, 1<<32 + 2, 1<<32 + 9}) {
		t.Errorf("%v", got)
	}
}

func TestTheSeqKeepsWhatWasBad(t *testing.T) {
	s := source(t, pictures())
	put(t, s, only(0, 0), 0, 1, api.OK)
	put(t, s, only(30000, 0), 0, 0, api.ErrOld)
	// The second of a row is a new beginning, two cycles further on.
	put(t, s, only(30001, 0), 0, 0, api.OK)
	if m := s.Missing(1 << 30); s.Len() != 1 || len(m) != 2<<16+30000 {
		t.Errorf("Len %d, Missing %d", s.Len(), len(m))
	}
	says(t, s, 1, 0, 1, 0)

	// What the buffer refuses, the Seq believed: no number is awaited any more.
	s = source(t, pictures())
	put(t, s, only(0, 0), 0, 1, api.OK)
	put(t, s, only(30000, 0), 0, 0, api.ErrOld)
	put(t, s, only(0, 0), 0, 0, api.ErrOld)
	put(t, s, only(30001, 0), 0, 0, api.ErrOld)
	put(t, s, only(30002, 0), 0, 0, api.OK)
	says(t, s, 1, 0, 3, 0)
}

func TestMarkerOfAnEmptyPayload(t *testing.T) {
	s := source(t, pictures())
	put(t, s, packet(1, 5, false, key), 0, 0, api.OK)
	put(t, s, packet(2, 5, true, ""), 0, 0, api.OK)
	l := put(t, s, packet(3, 5, true, later), 0, 1, api.OK)
	if u := l[0].Units; len(u) != 3 || u[1].Marker || !u[2].Marker {
		t.Errorf("%v", u)
	}
	put(t, s, packet(4, 6, true, ""), 0, 0, api.OK)
	says(t, s, 1, 1, 0, 1)

	l = put(t, source(t, sounds()), packet(1, 5, true, ""), 0, 1, api.OK)
	if want := (frame.Unit{At: extend.First + 1, Time: extend.Epoch + 5}); !slices.Equal(l[0].Units, []frame.Unit{want}) {
		t.Errorf("%v", l)
	}
	l = put(t, source(t, sounds()), packet(1, 5, true, "s"), 0, 1, api.OK)
	if !l[0].Units[0].Marker {
		t.Errorf("%v", l)
	}
}

// The payloads that a picture begins with, or not.
func beginnings() []struct {
	payload    string
	start, key bool
} {
	return []struct {
		payload    string
		start, key bool
	}{
		{"\x10\x00", true, true},
		{"\x10\x9c", true, true},
		{"\x10\x01", true, false},
		{"\x10", true, false},
		{"\x30\x02", true, true},
		{"\x11\x00", false, false},
		{"\x17\x00", false, false},
		{"\x00\x00", false, false},
		{"\x20\x00", false, false},
		{"\x90\x80\x05\x00", true, true},
		{"\x90\x80\x05\x01", true, false},
		{"\x90\x80\x80\x05\x00", true, true},
		{"\x90\xf0\x81\x02\x03\xff\x00", true, true},
		{"\x90\xf0\x81\x02\x03\xff", true, false},
		{"\x81\x80\x05\x00", false, false},
		{"\x90", false, false},
		{"\x90\x80", false, false},
		{"\x90\x80\x80", false, false},
		{"\x90\xf0\x81\x02\x03", false, false},
		{"", false, false},
	}
}

func TestStartAndKey(t *testing.T) {
	for _, c := range beginnings() {
		s := source(t, pictures())
		l, e := s.Put(packet(1, 5, true, c.payload), 0)
		if (len(l) == 1) != c.start || e != api.OK {
			t.Fatalf("%q: %v, %d", c.payload, l, e)
		}
		keys := 0
		if c.key {
			keys = 1
		}
		if c.start {
			if u := l[0].Units[0]; !u.Start || u.Key != c.key || u.Text != c.payload {
				t.Errorf("%q: %v", c.payload, u)
			}
			says(t, s, 1, 0, 0, keys)
		} else {
			says(t, s, 0, 1, 0, 0)
		}
	}
}

func TestSoundsHaveNoStartAndNoKey(t *testing.T) {
	for _, c := range beginnings() {
		s := source(t, sounds())
		l := put(t, s, packet(1, 5, false, c.payload), 2, 1, api.OK)
		want := frame.Unit{At: extend.First + 1, Time: extend.Epoch + 5, Text: c.payload, Tick: 2}
		if !slices.Equal(l[0].Units, []frame.Unit{want}) {
			t.Errorf("%q: %v", c.payload, l)
		}
		says(t, s, 1, 0, 0, 0)
	}
}

func TestKeysAreWholeFrames(t *testing.T) {
	s := source(t, pictures())
	put(t, s, packet(1, 5, false, key), 0, 0, api.OK)
	says(t, s, 0, 0, 0, 0)
	put(t, s, packet(2, 6, false, key), 0, 0, api.OK)
	put(t, s, packet(3, 6, true, key), 0, 1, api.OK)
	says(t, s, 1, 2, 0, 1)
	put(t, s, packet(4, 7, false, inter), 0, 0, api.OK)
	put(t, s, packet(5, 7, true, later), 0, 1, api.OK)
	says(t, s, 2, 2, 0, 1)
	put(t, s, packet(6, 8, true, key), 0, 1, api.OK)
	says(t, s, 3, 2, 0, 2)
}

func TestMoreThanTheBufferHolds(t *testing.T) {
	c := pictures()
	c.Order.Most = 2
	s := source(t, c)
	put(t, s, only(1, 1), 0, 1, api.OK)
	put(t, s, only(3, 3), 0, 0, api.OK)
	put(t, s, only(5, 5), 0, 0, api.OK)
	l := put(t, s, only(6, 6), 0, 1, api.OK)
	if s.Lost() != 1 || s.Len() != 2 || times(l)[0] != 3 {
		t.Errorf("%v, Lost %d, Len %d", l, s.Lost(), s.Len())
	}
	put(t, s, only(2, 2), 0, 0, api.ErrOld)
	says(t, s, 2, 0, 1, 0)
}

func TestGapsTearPictures(t *testing.T) {
	c := pictures()
	c.Order.Most = 1
	s := source(t, c)
	put(t, s, packet(1, 5, false, key), 0, 0, api.OK)
	put(t, s, packet(3, 5, true, later), 0, 0, api.OK)
	put(t, s, only(4, 6), 0, 1, api.OK)
	says(t, s, 1, 2, 0, 0)
}

// P11.1: Tick.

func TestTickReleases(t *testing.T) {
	s := source(t, pictures())
	put(t, s, only(1, 1), 0, 1, api.OK)
	put(t, s, only(3, 3), 10, 0, api.OK)
	put(t, s, only(4, 4), 12, 0, api.OK)
	put(t, s, only(6, 6), 11, 0, api.OK)
	if l := s.Tick(14); len(l) != 0 {
		t.Errorf("Tick(14): %v", l)
	}
	if l := s.Tick(15); !slices.Equal(times(l), []int64{3, 4}) || s.Lost() != 1 || s.Len() != 1 {
		t.Errorf("Tick(15): %v, Lost %d", l, s.Lost())
	}
	if l := s.Tick(16); !slices.Equal(times(l), []int64{6}) || s.Lost() != 2 {
		t.Errorf("Tick(16): %v, Lost %d", l, s.Lost())
	}
	says(t, s, 4, 0, 0, 0)
}

func TestTickLosesWhatIsOpen(t *testing.T) {
	s := source(t, pictures())
	put(t, s, packet(1, 5, false, key), 3, 0, api.OK)
	put(t, s, packet(2, 5, false, later), 6, 0, api.OK)
	s.Tick(12)
	says(t, s, 0, 0, 0, 0)
	s.Tick(13)
	says(t, s, 0, 2, 0, 0)
	put(t, s, packet(3, 5, true, later), 13, 0, api.OK)
	says(t, s, 0, 3, 0, 0)
}

func TestTickReleasesBeforeItLoses(t *testing.T) {
	c := pictures()
	c.Order.Wait, c.Frame.Wait = 5, 5
	s := source(t, c)
	put(t, s, only(1, 1), 0, 1, api.OK)
	put(t, s, packet(3, 3, false, key), 2, 0, api.OK)
	put(t, s, packet(4, 3, true, later), 2, 0, api.OK)
	// What is released at once completes the picture that is old by now.
	if l := s.Tick(7); len(l) != 1 {
		t.Errorf("%v", l)
	}
	says(t, s, 2, 0, 0, 1)
	// Released, opened, and old already.
	put(t, s, packet(6, 6, false, key), 8, 0, api.OK)
	if l := s.Tick(13); len(l) != 0 {
		t.Errorf("%v", l)
	}
	says(t, s, 2, 1, 0, 1)
	put(t, s, packet(7, 6, true, later), 13, 0, api.OK)
	says(t, s, 2, 2, 0, 1)
}

// P11.1: Nacks, and what the buffer says.

func TestNacks(t *testing.T) {
	s := source(t, pictures())
	put(t, s, only(65533, 1), 0, 1, api.OK)
	put(t, s, only(65535, 1), 0, 0, api.OK)
	put(t, s, only(2, 1), 0, 0, api.OK)
	for _, c := range []struct {
		most int
		want []uint16
	}{
		{math.MinInt, nil},
		{-1, nil},
		{0, nil},
		{1, []uint16{65534}},
		{2, []uint16{65534, 0}},
		{3, []uint16{65534, 0, 1}},
		{math.MaxInt, []uint16{65534, 0, 1}},
	} {
		if l := s.Nacks(c.most); !slices.Equal(l, c.want) {
			t.Errorf("Nacks(%d): %v, want %v", c.most, l, c.want)
		}
	}
	if l := s.Missing(1); !slices.Equal(l, []int64{extend.First + 65534}) {
		t.Errorf("Missing: %v", l)
	}
	if n, ok := s.Next(); n != extend.First+65534 || !ok || s.Len() != 2 {
		t.Errorf("Next %d, %v, Len %d", n, ok, s.Len())
	}
	put(t, s, only(65534, 1), 0, 2, api.OK)
	if l := s.Nacks(9); !slices.Equal(l, []uint16{0, 1}) {
		t.Errorf("Nacks: %v", l)
	}
}

// P11.1, by the pair: any packets.

func TestAnyPackets(t *testing.T) {
	random := rand.New(rand.NewSource(11))
	seen := map[api.Errno]int{}
	whole := 0
	for range 1000 {
		p := newPair(t, Config{
			reorder.Config{Most: 1 + random.Intn(6), Wait: random.Intn(8)},
			frame.Config{Video: random.Intn(5) > 0, Bytes: 1 + random.Intn(12), Units: 1 + random.Intn(5), Wait: random.Intn(8)},
		})
		seq, now := uint16(random.Intn(65536)), 0
		for range 100 {
			now += random.Intn(2)
			if random.Intn(10) == 0 {
				p.tick(now)
			}
			n := seq + uint16(random.Intn(5)) - 2
			if random.Intn(40) == 0 {
				n = uint16(random.Intn(65536))
				seq = n
			}
			_, e := p.put(anyOf(random, n), now)
			seen[e]++
			seq += uint16(random.Intn(3))
		}
		w, _ := p.s.Counts()
		whole += w
	}
	if seen[api.OK] < 10000 || seen[api.ErrOld] < 1000 || seen[api.ErrTwice] < 1000 || whole < 10000 {
		t.Errorf("the packets say little: %v, %d frames", seen, whole)
	}
}

// anyOf is a packet whose time goes by its number, mostly.
func anyOf(random *rand.Rand, n uint16) rtp.Packet {
	payloads := []string{key, inter, later, "", "\x90\x80\x05\x00", "\x90", "\x11\x01", key + "long"}
	time := uint32(n/2) << 24
	if random.Intn(20) == 0 {
		time = random.Uint32()
	}
	return packet(n, time, n%2 == 1 || random.Intn(6) == 0, payloads[random.Intn(len(payloads))])
}

// P11.2: SAME.

// stream is the packets of pictures, or sounds, one after the other.
func stream(random *rand.Rand, frames int) []rtp.Packet {
	var l []rtp.Packet
	seq, time := uint16(random.Intn(65536)), random.Uint32()
	for range frames {
		n := 1 + random.Intn(4)
		for i := range n {
			payload := later
			if i == 0 {
				payload = []string{key, inter}[random.Intn(2)]
			}
			payload += strings.Repeat("x", random.Intn(3))
			l = append(l, packet(seq, time, i == n-1, payload))
			seq++
		}
		time += uint32(random.Intn(1 << 30))
	}
	return l
}

// shuffled are the packets as they may arrive: the first one first, none more than far ahead of the first that is missing, each up to three times.
func shuffled(random *rand.Rand, l []rtp.Packet, far int) []rtp.Packet {
	out := []rtp.Packet{l[0]}
	came := make([]int, len(l))
	came[0] = 1
	for missing := 1; missing < len(l); {
		i := max(missing-5, 0) + random.Intn(far+5)
		if i >= len(l) || i > missing+far-1 || came[i] == 3 {
			i = missing
		}
		came[i]++
		out = append(out, l[i])
		for missing < len(l) && came[missing] > 0 {
			missing++
		}
	}
	return out
}

func TestAnyOrderGivesTheSameFrames(t *testing.T) {
	random := rand.New(rand.NewSource(12))
	for round := range 600 {
		c := pictures()
		c.Frame.Video = round%4 > 0
		c.Order.Most = 1 + random.Intn(20)
		l := stream(random, 12)
		want := all(t, c, l)
		if w, _ := source(t, c).Counts(); w != 0 {
			t.Fatal("sources share")
		}
		if c.Frame.Video && len(want) != 12 || !c.Frame.Video && len(want) != len(l) {
			t.Fatalf("%d frames of %d packets", len(want), len(l))
		}
		for range 4 {
			other := shuffled(random, l, c.Order.Most)
			if got := all(t, c, other); !equal(got, want) {
				t.Fatalf("%v as %v: %v, want %v", l, other, got, want)
			}
		}
	}
}

// all are the frames of packets that arrive at one tick.
func all(t *testing.T, c Config, packets []rtp.Packet) []frame.Frame {
	t.Helper()
	var l []frame.Frame
	s := source(t, c)
	for _, p := range packets {
		frames, e := s.Put(p, 7)
		if e != api.OK && e != api.ErrOld && e != api.ErrTwice {
			t.Fatalf("Put(%v): %d", p, e)
		}
		l = append(l, frames...)
	}
	if s.Len() != 0 || s.Lost() != 0 {
		t.Fatalf("Len %d, Lost %d", s.Len(), s.Lost())
	}
	if whole, lost := s.Counts(); whole != len(l) || lost != 0 {
		t.Fatalf("Counts %d, %d, of %d", whole, lost, len(l))
	}
	return l
}

// The rules.

func TestResultsAreNewMemory(t *testing.T) {
	s := source(t, pictures())
	one := put(t, s, only(1, 1), 0, 1, api.OK)
	put(t, s, only(3, 3), 0, 0, api.OK)
	put(t, s, only(5, 5), 0, 0, api.OK)
	nacks := s.Nacks(9)
	nacks[0] = 77
	two := put(t, s, only(2, 2), 0, 2, api.OK)
	_ = append(one[0].Units, frame.Unit{At: 77}, frame.Unit{At: 78})
	one[0].Units[0].Time = 77
	two[0].Units[0].Time = 78
	if got := times(two[1:]); !slices.Equal(got, []int64{3}) || !slices.Equal(s.Nacks(9), []uint16{4}) {
		t.Errorf("%v, %v", got, s.Nacks(9))
	}
	three := put(t, s, only(4, 4), 0, 2, api.OK)
	if !slices.Equal(times(three), []int64{4, 5}) || one[0].Time() != 77 || two[0].Time() != 78 {
		t.Errorf("%v, %v, %v", one, two, three)
	}
}

func FuzzSource(f *testing.F) {
	f.Add(true, byte(2), byte(5), "\x01\x10\x00\x03\x11\x01\x02\xff")
	f.Add(false, byte(1), byte(0), "\x01\x80\x40\x40\x02\x00")
	f.Fuzz(func(t *testing.T, video bool, most, wait byte, s string) {
		if len(s) > 300 {
			return
		}
		p := newPair(t, Config{
			reorder.Config{Most: 1 + int(most), Wait: int(wait)},
			frame.Config{Video: video, Bytes: 6, Units: 3, Wait: int(wait)},
		})
		now := 0
		for len(s) > 2 {
			now += int(s[1] >> 6)
			if s[0] == 255 {
				p.tick(now)
			} else {
				payload := s[2:min(len(s), 2+int(s[1]>>2&7))]
				p.put(packet(uint16(s[0])*uint16(1+s[1]&1*100), uint32(s[0]/4)<<(s[1]>>3&24), s[1]&2 != 0, payload), now)
			}
			s = s[3:]
		}
	})
}
