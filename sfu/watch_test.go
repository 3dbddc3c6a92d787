package sfu

import (
	"fmt"
	"maps"
	"math/rand"
	"slices"
	"strings"
	"testing"

	"antiphon/access"
	"antiphon/api"
	"antiphon/control"
	"antiphon/frame"
	"antiphon/ingress"
	"antiphon/ledger"
	"antiphon/rtcp"
	"antiphon/rtp"
	"antiphon/vp8"
)

// maker makes the packets of one source; no two have the same bytes behind their descriptors.
type maker struct {
	r       *rand.Rand
	ssrc    uint32
	video   bool
	wanted  bool // a key frame was requested
	seq     uint16
	time    uint32
	frames  int
	pending []rtp.Packet
}

func (m *maker) descriptor(start bool) string {
	d := vp8.Plain()
	d.Start = start
	if m.frames%3 > 0 {
		d.Picture = m.frames % 128
		d.Wide = m.frames%2 == 0
		d.Level = m.frames % 256
		d.Layer = m.frames % 4
	}
	return d.Text()
}

func (m *maker) makeFrame() {
	m.frames++
	m.time += uint32(m.r.Intn(4000))
	parts := 1
	first := ""
	if m.video {
		parts += m.r.Intn(3)
		first = "\x01"
		if m.r.Intn(4) == 0 || m.wanted && m.r.Intn(2) == 0 {
			first = "\x00"
			m.wanted = false
		}
	}
	for part := range parts {
		payload := fmt.Sprintf("%s%d.%d.%d%s", first, m.ssrc, m.frames, part, strings.Repeat("x", m.r.Intn(20)))
		if m.video {
			payload = m.descriptor(part == 0) + payload
		}
		first = ""
		m.pending = append(m.pending, rtp.Packet{Marker: part == parts-1, Type: 99, Seq: m.seq, Time: m.time, Ssrc: m.ssrc, Payload: payload})
		m.seq++
	}
}

// next is the next packet, which may come early or late, twice or not at all.
func (m *maker) next() rtp.Packet {
	for len(m.pending) < 2 || m.r.Intn(20) == 0 {
		m.makeFrame()
		if m.r.Intn(10) == 0 {
			m.pending = m.pending[1:]
		}
	}
	at := 0
	if m.r.Intn(8) == 0 {
		at = m.r.Intn(len(m.pending))
	}
	p := m.pending[at]
	if m.r.Intn(20) > 0 {
		m.pending = slices.Delete(m.pending, at, at+1)
	}
	return p
}

// whole is a frame that was completed by a source's packets.
type whole struct {
	ssrc   uint32
	frame  frame.Frame
	paused bool // was the subscription, then?
}

// follower is what was seen of one stream.
type follower struct {
	link  access.Link
	video bool
	ssrc  uint32
	seq   uint16
	time  uint32
	begun bool
	texts map[uint16]string
	wants []whole // what was completed while the subscription existed
	last  int     // which of these was sent last; -1: none
	rest  []frame.Unit
	asked int // when a key frame was requested last; -1: never
}

// watch runs events on an sfu, and holds what comes out against the promises.
type watch struct {
	t       *testing.T
	r       *rand.Rand
	sfu     *Sfu
	same    *Sfu // has the same events
	clean   *Sfu // has the same events, but the bad datagrams
	config  Config
	makers  map[uint32]*maker
	sources map[uint32]*ingress.Source // beside the sfu's
	streams map[access.Link]*follower
	made    uint32
	credit  map[int]int
	sent    int
	open    int // how often a stream was seen open
	now     int
	event   Event
}

func newWatch(t *testing.T, r *rand.Rand) *watch {
	w := &watch{t: t, r: r, config: randomConfig(r), makers: map[uint32]*maker{}, sources: map[uint32]*ingress.Source{}, streams: map[access.Link]*follower{}, credit: map[int]int{}}
	for _, s := range []**Sfu{&w.sfu, &w.same, &w.clean} {
		made, e := New(w.config)
		if e != api.OK {
			t.Fatalf("New(%+v): %d", w.config, e)
		}
		*s = made
	}
	return w
}

func randomConfig(r *rand.Rand) Config {
	c := config()
	c.Ingress.Order.Most, c.Ingress.Order.Wait = 1+r.Intn(6), r.Intn(6)
	c.Ingress.Frame.Bytes, c.Ingress.Frame.Units = 30+r.Intn(100), 1+r.Intn(4)
	c.Egress.Frames, c.Egress.Bytes = 1+r.Intn(6), 50+r.Intn(300)
	c.Egress.Age, c.Egress.Guard = 1+r.Intn(60), 1+r.Intn(4)
	c.Egress.Most = 20 + r.Intn(100)
	c.Share = c.Egress.Most + r.Intn(3)
	c.Stall.After, c.Stall.Rest = 1+r.Intn(20), 1+r.Intn(20)
	c.Pli.First = 1 + r.Intn(4)
	c.Pli.Most = c.Pli.First + r.Intn(10)
	c.Ladder.Down, c.Ladder.Up = 1+r.Intn(4), 1+r.Intn(4)
	c.Window = 1 + r.Intn(100)
	c.Ring, c.Again, c.Gap = 1+r.Intn(20), r.Intn(3), r.Intn(4)
	c.Reports = 1 + r.Intn(10)
	return c
}

func (w *watch) fail(format string, a ...any) {
	w.t.Helper()
	w.t.Fatalf("%s\nat tick %d, event %+v, config %+v", fmt.Sprintf(format, a...), w.now, w.event, w.config)
}

// step runs an event; bad is whether it is a bad datagram, and no packet that only the ingress does not accept.
func (w *watch) step(e Event, bad bool) {
	w.t.Helper()
	w.event = e
	before := w.sfu.Bad()
	w.complete(e, bad)
	outputs := w.sfu.Step(e)
	if !slices.Equal(outputs, w.same.Step(e)) {
		w.fail("P26.8: the same events, other outputs: %v", lines(outputs))
	}
	if !bad && !slices.Equal(outputs, w.clean.Step(e)) {
		w.fail("P26.1: a bad datagram had an effect: %v", lines(outputs))
	}
	if bad && (len(outputs) > 0 || w.sfu.Bad() != before+1) {
		w.fail("P26.1: a bad datagram: %v, Bad %d after %d", lines(outputs), w.sfu.Bad(), before)
	}
	if e.Kind == Credit && w.sfu.has(e.Peer) {
		w.credit[e.Peer] += e.N
	}
	w.follow()
	for _, o := range outputs {
		w.look(o)
	}
	w.settle(outputs)
	// They belong to the caller.
	clear(outputs)
}

// has is whether there is such a participant.
func (s *Sfu) has(who int) bool {
	_, ok := s.Peer(who)
	return ok
}

// complete finds which frames an event completes, by sources of its own.
func (w *watch) complete(e Event, bad bool) {
	switch {
	case e.Kind == Tick:
		w.now++
		for _, ssrc := range slices.Sorted(maps.Keys(w.sources)) {
			w.completed(ssrc, w.sources[ssrc].Tick(w.now))
		}
	case e.Kind == Datagram && !bad && rtp.Is(e.Text):
		p, _ := rtp.Parse(e.Text)
		source, _ := w.sfu.Source(p.Ssrc)
		if track, _ := w.sfu.Track(source.Of); !track.Muted {
			frames, _ := w.sources[p.Ssrc].Put(p, w.now)
			w.completed(p.Ssrc, frames)
		}
	}
}

func (w *watch) completed(ssrc uint32, frames []frame.Frame) {
	source, _ := w.sfu.Source(ssrc)
	for _, f := range frames {
		for l, s := range w.streams {
			if l.Of == source.Of {
				sub, _ := w.sfu.Sub(l)
				s.wants = append(s.wants, whole{ssrc, f, sub.Paused})
			}
		}
	}
}

// stream is the one that has a source.
func (w *watch) stream(ssrc uint32) *follower {
	for _, s := range w.streams {
		if s.ssrc == ssrc {
			return s
		}
	}
	w.fail("there is no stream %d", ssrc)
	return nil
}

// look looks at one output.
func (w *watch) look(o Output) {
	switch o.Kind {
	case Packet:
		p, e := rtp.Parse(o.Text)
		if e != api.OK {
			w.fail("no packet: %+v", o)
		}
		s := w.stream(p.Ssrc)
		if s.link.Who != o.To {
			w.fail("a packet of %d goes to %d", s.link.Who, o.To)
		}
		w.order(s, p)
		s.texts[p.Seq] = o.Text
		w.part(s, p)
	case Again:
		p, _ := rtp.Parse(o.Text)
		s := w.stream(p.Ssrc)
		if s.link.Who != o.To || s.texts[p.Seq] != o.Text {
			w.fail("P26.2: it was not sent before: %s", line(o))
		}
		w.spend(o.To, len(o.Text))
	case Ask:
		l, _ := rtcp.Parse(o.Text)
		p := l[0].(rtcp.Pli)
		s := w.stream(p.From)
		s.asked = w.now
		source, ok := w.sfu.Source(p.To)
		if !ok || source.Of != s.link.Of || source.Of.Peer != o.To {
			w.fail("it asks another one: %s", line(o))
		}
		w.makers[p.To].wanted = true
	}
}

// order looks at the numbers and times of a stream's packets.
func (w *watch) order(s *follower, p rtp.Packet) {
	kind := byte(111)
	if s.video {
		kind = 96
	}
	if p.Seq != s.seq || p.Type != kind || len(p.Csrcs) > 0 || p.Ext || p.Padding > 0 {
		w.fail("P26.2: %+v, want number %d", p, s.seq)
	}
	if s.begun && int32(p.Time-s.time) < 0 {
		w.fail("P26.2: time %d after %d", p.Time, s.time)
	}
	s.seq, s.time, s.begun = p.Seq+1, p.Time, true
}

func (w *watch) spend(who, n int) {
	w.credit[who] -= n
	if w.credit[who] < 0 {
		w.fail("P26.6: more is sent to %d than was granted", who)
	}
}

// content is what follows the descriptor.
func content(video bool, payload string) string {
	if !video {
		return payload
	}
	_, rest, _ := vp8.Parse(payload)
	return rest
}

// part looks at a packet as a part of a frame.
func (w *watch) part(s *follower, p rtp.Packet) {
	if len(s.rest) == 0 {
		w.first(s, p)
	}
	u := s.rest[0]
	s.rest = s.rest[1:]
	if u.Marker != p.Marker || content(s.video, u.Text) != content(s.video, p.Payload) {
		w.fail("P26.3: %+v, want %+v", p, u)
	}
	if len(s.rest) == 0 {
		w.sent++
	}
}

// first finds the frame that begins with a packet.
func (w *watch) first(s *follower, p rtp.Packet) {
	at := slices.IndexFunc(s.wants, func(x whole) bool {
		return content(s.video, x.frame.Units[0].Text) == content(s.video, p.Payload)
	})
	if at <= s.last || s.wants[at].paused {
		w.fail("P26.3: %q of %d is frame %d, after %d", p.Payload, s.ssrc, at, s.last)
	}
	x := s.wants[at]
	w.spend(s.link.Who, x.frame.Size())
	if s.video && !x.frame.Key() {
		if s.last < 0 || s.wants[s.last].ssrc != x.ssrc {
			w.fail("P26.4: the first one of a layer is not Key: %+v", x.frame)
		}
		for _, y := range s.wants[s.last+1 : at] {
			if y.ssrc == x.ssrc {
				w.fail("P26.4: %+v is not Key, and the one ahead of it was not sent", x.frame)
			}
		}
	}
	s.last, s.rest = at, x.frame.Units
}

// settle looks at what there is after an event.
func (w *watch) settle(outputs []Output) {
	for _, s := range w.streams {
		if len(s.rest) > 0 {
			w.fail("P26.3: a frame of %d is not complete", s.ssrc)
		}
		w.live(s)
	}
	for who, credit := range w.credit {
		if w.sfu.has(who) && w.sfu.Credit(who) != credit {
			w.fail("Credit(%d): %d, want %d", who, w.sfu.Credit(who), credit)
		}
	}
	if w.sfu.Count(ledger.Sent) != w.sent {
		w.fail("P26.5: %d frames were sent, not %d", w.sent, w.sfu.Count(ledger.Sent))
	}
	if w.sfu.Late(0) != w.sfu.Count(ledger.Pending) {
		w.fail("P26.5: %d frames are pending, not %d", w.sfu.Late(0), w.sfu.Count(ledger.Pending))
	}
	if len(w.sfu.waiting) != w.sfu.Count(ledger.Pending) {
		w.fail("more frames are kept than wait: %d", len(w.sfu.waiting))
	}
	if w.event.Kind == Tick && w.sfu.Late(w.config.Egress.Age) > 0 {
		w.fail("P26.5: frames are pending for too long")
	}
	if w.sfu.Now() != w.now {
		w.fail("Now: %d", w.sfu.Now())
	}
	for i, o := range outputs {
		if o.Kind == Answer && slices.ContainsFunc(outputs[i+1:], func(o Output) bool { return o.Kind != Ask }) {
			w.fail("the answer is not last: %v", lines(outputs))
		}
	}
}

// live looks whether a key frame is requested for a stream that is not open.
func (w *watch) live(s *follower) {
	ssrc, _, open := w.sfu.Stream(s.link)
	if ssrc != s.ssrc {
		w.fail("Stream(%+v): %d, want %d", s.link, ssrc, s.ssrc)
	}
	if open {
		w.open++
	}
	track, _ := w.sfu.Track(s.link.Of)
	sub, _ := w.sfu.Sub(s.link)
	if !open && s.video && !track.Muted && !sub.Paused && !w.sfu.Suspended(s.link.Who) {
		if s.asked < 0 || w.now-s.asked >= w.config.Pli.Most {
			w.fail("P26.7: stream %d was asked for at %d", s.ssrc, s.asked)
		}
	}
}

// follow does with the streams and sources what the event did with the state.
func (w *watch) follow() {
	links := w.sfu.Links()
	maps.DeleteFunc(w.streams, func(l access.Link, _ *follower) bool { return !slices.Contains(links, l) })
	for _, l := range links {
		if w.streams[l] == nil {
			track, _ := w.sfu.Track(l.Of)
			w.streams[l] = &follower{link: l, video: track.Video, ssrc: base + w.made, seq: 1, texts: map[uint16]string{}, last: -1, asked: -1}
			w.made++
		}
	}
	for ssrc := range w.sources {
		if _, ok := w.sfu.Source(ssrc); !ok {
			delete(w.sources, ssrc)
			delete(w.makers, ssrc)
		}
	}
	for who := range w.credit {
		if !w.sfu.has(who) {
			delete(w.credit, who)
		}
	}
}

// anyone is mostly the number of a participant.
func (w *watch) anyone() int {
	var l []int
	for _, room := range w.sfu.Rooms() {
		for _, p := range w.sfu.In(room) {
			l = append(l, p.N)
		}
	}
	if len(l) == 0 || w.r.Intn(10) == 0 {
		return w.r.Intn(9)
	}
	return l[w.r.Intn(len(l))]
}

// command does a random command.
func (w *watch) command() {
	r := w.r
	c := control.Command{Kind: 1 + r.Intn(8), Peer: w.anyone(), Track: r.Intn(2)}
	if r.Intn(2) == 0 {
		c.Kind = control.Subscribe
	}
	switch c.Kind {
	case control.Join:
		c = control.Command{Kind: control.Join, Room: string('a' + rune(r.Intn(2))), Name: string('a' + rune(r.Intn(4)))}
	case control.Leave:
		c.Track = 0
		if r.Intn(4) > 0 {
			return
		}
	case control.Publish:
		c.Video = r.Intn(3) > 0
		for n := range 1 + r.Intn(3) {
			if n == 0 || c.Video {
				c.Ssrcs = append(c.Ssrcs, uint32(r.Intn(30)))
			}
		}
	case control.Subscribe:
		c.Of, c.Layer = w.anyone(), r.Intn(3)
	case control.Unsubscribe:
		c.Of = w.anyone()
	case control.Mute:
		c.On = r.Intn(3) == 0
	case control.Pause:
		c.Of, c.On = w.anyone(), r.Intn(3) == 0
	}
	_, e := w.try(c)
	w.step(Event{Kind: Control, Text: c.Text()}, false)
	if e == api.OK && c.Kind == control.Publish {
		config := w.config.Ingress
		config.Frame.Video = c.Video
		for _, ssrc := range c.Ssrcs {
			w.sources[ssrc], _ = ingress.New(config)
			w.makers[ssrc] = &maker{r: r, ssrc: ssrc, video: c.Video, seq: uint16(r.Intn(1 << 16)), time: r.Uint32()}
		}
	}
}

// try says whether a command would be done: for a Publish only.
func (w *watch) try(c control.Command) (int, api.Errno) {
	if e := c.Check(); e != api.OK || c.Kind != control.Publish {
		return 0, e
	}
	if _, ok := w.sfu.Track(access.Key{Peer: c.Peer, Track: c.Track}); ok || !w.sfu.has(c.Peer) {
		return 0, api.ErrThere
	}
	for _, ssrc := range c.Ssrcs {
		if _, ok := w.sfu.Source(ssrc); ok {
			return 0, api.ErrSsrc
		}
	}
	return 0, api.OK
}

// packet sends the next packet of a random source.
func (w *watch) packet() {
	if len(w.makers) == 0 {
		return
	}
	ssrcs := slices.Sorted(maps.Keys(w.makers))
	ssrc := ssrcs[w.r.Intn(len(ssrcs))]
	source, _ := w.sfu.Source(ssrc)
	w.step(Event{Kind: Datagram, Peer: source.Of.Peer, Text: w.makers[ssrc].next().Text()}, false)
}

// report sends what a random participant may say.
func (w *watch) report() {
	who := w.anyone()
	if !w.sfu.has(who) {
		return
	}
	stream := base + uint32(w.r.Intn(int(w.made)+1))
	var l []rtcp.Packet
	for range 1 + w.r.Intn(3) {
		switch w.r.Intn(4) {
		case 0:
			l = append(l, rtcp.Nack{To: stream, Pairs: rtcp.Pairs(uint16(w.r.Intn(40)), uint16(w.r.Intn(40)))})
		case 1:
			l = append(l, rtcp.Pli{To: stream})
		case 2:
			l = append(l, rtcp.Remb{Rate: uint64(w.r.Intn(1 << 14)), Ssrcs: []uint32{stream}})
		case 3:
			l = append(l, rtcp.Sender{Ssrc: uint32(w.r.Intn(30)), Ntp: w.r.Uint64(), Time: w.r.Uint32()})
		}
	}
	w.step(Event{Kind: Datagram, Peer: who, Text: rtcp.Text(l...)}, false)
}

// spoil sends a bad datagram.
func (w *watch) spoil() {
	who := w.anyone()
	good := rtp.Packet{Seq: uint16(w.r.Intn(1 << 16)), Ssrc: uint32(w.r.Intn(30)), Payload: "\x10\x00"}
	texts := []string{"", "\x80", "\x80\x60", "\x80\xce\x00\x02", good.Text()[:11], rtcp.Text(rtcp.Pli{To: base}) + "?"}
	text := texts[w.r.Intn(len(texts))]
	if source, _ := w.sfu.Source(good.Ssrc); source.Of.Peer != who {
		text = good.Text()
	}
	w.step(Event{Kind: Datagram, Peer: who, Text: text}, true)
}

func (w *watch) random() {
	switch n := w.r.Intn(100); {
	case n < 10:
		w.command()
	case n < 60:
		w.packet()
	case n < 78:
		w.step(Event{Kind: Tick}, false)
	case n < 87:
		w.step(Event{Kind: Credit, Peer: w.anyone(), N: w.r.Intn(100)}, false)
	case n < 95:
		w.report()
	default:
		w.spoil()
	}
}

// P26.1 to P26.8, whatever happens.
func TestThePromisesHold(t *testing.T) {
	sent, open, ends, bad := 0, 0, [4]int{}, 0
	for seed := range int64(300) {
		w := newWatch(t, rand.New(rand.NewSource(seed)))
		for n := range 3 {
			w.step(Event{Kind: Control, Text: control.Command{Kind: control.Join, Room: "a", Name: string('a' + rune(n))}.Text()}, false)
		}
		for range 2000 {
			w.random()
		}
		sent, open, bad = sent+w.sent, open+w.open, bad+w.sfu.Bad()
		for f := range ends {
			ends[f] += w.sfu.Count(ledger.Fate(f))
		}
		for n := range 4 {
			if w.sfu.Count(ledger.Fate(n)) != w.clean.Count(ledger.Fate(n)) {
				t.Fatalf("P26.1: other fates without bad datagrams")
			}
		}
		if w.sfu.Bad() <= w.clean.Bad() {
			t.Fatalf("Bad: %d, without bad datagrams %d", w.sfu.Bad(), w.clean.Bad())
		}
	}
	// Otherwise all of this would say nothing.
	if sent < 10000 || open < 10000 || slices.Min(ends[1:]) < 1000 {
		t.Errorf("too little came out: %d, %d, %v", sent, open, ends)
	}
	t.Log(sent, open, ends, bad)
}
