package sfu

import (
	"maps"
	"slices"

	"antiphon/access"
	"antiphon/api"
	"antiphon/control"
	"antiphon/egress"
	"antiphon/frame"
	"antiphon/ledger"
	"antiphon/queue"
	"antiphon/report"
	"antiphon/rtcp"
	"antiphon/rtp"
	"antiphon/stall"
)

// command does a command: its answer.
func (s *Sfu) command(text string) Output {
	c, e := control.Parse(text)
	if e != api.OK {
		return Output{Kind: Answer, Err: e}
	}
	n, e := s.Do(c)
	if e == api.OK {
		s.follow(c, n)
	}
	return Output{Kind: Answer, To: n, Err: e}
}

// receive takes a datagram that came from a participant, and counts it if it is bad.
func (s *Sfu) receive(who int, text string, tell func(Output)) {
	if !s.take(who, text, tell) {
		s.bad++
	}
}

// take does what a datagram of a participant says; false: it is bad.
func (s *Sfu) take(who int, text string, tell func(Output)) bool {
	p, ok := s.peers[who]
	if !ok {
		return false
	}
	if rtp.Is(text) {
		m, e := rtp.Parse(text)
		return e == api.OK && s.takePacket(p, m, tell)
	}
	l, e := rtcp.Parse(text)
	if e != api.OK {
		return false
	}
	s.takeReports(p, l, tell)
	return true
}

// takePacket delivers what a packet of a participant completes; false: it is bad.
func (s *Sfu) takePacket(p *peer, m rtp.Packet, tell func(Output)) bool {
	src, ok := s.sources[m.Ssrc]
	if !ok || src.of.Peer != p.n {
		return false
	}
	if track, _ := s.Track(src.of); track.Muted {
		return true
	}
	frames, e := src.in.Put(m, s.now)
	if e != api.OK {
		return false
	}
	var to []*peer
	for _, who := range s.Wants(src.of) {
		to = append(to, s.peers[who])
	}
	s.deliver(src, frames, to, tell)
	return true
}

// takeReports takes what a participant says of its own sources, and of the streams that it receives.
func (s *Sfu) takeReports(p *peer, l []rtcp.Packet, tell func(Output)) {
	for _, x := range l {
		r, ok := x.(rtcp.Sender)
		if !ok {
			continue
		}
		if src, ok := s.sources[r.Ssrc]; ok && src.of.Peer == p.n {
			src.clock.Put(r)
		}
	}
	for _, t := range p.streams {
		s.serve(p, t, report.Read(t.out.Ssrc(), l...), tell)
	}
}

// serve does what a receiver asks of a stream.
func (s *Sfu) serve(p *peer, t *stream, a report.Asks, tell func(Output)) {
	for _, text := range report.Serve(t.ring, a, s.now, p.outlet.Credit()) {
		p.outlet.Spend(len(text))
		tell(Output{Kind: Again, To: p.n, Text: text})
	}
	if a.Key && t.video {
		t.asked = true
	}
	// 0 says nothing, and what was said before holds on.
	if a.Rate > 0 {
		p.meter.Cap(a.Rate)
	}
}

// grant gives a participant more credit.
func (s *Sfu) grant(who, n int, tell func(Output)) {
	p, ok := s.peers[who]
	if !ok {
		return
	}
	p.outlet.Grant(n)
	s.send(p, tell)
}

// deliver offers the frames of a source to the subscribers of its track. Even without frames they are sent what a removed one has let go.
func (s *Sfu) deliver(src *source, frames []frame.Frame, to []*peer, tell func(Output)) {
	for _, f := range frames {
		for _, p := range to {
			s.offer(p, src, f)
		}
	}
	for _, p := range to {
		s.send(p, tell)
	}
}

// offer puts a frame into a subscriber's outlet, if it goes through.
func (s *Sfu) offer(p *peer, src *source, f frame.Frame) {
	t := p.stream(src.of)
	if p.dog.Suspended() || !t.gate.Pass(src.layer, f.Key()) {
		return
	}
	if f.Key() {
		t.asked = false
	}
	x := queue.Item{N: s.book.Accept(s.now), Size: f.Size(), Tick: s.now, Key: f.Key()}
	s.waiting[x.N] = offered{ssrc: src.ssrc, frame: f}
	dropped, ok := p.outlet.Put(t.flow, x)
	s.end(ledger.Dropped, dropped...)
	if !ok {
		s.end(ledger.Dropped, egress.Sent{Id: t.flow, Item: x})
	}
	if !ok || p.outlet.Broken(t.flow) {
		t.shut()
	}
}

// shut closes a gate of pictures. What follows in a flow of sounds needs nothing that is lost.
func (t *stream) shut() {
	if t.video {
		t.gate.Shut()
	}
}

// send sends what can be sent to a participant.
func (s *Sfu) send(p *peer, tell func(Output)) {
	for _, x := range p.outlet.Run() {
		t, w := p.flow(x.Id), s.waiting[x.Item.N]
		for _, m := range t.out.Frame(int(w.ssrc), w.frame) {
			text := m.Text()
			tell(Output{Kind: Packet, To: p.n, Text: text})
			t.ring.Put(m.Seq, text)
		}
		p.meter.Add(s.now, x.Item.Size)
		p.sent = true
		s.end(ledger.Sent, x)
	}
}

// end records the fate of frames that do not wait any more.
func (s *Sfu) end(f ledger.Fate, l ...egress.Sent) {
	for _, x := range l {
		s.book.End(x.Item.N, f, s.now)
		delete(s.waiting, x.Item.N)
	}
}

// tick is the next tick.
func (s *Sfu) tick(tell func(Output)) {
	s.now++
	to := s.subscribers()
	for _, ssrc := range slices.Sorted(maps.Keys(s.sources)) {
		src := s.sources[ssrc]
		s.deliver(src, src.in.Tick(s.now), to[src.of], tell)
	}
	for p := range s.everyone() {
		s.tickPeer(p, tell)
	}
	if s.now%s.Reports == 0 {
		s.report(tell)
	}
}

// subscribers is who subscribes to each track, in ascending order: for all sources at once, as Wants goes through all subscriptions for each.
func (s *Sfu) subscribers() map[access.Key][]*peer {
	to := map[access.Key][]*peer{}
	for p, t := range s.streams() {
		to[t.of] = append(to[t.of], p)
	}
	return to
}

// tickPeer is the next tick of a participant.
func (s *Sfu) tickPeer(p *peer, tell func(Output)) {
	s.expire(p)
	waits := p.waits()
	if p.dog.Tick(s.now, waits, p.sent) == stall.Suspend {
		s.suspend(p)
	}
	p.sent = false
	p.climb(p.meter.Guess(s.now, waits))
	s.send(p, tell)
}

// expire drops what has waited too long.
func (s *Sfu) expire(p *peer) {
	dropped := p.outlet.Tick(s.now)
	s.end(ledger.Dropped, dropped...)
	for _, x := range dropped {
		if p.outlet.Broken(x.Id) {
			p.flow(x.Id).shut()
		}
	}
}

// waits is whether something waits.
func (p *peer) waits() bool {
	return slices.ContainsFunc(p.streams, func(t *stream) bool {
		n, _ := p.outlet.Waits(t.flow)
		return n > 0
	})
}

// suspend cancels all that waits.
func (s *Sfu) suspend(p *peer) {
	for _, t := range p.streams {
		s.end(ledger.Cancelled, p.outlet.Break(t.flow)...)
		t.gate.Shut()
	}
}

// climb shares a rate out among the streams of pictures, which may want other layers by that.
func (p *peer) climb(rate int) {
	n := 0
	for _, t := range p.streams {
		if t.video {
			n++
		}
	}
	for _, t := range p.streams {
		if t.video {
			t.ladder.Tick(rate / n)
			t.gate.Want(t.ladder.At())
		}
	}
}

// report sends the reports of the sources whose frames are sent.
func (s *Sfu) report(tell func(Output)) {
	for p, t := range s.streams() {
		track, _ := s.Track(t.of)
		for _, ssrc := range track.Ssrcs {
			if r, ok := t.told(s.sources[ssrc]); ok {
				tell(Output{Kind: Report, To: p.n, Text: rtcp.Text(r)})
			}
		}
	}
}

// told is the last report of a source as it is told of a stream; false: there is none, or another one's frames were sent last.
func (t *stream) told(src *source) (rtcp.Sender, bool) {
	at, ok := src.clock.Time()
	if !ok {
		return rtcp.Sender{}, false
	}
	time, ok := t.out.Told(int(src.ssrc), int64(at))
	if !ok {
		return rtcp.Sender{}, false
	}
	_, packets, octets := t.out.Counts()
	return src.clock.Sender(t.out.Ssrc(), time, packets, octets)
}

// ask requests the key frames that are wanted.
func (s *Sfu) ask(tell func(Output)) {
	for p, t := range s.streams() {
		layer, on := t.wants()
		var track access.Track
		if on {
			track, _ = s.Track(t.of)
			on = !track.Muted && !p.dog.Suspended()
		}
		if t.asker.Want(on, s.now) {
			text := rtcp.Text(rtcp.Pli{From: t.out.Ssrc(), To: track.Ssrcs[layer]})
			tell(Output{Kind: Ask, To: t.of.Peer, Text: text})
		}
	}
}

// wants is the layer of which a stream wants a key frame; false: it wants none.
func (t *stream) wants() (int, bool) {
	if layer, ok := t.gate.Needs(); ok {
		return layer, true
	}
	return t.gate.Aim(), t.asked && !t.gate.Paused()
}
