package sfu

import (
	"cmp"
	"iter"
	"maps"
	"slices"

	"antiphon/access"
	"antiphon/control"
	"antiphon/egress"
	"antiphon/frame"
	"antiphon/gate"
	"antiphon/ingress"
	"antiphon/ladder"
	"antiphon/ledger"
	"antiphon/pli"
	"antiphon/rate"
	"antiphon/report"
	"antiphon/rewrite"
	"antiphon/ring"
	"antiphon/stall"
)

// firstSource is the source of the first stream.
const firstSource = 1 << 31

// firstNumber is the number of a stream's first packet.
const firstNumber = 1

// What the packets of streams say that they have.
const (
	pictures = 96
	sounds   = 111
)

// peer is what a participant has.
type peer struct {
	n       int
	outlet  *egress.Out
	dog     *stall.Dog
	meter   *rate.Meter
	streams []*stream // by the keys of their tracks, ascending
	sent    bool      // was something, since the dog's last Tick?
}

// source is what a source has.
type source struct {
	ssrc  uint32
	of    access.Key
	layer int
	in    *ingress.Source
	clock report.Clock
}

// stream is what a subscription has.
type stream struct {
	flow   int
	of     access.Key
	video  bool
	ladder *ladder.Ladder
	gate   *gate.Gate
	out    *rewrite.Out
	ring   *ring.Ring
	asker  *pli.Asker
	asked  bool // has the receiver requested a key frame, and none passed since?
}

// offered is a frame that waits, and the source that it came from.
type offered struct {
	ssrc  uint32
	frame frame.Frame
}

// addPeer gives a new participant what it has.
func (s *Sfu) addPeer(n int) {
	// The Config was checked, so that nothing here can fail.
	outlet, _ := egress.New(s.Egress)
	dog, _ := stall.New(s.Stall)
	meter, _ := rate.New(s.Window)
	s.peers[n] = &peer{n: n, outlet: outlet, dog: dog, meter: meter}
}

// addSources gives the sources of a new track what they have.
func (s *Sfu) addSources(k access.Key) {
	track, _ := s.Track(k)
	c := s.Ingress
	c.Frame.Video = track.Video
	for layer, ssrc := range track.Ssrcs {
		in, _ := ingress.New(c)
		s.sources[ssrc] = &source{ssrc: ssrc, of: k, layer: layer, in: in}
	}
}

// addStream gives a new subscription what it has.
func (s *Sfu) addStream(p *peer, k access.Key, layer int) {
	track, _ := s.Track(k)
	kind := byte(sounds)
	if track.Video {
		kind = pictures
	}
	t := &stream{flow: s.made, of: k, video: track.Video}
	t.ladder, _ = ladder.New(s.Ladder, layer, s.Needs[:len(track.Ssrcs)]...)
	t.gate = gate.New(track.Video, t.ladder.At())
	t.out = rewrite.New(track.Video, firstSource+uint32(s.made), kind, firstNumber)
	t.ring, _ = ring.New(s.Ring, s.Again, s.Gap)
	t.asker, _ = pli.New(s.Pli)
	s.made++
	p.outlet.Add(t.flow, t.video, s.Share)
	at, _ := slices.BinarySearchFunc(p.streams, k, func(t *stream, k access.Key) int {
		return compareKeys(t.of, k)
	})
	p.streams = slices.Insert(p.streams, at, t)
}

func compareKeys(a, b access.Key) int {
	return cmp.Or(cmp.Compare(a.Peer, b.Peer), cmp.Compare(a.Track, b.Track))
}

// stream is that of a track; nil: it is not subscribed to.
func (p *peer) stream(k access.Key) *stream {
	return p.find(func(t *stream) bool { return t.of == k })
}

// flow is the stream of a flow; nil: there is none.
func (p *peer) flow(n int) *stream {
	return p.find(func(t *stream) bool { return t.flow == n })
}

func (p *peer) find(is func(*stream) bool) *stream {
	at := slices.IndexFunc(p.streams, is)
	if at < 0 {
		return nil
	}
	return p.streams[at]
}

// follow does with what is here what a command did with the state.
func (s *Sfu) follow(c control.Command, n int) {
	of := access.Key{Peer: c.Of, Track: c.Track}
	switch c.Kind {
	case control.Join:
		s.addPeer(n)
	case control.Publish:
		s.addSources(access.Key{Peer: c.Peer, Track: c.Track})
	case control.Subscribe:
		s.subscribe(s.peers[c.Peer], of, c.Layer)
	case control.Pause:
		s.pause(s.peers[c.Peer], of, c.On)
	case control.Leave, control.Unpublish, control.Unsubscribe:
		s.removeGone()
	}
}

// subscribe makes a stream, or wants another layer of the one that there is.
func (s *Sfu) subscribe(p *peer, k access.Key, layer int) {
	t := p.stream(k)
	if t == nil {
		s.addStream(p, k, layer)
		return
	}
	t.ladder.Want(layer)
	t.gate.Want(t.ladder.At())
}

// pause pauses a stream, or lets it go on.
func (s *Sfu) pause(p *peer, k access.Key, on bool) {
	t := p.stream(k)
	t.gate.Pause(on)
	if on {
		s.end(ledger.Cancelled, p.outlet.Break(t.flow)...)
	}
}

// removeGone removes what is no longer in the state.
func (s *Sfu) removeGone() {
	for n, p := range s.peers {
		p.streams = slices.DeleteFunc(p.streams, func(t *stream) bool {
			_, there := s.Sub(access.Link{Who: n, Of: t.of})
			if !there {
				waited, _ := p.outlet.Remove(t.flow)
				s.end(ledger.Cancelled, waited...)
			}
			return !there
		})
	}
	maps.DeleteFunc(s.peers, func(n int, _ *peer) bool {
		_, there := s.Peer(n)
		return !there
	})
	maps.DeleteFunc(s.sources, func(ssrc uint32, _ *source) bool {
		_, there := s.Source(ssrc)
		return !there
	})
}

// everyone is all participants, in ascending order.
func (s *Sfu) everyone() iter.Seq[*peer] {
	return func(yield func(*peer) bool) {
		for _, n := range slices.Sorted(maps.Keys(s.peers)) {
			if !yield(s.peers[n]) {
				return
			}
		}
	}
}

// streams is all streams with those who receive them, in the order of the state's Links.
func (s *Sfu) streams() iter.Seq2[*peer, *stream] {
	return func(yield func(*peer, *stream) bool) {
		for p := range s.everyone() {
			for _, t := range p.streams {
				if !yield(p, t) {
					return
				}
			}
		}
	}
}
