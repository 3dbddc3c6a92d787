package sfu

import (
	"fmt"
	"math"
	"math/rand"
	"slices"
	"strconv"
	"strings"
	"testing"

	"antiphon/access"
	"antiphon/api"
	"antiphon/control"
	"antiphon/egress"
	"antiphon/frame"
	"antiphon/ingress"
	"antiphon/ladder"
	"antiphon/ledger"
	"antiphon/pli"
	"antiphon/reorder"
	"antiphon/rtcp"
	"antiphon/rtp"
	"antiphon/stall"
)

// base is the source of stream 0.
const base = 1 << 31

func config() Config {
	return Config{
		Ingress: ingress.Config{Order: reorder.Config{Most: 8, Wait: 5}, Frame: frame.Config{Bytes: 300, Units: 6, Wait: 10}},
		Egress:  egress.Config{Frames: 4, Bytes: 400, Age: 10, Most: 100, Guard: 3},
		Pli:     pli.Config{First: 3, Most: 12},
		Stall:   stall.Config{After: 50, Rest: 20},
		Ladder:  ladder.Config{Down: 3, Up: 5},
		Needs:   []int{50, 200, 500},
		Window:  50,
		Ring:    32, Again: 1, Gap: 2, Share: 100, Reports: 25,
	}
}

// stand is an sfu with what a test needs around it.
type stand struct {
	t *testing.T
	*Sfu
}

func newStand(t *testing.T, c Config) stand {
	t.Helper()
	s, e := New(c)
	if e != api.OK {
		t.Fatalf("New(%+v): %d", c, e)
	}
	return stand{t, s}
}

// line is an output in short: of a packet the receiver, the number of its stream, type, number, time, payload, and a + unless it has the Marker.
func line(o Output) string {
	switch o.Kind {
	case Packet, Again:
		p, e := rtp.Parse(o.Text)
		if e != api.OK || o.Err != 0 || len(p.Csrcs) > 0 || p.Ext || p.Padding > 0 {
			return fmt.Sprintf("no packet: %+v", o)
		}
		more := "+"
		if p.Marker {
			more = ""
		}
		kind := map[int]string{Packet: "packet", Again: "again"}[o.Kind]
		return fmt.Sprintf("%s %d: %d/%d #%d @%d %q%s", kind, o.To, p.Ssrc-base, p.Type, p.Seq, p.Time, p.Payload, more)
	case Ask, Report:
		l, e := rtcp.Parse(o.Text)
		if e != api.OK || o.Err != 0 || len(l) != 1 {
			return fmt.Sprintf("no report: %+v", o)
		}
		switch p := l[0].(type) {
		case rtcp.Pli:
			if o.Kind == Ask {
				return fmt.Sprintf("ask %d: %d for %d", o.To, p.From-base, p.To)
			}
		case rtcp.Sender:
			if o.Kind == Report && len(p.Blocks) == 0 {
				return fmt.Sprintf("report %d: %d ntp %d @%d, %d, %d", o.To, p.Ssrc-base, p.Ntp, p.Time, p.Packets, p.Octets)
			}
		}
	case Answer:
		if o.Text == "" {
			return fmt.Sprintf("answer %d %d", o.To, o.Err)
		}
	}
	return fmt.Sprintf("nothing: %+v", o)
}

func lines(outputs []Output) []string {
	var l []string
	for _, o := range outputs {
		l = append(l, line(o))
	}
	return l
}

// sees wants these outputs.
func (d stand) sees(outputs []Output, want ...string) {
	d.t.Helper()
	if l := lines(outputs); !slices.Equal(l, want) {
		d.t.Fatalf("outputs:\n%s\nwant:\n%s", strings.Join(l, "\n"), strings.Join(want, "\n"))
	}
}

// counts wants that many frames pending, sent, dropped, cancelled.
func (d stand) counts(want ...int) {
	d.t.Helper()
	var l []int
	for f := ledger.Pending; f <= ledger.Cancelled; f++ {
		l = append(l, d.Count(f))
	}
	if !slices.Equal(l, want) {
		d.t.Fatalf("fates: %v, want %v", l, want)
	}
}

// open wants the stream of a subscription to be open for a layer, or closed for one below 0.
func (d stand) open(l access.Link, stream uint32, layer int) {
	d.t.Helper()
	ssrc, at, open := d.Stream(l)
	if ssrc != base+stream || at != max(layer, 0) || open != (layer >= 0) {
		d.t.Fatalf("Stream(%+v): %d, %d, %t, want %d, %d", l, ssrc, at, open, base+stream, layer)
	}
}

func (d stand) do(c control.Command) []Output {
	return d.Step(Event{Kind: Control, Text: c.Text()})
}

// done wants a command to be answered with OK, and returns what comes behind the answer.
func (d stand) done(c control.Command) []Output {
	d.t.Helper()
	l := d.do(c)
	if len(l) == 0 || l[0].Kind != Answer || l[0].Err != api.OK {
		d.t.Fatalf("%+v: %v", c, lines(l))
	}
	return l[1:]
}

func (d stand) join(names ...string) {
	d.t.Helper()
	for _, name := range names {
		d.done(control.Command{Kind: control.Join, Room: "hall", Name: name})
	}
}

func (d stand) publish(peer, track int, ssrcs ...uint32) {
	d.t.Helper()
	d.done(control.Command{Kind: control.Publish, Peer: peer, Track: track, Video: true, Ssrcs: ssrcs})
}

func (d stand) speak(peer, track int, ssrc uint32) {
	d.t.Helper()
	d.done(control.Command{Kind: control.Publish, Peer: peer, Track: track, Ssrcs: []uint32{ssrc}})
}

func (d stand) subscribe(peer, of, track, layer int) []Output {
	d.t.Helper()
	return d.done(control.Command{Kind: control.Subscribe, Peer: peer, Of: of, Track: track, Layer: layer})
}

func (d stand) pause(peer, of, track int, on bool) []Output {
	d.t.Helper()
	return d.done(control.Command{Kind: control.Pause, Peer: peer, Of: of, Track: track, On: on})
}

func (d stand) mute(peer, track int, on bool) []Output {
	d.t.Helper()
	return d.done(control.Command{Kind: control.Mute, Peer: peer, Track: track, On: on})
}

func (d stand) datagram(peer int, text string) []Output {
	return d.Step(Event{Kind: Datagram, Peer: peer, Text: text})
}

// packet sends a packet with the Marker, at the time that is its number times 10.
func (d stand) packet(peer int, ssrc uint32, seq uint16, payload string) []Output {
	return d.datagram(peer, rtp.Packet{Marker: true, Type: 100, Seq: seq, Time: 10 * uint32(seq), Ssrc: ssrc, Payload: payload}.Text())
}

func (d stand) reports(peer int, l ...rtcp.Packet) []Output {
	return d.datagram(peer, rtcp.Text(l...))
}

func (d stand) credit(peer, n int) []Output {
	return d.Step(Event{Kind: Credit, Peer: peer, N: n})
}

func (d stand) tickOnce() []Output {
	return d.Step(Event{Kind: Tick})
}

// ticks lets ticks pass, and returns all that comes out, each output behind the tick.
func (d stand) ticks(n int) []string {
	var l []string
	for range n {
		for _, o := range d.tickOnce() {
			l = append(l, fmt.Sprintf("%d: %s", d.Now(), line(o)))
		}
	}
	return l
}

// passes lets ticks pass, in which these outputs come.
func (d stand) passes(n int, want ...string) {
	d.t.Helper()
	if l := d.ticks(n); !slices.Equal(l, want) {
		d.t.Fatalf("outputs up to tick %d:\n%s\nwant:\n%s", d.Now(), strings.Join(l, "\n"), strings.Join(want, "\n"))
	}
}

// bad wants that many datagrams to have been bad.
func (d stand) bad(want int) {
	d.t.Helper()
	if n := d.Bad(); n != want {
		d.t.Fatalf("Bad: %d, want %d", n, want)
	}
}

// has wants a participant to have that much credit.
func (d stand) has(who, credit int) {
	d.t.Helper()
	if n := d.Credit(who); n != credit {
		d.t.Fatalf("Credit(%d): %d, want %d", who, n, credit)
	}
}

// key and other are the payloads of pictures of six bytes, of which the first one needs no other one.
func key(name byte) string   { return "\x10\x00key" + string(name) }
func other(name byte) string { return "\x10\x01oth" + string(name) }

// link is the subscription of a participant to track 0 of another one.
func link(who, of int) access.Link {
	return access.Link{Who: who, Of: access.Key{Peer: of}}
}

// pair is a stand with Ann (0), who publishes pictures of one source (7), and Bob (1), who subscribes to them.
func pair(t *testing.T, c Config) stand {
	t.Helper()
	d := newStand(t, c)
	d.join("ann", "bob")
	d.publish(0, 0, 7)
	d.sees(d.subscribe(1, 0, 0, 0), "ask 0: 0 for 7")
	return d
}

// The configuration, an sfu without participants.

func TestCheckOfAConfiguration(t *testing.T) {
	change := func(f func(c *Config)) Config {
		c := config()
		f(&c)
		return c
	}
	valid := []Config{
		config(),
		change(func(c *Config) { c.Needs = []int{0, 0, 0} }),
		change(func(c *Config) { c.Needs = []int{7, 7, 1 << 40} }),
		change(func(c *Config) { c.Window = 1 }),
		change(func(c *Config) { c.Window = 1 << 20 }),
		change(func(c *Config) { c.Ring, c.Again, c.Gap = 1, 0, 0 }),
		change(func(c *Config) { c.Ring, c.Again, c.Gap = 4096, math.MaxInt, math.MaxInt }),
		change(func(c *Config) { c.Share = 1 << 24 }),
		change(func(c *Config) { c.Share = c.Egress.Most }),
		change(func(c *Config) { c.Reports = 1 }),
		change(func(c *Config) { c.Reports = 1 << 40 }),
		change(func(c *Config) { c.Ingress.Frame.Video = true }),
	}
	for _, c := range valid {
		if e := c.Check(); e != api.OK {
			t.Errorf("Check of %+v: %d", c, e)
		}
		if s, e := New(c); s == nil || e != api.OK {
			t.Errorf("New(%+v): %v, %d", c, s, e)
		}
	}
	invalid := []Config{
		{},
		change(func(c *Config) { c.Ingress.Order.Most = 0 }),
		change(func(c *Config) { c.Ingress.Frame.Bytes = 0 }),
		change(func(c *Config) { c.Egress.Frames = 0 }),
		change(func(c *Config) { c.Egress.Age = 1<<40 + 1 }),
		change(func(c *Config) { c.Pli.First = 0 }),
		change(func(c *Config) { c.Stall.Rest = 0 }),
		change(func(c *Config) { c.Ladder.Up = 0 }),
		change(func(c *Config) { c.Needs = nil }),
		change(func(c *Config) { c.Needs = []int{1, 2} }),
		change(func(c *Config) { c.Needs = []int{1, 2, 3, 4} }),
		change(func(c *Config) { c.Needs = []int{1, 3, 2} }),
		change(func(c *Config) { c.Needs = []int{-1, 2, 3} }),
		change(func(c *Config) { c.Needs = []int{1, 2, 1<<40 + 1} }),
		change(func(c *Config) { c.Window = 0 }),
		change(func(c *Config) { c.Window = 1<<20 + 1 }),
		change(func(c *Config) { c.Ring = 0 }),
		change(func(c *Config) { c.Ring = 4097 }),
		change(func(c *Config) { c.Again = -1 }),
		change(func(c *Config) { c.Gap = -1 }),
		change(func(c *Config) { c.Share = c.Egress.Most - 1 }),
		change(func(c *Config) { c.Share = 1<<24 + 1 }),
		change(func(c *Config) { c.Reports = 0 }),
		change(func(c *Config) { c.Reports = 1<<40 + 1 }),
	}
	for _, c := range invalid {
		if e := c.Check(); e != api.ErrArg {
			t.Errorf("Check of %+v: %d", c, e)
		}
		if s, e := New(c); s != nil || e != api.ErrArg {
			t.Errorf("New(%+v): %v, %d", c, s, e)
		}
	}
}

func TestAnSfuWithoutParticipants(t *testing.T) {
	d := newStand(t, config())
	for _, who := range []int{-1, 0, 1, math.MaxInt, math.MinInt} {
		if ssrc, layer, open := d.Stream(link(who, 0)); ssrc != 0 || layer != 0 || open {
			t.Errorf("Stream of %d: %d, %d, %t", who, ssrc, layer, open)
		}
		if d.Credit(who) != 0 || d.Suspended(who) {
			t.Errorf("participant %d: %d, %t", who, d.Credit(who), d.Suspended(who))
		}
		d.sees(d.credit(who, 10))
	}
	if d.Now() != 0 || d.Bad() != 0 || d.Late(0) != 0 || d.Len() != 0 {
		t.Errorf("new: %d, %d, %d, %d", d.Now(), d.Bad(), d.Late(0), d.Len())
	}
	d.counts(0, 0, 0, 0)
	if d.Count(-1) != 0 || d.Count(4) != 0 {
		t.Error("Count of no fate")
	}
	for _, kind := range []int{-1, 0, 5, math.MaxInt, math.MinInt} {
		d.sees(d.Step(Event{Kind: kind, Peer: 1, Text: "\x80\x60", N: 1}))
	}
	d.passes(30)
	if d.Now() != 30 || d.Bad() != 0 {
		t.Errorf("after 30 ticks: %d, %d", d.Now(), d.Bad())
	}
}

func TestTheStateIsPromoted(t *testing.T) {
	d := pair(t, config())
	if p, ok := d.Peer(1); !ok || p.Name != "bob" {
		t.Errorf("Peer(1): %+v, %t", p, ok)
	}
	if l := d.Links(); !slices.Equal(l, []access.Link{link(1, 0)}) {
		t.Errorf("Links: %v", l)
	}
	if d.Needs[2] != 500 || d.Egress.Most != 100 {
		t.Errorf("Config: %+v", d.Config)
	}
}

func TestTheCallersNeedsAreNotKept(t *testing.T) {
	c := config()
	d := newStand(t, c)
	clear(c.Needs)
	c.Needs[0] = 99
	if !slices.Equal(d.Needs, []int{50, 200, 500}) {
		t.Errorf("Needs: %v", d.Needs)
	}
}

// An event of another kind: only requests.

func TestAnotherKindOfEventProcessesRequests(t *testing.T) {
	d := pair(t, config())
	d.sees(d.packet(0, 7, 1, other('a')))
	d.sees(d.Step(Event{}))
	if d.Now() != 0 || d.Bad() != 0 {
		t.Errorf("after an event of no kind: %d, %d", d.Now(), d.Bad())
	}
}

// Commands.

func TestAnswersToWhatIsNoCommand(t *testing.T) {
	for text, e := range map[string]api.Errno{
		"":                              api.ErrEnd,
		"junk":                          api.ErrKind,
		"\x00":                          api.ErrKind,
		"\x09":                          api.ErrKind,
		"\x02\x00":                      api.ErrEnd,
		"\x02\x00\x00\x00":              api.ErrForm,
		"\x07\x00\x00\x00\x02":          api.ErrForm,
		"\x01\x01-\x01a":                api.ErrName,
		"\x05\x00\x00\x00\x01\x04\x00":  api.ErrArg,
		"\x03\x00\x00\x00\x01\x00":      api.ErrArg,
		strings.Repeat("\x02", 1<<16):   api.ErrForm,
		"\x01" + strings.Repeat("a", 8): api.ErrEnd,
	} {
		d := newStand(t, config())
		d.join("ann")
		d.sees(d.Step(Event{Kind: Control, Text: text}), fmt.Sprintf("answer 0 %d", e))
		d.bad(0)
	}
}

func TestAnswersOfTheState(t *testing.T) {
	d := newStand(t, config())
	answers := func(c control.Command, n int, e api.Errno) {
		t.Helper()
		d.sees(d.do(c), fmt.Sprintf("answer %d %d", n, e))
	}
	answers(control.Command{Kind: control.Leave}, 0, api.ErrPeer)
	answers(control.Command{Kind: control.Join, Room: "hall", Name: "ann"}, 0, api.OK)
	answers(control.Command{Kind: control.Join, Room: "Hall", Name: "Ann"}, 0, api.ErrThere)
	answers(control.Command{Kind: control.Join, Room: "hall", Name: "bob"}, 1, api.OK)
	answers(control.Command{Kind: control.Join, Room: "room", Name: "cid"}, 2, api.OK)
	answers(control.Command{Kind: control.Publish, Peer: 1, Ssrcs: []uint32{7}}, 0, api.OK)
	answers(control.Command{Kind: control.Publish, Peer: 1, Ssrcs: []uint32{8}}, 0, api.ErrThere)
	answers(control.Command{Kind: control.Publish, Peer: 1, Track: 1, Ssrcs: []uint32{7}}, 0, api.ErrSsrc)
	answers(control.Command{Kind: control.Unpublish, Peer: 1, Track: 1}, 0, api.ErrTrack)
	answers(control.Command{Kind: control.Mute, Peer: 0}, 0, api.ErrTrack)
	answers(control.Command{Kind: control.Subscribe, Peer: 1, Of: 1}, 0, api.ErrSelf)
	answers(control.Command{Kind: control.Subscribe, Peer: 2, Of: 1}, 0, api.ErrRoom)
	answers(control.Command{Kind: control.Subscribe, Peer: 1, Of: 0}, 0, api.ErrTrack)
	answers(control.Command{Kind: control.Unsubscribe, Peer: 0, Of: 1}, 0, api.ErrNone)
	answers(control.Command{Kind: control.Pause, Peer: 0, Of: 1, On: true}, 0, api.ErrNone)
	answers(control.Command{Kind: control.Subscribe, Peer: 0, Of: 1}, 0, api.OK)
	answers(control.Command{Kind: control.Leave, Peer: 1}, 0, api.OK)
	answers(control.Command{Kind: control.Leave, Peer: 1}, 0, api.ErrPeer)
	answers(control.Command{Kind: control.Join, Room: "hall", Name: "bob"}, 3, api.OK)
}

func TestAFailedCommandChangesNothing(t *testing.T) {
	d := pair(t, config())
	d.packet(0, 7, 1, key('a'))
	for _, c := range []control.Command{
		{Kind: control.Subscribe, Peer: 1, Of: 0, Track: 1},
		{Kind: control.Pause, Peer: 1, Of: 0, Track: 1, On: true},
		{Kind: control.Publish, Peer: 0, Video: true, Ssrcs: []uint32{8}},
		{Kind: control.Unpublish, Peer: 1},
		{Kind: control.Unsubscribe, Peer: 0, Of: 1},
		{Kind: control.Leave, Peer: 2},
	} {
		if l := d.do(c); len(l) != 1 || l[0].Err == api.OK {
			t.Fatalf("%+v: %v", c, lines(l))
		}
		d.counts(1, 0, 0, 0)
		d.open(link(1, 0), 0, 0)
	}
	d.sees(d.packet(0, 8, 2, key('b')))
	d.bad(1)
	d.sees(d.credit(1, 10), `packet 1: 0/96 #1 @10 "\x10\x00keya"`)
}

func TestStreamsAreNumberedAsTheyAreCreated(t *testing.T) {
	d := newStand(t, config())
	d.join("ann", "bob", "cid")
	d.publish(0, 3, 7)
	d.speak(0, 0, 8)
	d.publish(1, 0, 9, 10)
	d.sees(d.subscribe(2, 1, 0, 2), "ask 1: 0 for 10")
	d.sees(d.subscribe(1, 0, 0, 0))
	d.sees(d.subscribe(1, 0, 3, 0), "ask 0: 2 for 7")
	if l := d.do(control.Command{Kind: control.Subscribe, Peer: 2, Of: 0, Track: 1}); l[0].Err != api.ErrTrack {
		t.Fatalf("a track that is not there: %v", lines(l))
	}
	d.sees(d.subscribe(2, 0, 0, 0))
	d.done(control.Command{Kind: control.Unsubscribe, Peer: 2, Of: 1})
	d.sees(d.subscribe(2, 1, 0, 0), "ask 1: 4 for 9")
	d.open(link(2, 1), 4, -1)
	d.open(link(1, 0), 1, -1)
	d.open(link(2, 0), 3, -1)
	d.open(access.Link{Who: 1, Of: access.Key{Track: 3}}, 2, -1)
	d.credit(1, 100)
	d.credit(2, 100)
	d.sees(d.packet(0, 8, 5, "sound"), `packet 1: 1/111 #1 @50 "sound"`, `packet 2: 3/111 #1 @50 "sound"`)
	d.sees(d.packet(0, 7, 5, key('a')), `packet 1: 2/96 #1 @50 "\x10\x00keya"`)
	d.sees(d.packet(1, 9, 5, key('b')), `packet 2: 4/96 #1 @50 "\x10\x00keyb"`)
	d.sees(d.packet(0, 8, 6, "more"), `packet 1: 1/111 #2 @60 "more"`, `packet 2: 3/111 #2 @60 "more"`)
}

func TestAStreamHasTheLadderOfItsTrack(t *testing.T) {
	d := newStand(t, config())
	d.join("ann", "bob")
	d.publish(0, 0, 7, 8, 9)
	d.publish(0, 1, 17, 18)
	d.publish(0, 2, 27)
	d.sees(d.subscribe(1, 0, 0, 1), "ask 0: 0 for 8")
	d.sees(d.subscribe(1, 0, 1, 2), "ask 0: 1 for 18")
	d.sees(d.subscribe(1, 0, 2, 2), "ask 0: 2 for 27")
}

// P26.4: the first picture of another layer is Key.
func TestSubscribingAgainWantsAnotherLayer(t *testing.T) {
	d := newStand(t, config())
	d.join("ann", "bob")
	d.publish(0, 0, 7, 8, 9)
	d.sees(d.subscribe(1, 0, 0, 2), "ask 0: 0 for 9")
	d.credit(1, 1000)
	d.sees(d.packet(0, 9, 1, key('a')), `packet 1: 0/96 #1 @10 "\x10\x00keya"`)
	d.sees(d.subscribe(1, 0, 0, 1), "ask 0: 0 for 8")
	d.open(link(1, 0), 0, 2)
	d.sees(d.packet(0, 9, 2, other('b')), `packet 1: 0/96 #2 @20 "\x10\x01othb"`)
	d.sees(d.packet(0, 7, 1, key('c')))
	d.sees(d.packet(0, 8, 1, key('d')), `packet 1: 0/96 #3 @3020 "\x10\x00keyd"`)
	d.open(link(1, 0), 0, 1)
	d.sees(d.packet(0, 9, 3, key('e')))
	// A higher layer is only reached by the ladder.
	d.sees(d.subscribe(1, 0, 0, 2))
	d.open(link(1, 0), 0, 1)
	d.counts(0, 3, 0, 0)
}

func TestSubscribingAgainStaysPaused(t *testing.T) {
	d := pair(t, config())
	d.sees(d.pause(1, 0, 0, true))
	d.sees(d.subscribe(1, 0, 0, 1))
	d.sees(d.packet(0, 7, 1, key('a')))
	d.counts(0, 0, 0, 0)
	d.sees(d.pause(1, 0, 0, false), "ask 0: 0 for 7")
}

// P26.3, P26.5: a paused subscription is sent nothing, and what waited has the fate Cancelled.
func TestPauseCancelsWhatWaits(t *testing.T) {
	d := pair(t, config())
	d.packet(0, 7, 1, key('a'))
	d.packet(0, 7, 2, other('b'))
	d.counts(2, 0, 0, 0)
	d.sees(d.pause(1, 0, 0, true))
	d.counts(0, 0, 0, 2)
	d.open(link(1, 0), 0, -1)
	d.sees(d.credit(1, 100))
	d.sees(d.packet(0, 7, 3, key('c')))
	d.passes(20)
	d.counts(0, 0, 0, 2)
	d.sees(d.pause(1, 0, 0, false), "ask 0: 0 for 7")
	d.sees(d.packet(0, 7, 4, other('d')))
	d.sees(d.packet(0, 7, 5, key('e')), `packet 1: 0/96 #1 @50 "\x10\x00keye"`)
	d.sees(d.pause(1, 0, 0, false))
	d.open(link(1, 0), 0, 0)
	d.sees(d.packet(0, 7, 6, other('f')), `packet 1: 0/96 #2 @60 "\x10\x01othf"`)
}

func TestPauseCancelsSoundsToo(t *testing.T) {
	d := newStand(t, config())
	d.join("ann", "bob")
	d.speak(0, 0, 7)
	d.subscribe(1, 0, 0, 0)
	d.packet(0, 7, 1, "a")
	d.open(link(1, 0), 0, 0)
	d.sees(d.pause(1, 0, 0, true))
	d.counts(0, 0, 0, 1)
	d.open(link(1, 0), 0, -1)
	d.sees(d.packet(0, 7, 2, "b"))
	d.sees(d.pause(1, 0, 0, false))
	d.packet(0, 7, 3, "c")
	d.sees(d.credit(1, 100), `packet 1: 0/111 #1 @30 "c"`)
}

func TestUnsubscribingCancelsWhatWaits(t *testing.T) {
	d := pair(t, config())
	d.packet(0, 7, 1, key('a'))
	d.sees(d.done(control.Command{Kind: control.Unsubscribe, Peer: 1}))
	d.counts(0, 0, 0, 1)
	if ssrc, layer, open := d.Stream(link(1, 0)); ssrc != 0 || layer != 0 || open {
		t.Errorf("Stream: %d, %d, %t", ssrc, layer, open)
	}
	d.sees(d.credit(1, 100))
	d.sees(d.packet(0, 7, 2, key('b')))
	d.passes(20)
	d.counts(0, 0, 0, 1)
	d.has(1, 100)
	// The new one has nothing of the old one.
	d.sees(d.subscribe(1, 0, 0, 0), "ask 0: 1 for 7")
	d.sees(d.packet(0, 7, 3, other('c')))
	d.sees(d.packet(0, 7, 4, key('d')), `packet 1: 1/96 #1 @40 "\x10\x00keyd"`)
}

func TestUnpublishingCancelsWhatWaits(t *testing.T) {
	d := pair(t, config())
	d.join("cid")
	d.sees(d.subscribe(2, 0, 0, 0), "ask 0: 1 for 7")
	d.packet(0, 7, 1, key('a'))
	d.counts(2, 0, 0, 0)
	d.reports(0, rtcp.Sender{Ssrc: 7, Ntp: 1, Time: 2})
	d.sees(d.done(control.Command{Kind: control.Unpublish}))
	d.counts(0, 0, 0, 2)
	if _, _, open := d.Stream(link(2, 0)); open || len(d.Links()) != 0 {
		t.Error("a stream is left")
	}
	d.credit(1, 100)
	d.sees(d.packet(0, 7, 2, key('b')))
	d.bad(1)
	// The new track's source has nothing of the old one's, neither numbers nor reports.
	d.publish(0, 0, 7)
	d.sees(d.subscribe(1, 0, 0, 0), "ask 0: 2 for 7")
	d.sees(d.packet(0, 7, 1, key('c')), `packet 1: 2/96 #1 @10 "\x10\x00keyc"`)
	d.bad(1)
	d.passes(25)
}

func TestLeavingRemovesWhatAParticipantHas(t *testing.T) {
	d := pair(t, config())
	d.publish(1, 0, 8)
	d.sees(d.subscribe(0, 1, 0, 0), "ask 1: 1 for 8")
	d.packet(0, 7, 1, key('a'))
	d.packet(1, 8, 1, key('b'))
	d.counts(2, 0, 0, 0)
	d.sees(d.done(control.Command{Kind: control.Leave, Peer: 1}))
	d.counts(0, 0, 0, 2)
	d.has(1, 0)
	d.sees(d.credit(1, 5))
	d.has(1, 0)
	d.sees(d.packet(1, 8, 2, key('c')))
	d.sees(d.reports(1, rtcp.Pli{To: base}))
	d.bad(2)
	d.credit(0, 100)
	d.passes(30)
	d.counts(0, 0, 0, 2)
	d.join("bob")
	d.has(2, 0)
	d.sees(d.subscribe(2, 0, 0, 0), "ask 0: 2 for 7")
}

// Datagrams.

// P26.1: a bad datagram changes nothing but Bad.
func TestBadDatagrams(t *testing.T) {
	good := rtp.Packet{Marker: true, Seq: 1, Ssrc: 7, Payload: key('a')}.Text()
	d := pair(t, config())
	d.publish(1, 0, 8)
	for n, x := range []struct {
		peer int
		text string
	}{
		{2, good},
		{-1, good},
		{math.MaxInt, good},
		{1, good}, // it is Ann's source
		{0, rtp.Packet{Marker: true, Seq: 1, Ssrc: 9, Payload: key('a')}.Text()},
		{0, rtp.Packet{Marker: true, Seq: 1, Ssrc: 8, Payload: key('a')}.Text()},
		{0, good[:11]},
		{0, "\x80\x60"},
		{0, "\x80\xe0"},
		{0, good + strings.Repeat("x", 1500)},
		{0, "\xa0\x60\x00\x01\x00\x00\x00\x02\x00\x00\x00\x07\x00"},
		{0, ""},
		{0, "\x80"},
		{0, "junk"},
		{0, "\x00\x60" + good[2:]},
		{0, "\xc0\x60" + good[2:]},
		{0, "\x80\xc8\x00\x01"},
		{0, rtcp.Text(rtcp.Pli{To: base}) + "\x80"},
		{0, strings.Repeat(rtcp.Text(rtcp.Pli{To: base}), 126)},
		{5, rtcp.Text(rtcp.Pli{To: base})},
		{-1, rtcp.Text(rtcp.Sender{Ssrc: 7})},
		{1, rtcp.Text(rtcp.Pli{To: base})[:11]},
	} {
		d.sees(d.datagram(x.peer, x.text))
		if d.Bad() != n+1 {
			t.Fatalf("Bad after %d, %q: %d, want %d", x.peer, x.text, d.Bad(), n+1)
		}
	}
	d.counts(0, 0, 0, 0)
	d.credit(1, 100)
	bad := d.Bad()
	d.sees(d.datagram(0, good), `packet 1: 0/96 #1 @0 "\x10\x00keya"`)
	d.bad(bad)
}

func TestAPacketThatIsNotAcceptedIsBad(t *testing.T) {
	d := pair(t, config())
	d.credit(1, 100)
	d.sees(d.packet(0, 7, 10, key('a')), `packet 1: 0/96 #1 @100 "\x10\x00keya"`)
	d.sees(d.packet(0, 7, 10, key('a')))
	d.sees(d.packet(0, 7, 9, key('b')))
	d.bad(2)
	d.sees(d.packet(0, 7, 12, other('d')))
	d.sees(d.packet(0, 7, 12, other('d')))
	d.bad(3)
	d.sees(d.packet(0, 7, 11, other('c')), `packet 1: 0/96 #2 @110 "\x10\x01othc"`, `packet 1: 0/96 #3 @120 "\x10\x01othd"`)
	// The first one of two far numbers is bad, but it makes that the second one is believed.
	d.sees(d.packet(0, 7, 30000, key('e')))
	d.bad(4)
	d.sees(d.packet(0, 7, 30001, other('f')))
	d.bad(4)
	d.passes(5, `5: packet 1: 0/96 #4 @300010 "\x10\x01othf"`)
}

func TestAPacketOfAMutedTrackIsIgnored(t *testing.T) {
	d := pair(t, config())
	d.credit(1, 100)
	d.sees(d.packet(0, 7, 1, key('a')), `packet 1: 0/96 #1 @10 "\x10\x00keya"`)
	d.sees(d.mute(0, 0, true))
	d.sees(d.packet(0, 7, 2, other('b')))
	d.sees(d.packet(0, 7, 1, other('b')))
	d.sees(d.packet(0, 7, 30000, other('b')))
	d.bad(0)
	d.sees(d.datagram(0, "\x80\x60"))
	d.sees(d.packet(1, 7, 2, other('b')))
	d.bad(2)
	d.sees(d.mute(0, 0, false))
	d.sees(d.packet(0, 7, 30001, other('b')))
	d.bad(3)
	d.sees(d.packet(0, 7, 2, other('b')), `packet 1: 0/96 #2 @20 "\x10\x01othb"`)
	d.bad(3)
}

func TestAMutedTrackStillDeliversWhatCame(t *testing.T) {
	d := pair(t, config())
	d.credit(1, 100)
	d.sees(d.packet(0, 7, 1, key('a')), `packet 1: 0/96 #1 @10 "\x10\x00keya"`)
	d.sees(d.packet(0, 7, 3, other('c')))
	d.mute(0, 0, true)
	d.passes(5, `5: packet 1: 0/96 #2 @30 "\x10\x01othc"`)
}

// P26.3: a frame is sent when it is complete, with the same bytes behind its descriptors.
func TestFramesOfSeveralPackets(t *testing.T) {
	d := pair(t, config())
	d.credit(1, 100)
	part := func(seq uint16, marker bool, payload string) []Output {
		return d.datagram(0, rtp.Packet{Marker: marker, Type: 1, Seq: seq, Time: 40, Ssrc: 7, Csrcs: []uint32{5}, Ext: true, Data: "1234", Payload: payload, Padding: 3}.Text())
	}
	d.sees(part(65535, false, "\x90\x80\x05\x00one"))
	d.counts(0, 0, 0, 0)
	d.sees(part(1, true, "\x80\x80\x05three"))
	d.sees(part(0, false, "\x80\x80\x05two"),
		`packet 1: 0/96 #1 @40 "\x90\x80\x80\x00\x00one"+`,
		`packet 1: 0/96 #2 @40 "\x80\x80\x80\x00two"+`,
		`packet 1: 0/96 #3 @40 "\x80\x80\x80\x00three"`)
	d.counts(0, 1, 0, 0)
	// The credit is for the frame's bytes as they came.
	d.has(1, 100-7-6-8)
	d.sees(part(2, true, "\x90\x80\x05\x01four"), `packet 1: 0/96 #4 @40 "\x90\x80\x80\x01\x01four"`)
}

func TestSoundsAreOnePacketEach(t *testing.T) {
	d := newStand(t, config())
	d.join("ann", "bob")
	d.speak(0, 0, 7)
	d.sees(d.subscribe(1, 0, 0, 0))
	d.open(link(1, 0), 0, -1)
	d.credit(1, 100)
	d.sees(d.datagram(0, rtp.Packet{Seq: 4, Time: 9, Ssrc: 7, Payload: "\x90\x80\x05\x00"}.Text()), `packet 1: 0/111 #1 @9 "\x90\x80\x05\x00"+`)
	d.open(link(1, 0), 0, 0)
	d.sees(d.datagram(0, rtp.Packet{Marker: true, Seq: 5, Time: 9, Ssrc: 7}.Text()), `packet 1: 0/111 #2 @9 ""+`)
	d.passes(30)
}

// Reports.

// P26.2, P26.6: what is sent again was sent to that participant, and there is credit for it.
func TestServingFromTheRing(t *testing.T) {
	d := newStand(t, config())
	d.join("ann", "bob", "cid")
	d.publish(0, 1, 7)
	d.publish(0, 0, 8)
	d.subscribe(2, 0, 1, 0) // stream 0
	d.subscribe(2, 0, 0, 0) // stream 1, but of a lower key
	d.credit(2, 12)
	d.sees(d.packet(0, 7, 1, key('a')), `packet 2: 0/96 #1 @10 "\x10\x00keya"`)
	d.sees(d.packet(0, 8, 1, key('b')), `packet 2: 1/96 #1 @10 "\x10\x00keyb"`)
	d.has(2, 0)
	nack := func(stream uint32, seqs ...uint16) rtcp.Packet {
		return rtcp.Nack{To: base + stream, Pairs: rtcp.Pairs(seqs...)}
	}
	both := []rtcp.Packet{nack(0, 1, 2), nack(1, 0, 1)}
	d.sees(d.reports(2, both...))
	d.has(2, 0)
	d.credit(2, 17) // a packet has 18 bytes
	d.sees(d.reports(2, both...))
	d.has(2, 17)
	d.credit(2, 1)
	d.sees(d.reports(1, both...)) // they are not Bob's
	d.sees(d.reports(2, both...), `again 2: 1/96 #1 @10 "\x10\x00keyb"`)
	d.has(2, 0)
	d.credit(2, 100)
	d.sees(d.reports(2, both...), `again 2: 0/96 #1 @10 "\x10\x00keya"`)
	d.has(2, 82)
	d.sees(d.reports(2, both...))
	d.has(2, 82)
	d.bad(0)
}

func TestServingInTheOrderOfTheKeys(t *testing.T) {
	c := config()
	c.Again, c.Gap = 5, 2
	d := newStand(t, c)
	d.join("ann", "bob", "cid")
	d.publish(0, 1, 7)
	d.publish(0, 0, 8)
	d.publish(1, 0, 9)
	d.subscribe(2, 1, 0, 0)
	d.subscribe(2, 0, 1, 0)
	d.subscribe(2, 0, 0, 0)
	d.credit(2, 1000)
	d.packet(1, 9, 1, key('a'))
	d.packet(0, 7, 1, key('b'))
	d.packet(0, 8, 1, key('c'))
	all := []rtcp.Packet{
		rtcp.Nack{To: base, Pairs: rtcp.Pairs(1)},
		rtcp.Nack{To: base + 1, Pairs: rtcp.Pairs(1)},
		rtcp.Nack{To: base + 2, Pairs: rtcp.Pairs(1)},
	}
	again := []string{
		`again 2: 2/96 #1 @10 "\x10\x00keyc"`,
		`again 2: 1/96 #1 @10 "\x10\x00keyb"`,
		`again 2: 0/96 #1 @10 "\x10\x00keya"`,
	}
	d.sees(d.reports(2, all...), again...)
	d.sees(d.reports(2, all...))
	d.passes(1)
	d.sees(d.reports(2, all...))
	d.passes(1)
	d.sees(d.reports(2, all...), again...)
	d.has(2, 1000-18-6*18)
	d.counts(0, 3, 0, 0)
}

func TestTheRingHasWhatWasSentLast(t *testing.T) {
	c := config()
	c.Ring = 2
	d := pair(t, c)
	d.credit(1, 1000)
	d.packet(0, 7, 1, key('a'))
	d.packet(0, 7, 2, other('b'))
	d.packet(0, 7, 3, other('c'))
	d.sees(d.reports(1, rtcp.Nack{To: base, Pairs: rtcp.Pairs(1, 2, 3, 4)}),
		`again 1: 0/96 #2 @20 "\x10\x01othb"`, `again 1: 0/96 #3 @30 "\x10\x01othc"`)
}

func TestWhatWaitsIsNotServed(t *testing.T) {
	d := pair(t, config())
	d.credit(1, 5)
	d.packet(0, 7, 1, key('a'))
	d.sees(d.reports(1, rtcp.Nack{To: base, Pairs: rtcp.Pairs(1)}))
	d.has(1, 5)
}

func TestAReceiverRequestsAKeyFrame(t *testing.T) {
	for _, request := range []rtcp.Packet{
		rtcp.Pli{From: 3, To: base},
		rtcp.Fir{Orders: []rtcp.Order{{Ssrc: 1}, {Ssrc: base}}},
	} {
		d := pair(t, config())
		d.credit(1, 1000)
		d.packet(0, 7, 1, key('a'))
		d.sees(d.reports(1, rtcp.Pli{To: base + 1}, rtcp.Pli{From: base, To: 7}))
		d.sees(d.reports(0, request))
		d.sees(d.reports(1, request), "ask 0: 0 for 7")
		d.sees(d.reports(1, request))
		d.sees(d.packet(0, 7, 2, other('b')), `packet 1: 0/96 #2 @20 "\x10\x01othb"`)
		d.passes(10, "3: ask 0: 0 for 7", "9: ask 0: 0 for 7")
		d.sees(d.packet(0, 7, 3, key('c')), `packet 1: 0/96 #3 @30 "\x10\x00keyc"`)
		d.passes(30)
		d.sees(d.reports(1, request), "ask 0: 0 for 7")
	}
}

func TestARequestOfAReceiverWaitsWhileItMayNotBeMade(t *testing.T) {
	d := pair(t, config())
	d.credit(1, 1000)
	d.packet(0, 7, 1, key('a'))
	d.mute(0, 0, true)
	d.sees(d.reports(1, rtcp.Pli{To: base}))
	d.passes(5)
	d.sees(d.mute(0, 0, false), "ask 0: 0 for 7")
	d.sees(d.pause(1, 0, 0, true))
	d.passes(5)
	d.sees(d.pause(1, 0, 0, false), "ask 0: 0 for 7")
	d.sees(d.packet(0, 7, 2, key('b')), `packet 1: 0/96 #2 @20 "\x10\x00keyb"`)
	d.passes(20)
}

func TestARequestForSoundsIsNone(t *testing.T) {
	d := newStand(t, config())
	d.join("ann", "bob")
	d.speak(0, 0, 7)
	d.subscribe(1, 0, 0, 0)
	d.sees(d.reports(1, rtcp.Pli{To: base}))
	d.passes(20)
}

func TestTheRequestOfAReceiverIsForTheWantedLayer(t *testing.T) {
	d := newStand(t, config())
	d.join("ann", "bob")
	d.publish(0, 0, 7, 8, 9)
	d.sees(d.subscribe(1, 0, 0, 1), "ask 0: 0 for 8")
	d.credit(1, 1000)
	d.packet(0, 8, 1, key('a'))
	d.sees(d.reports(1, rtcp.Pli{To: base}), "ask 0: 0 for 8")
	// One of another layer does not pass.
	d.sees(d.packet(0, 7, 1, key('b')))
	d.passes(2)
	d.passes(1, "3: ask 0: 0 for 8")
}

func TestReportsOfSenders(t *testing.T) {
	c := config()
	c.Reports = 5
	d := pair(t, c)
	d.join("cid")
	d.publish(1, 0, 8)
	d.subscribe(2, 0, 0, 0)
	d.credit(1, 1000)
	d.packet(0, 7, 1, key('a'))
	d.sees(d.reports(1, rtcp.Sender{Ssrc: 7, Ntp: 99, Time: 5})) // it is Ann's
	d.sees(d.reports(0, rtcp.Sender{Ssrc: 8, Ntp: 99, Time: 5}, rtcp.Sender{Ssrc: 9, Ntp: 99, Time: 5}))
	d.bad(0)
	d.passes(5)
	d.sees(d.reports(0, rtcp.Receiver{Ssrc: 7}, rtcp.Sender{Ssrc: 7, Ntp: 50, Time: 4}, rtcp.Sender{Ssrc: 7, Ntp: 1<<40 + 3, Time: 25, Packets: 77, Octets: 88, Blocks: []rtcp.Block{{Ssrc: 1}}}))
	d.datagram(0, rtp.Packet{Seq: 2, Time: 20, Ssrc: 7, Payload: other('b')}.Text())
	d.datagram(0, rtp.Packet{Marker: true, Seq: 3, Time: 20, Ssrc: 7, Payload: "\x00\x00moremore"}.Text())
	d.passes(5, "10: report 1: 0 ntp 1099511627779 @25, 3, 22", "10: ask 0: 1 for 7")
	// Cid gets frames now, too, and so the reports.
	d.credit(2, 1000)
	d.packet(0, 7, 4, key('d'))
	d.passes(5, "15: report 1: 0 ntp 1099511627779 @25, 4, 28", "15: report 2: 1 ntp 1099511627779 @25, 1, 6")
}

func TestReportsOfTheSourceThatIsSent(t *testing.T) {
	c := config()
	c.Reports = 1
	d := newStand(t, c)
	d.join("ann", "bob")
	d.publish(0, 0, 7, 8)
	d.subscribe(1, 0, 0, 1)
	d.credit(1, 1000)
	d.reports(0, rtcp.Sender{Ssrc: 7, Ntp: 70, Time: 100}, rtcp.Sender{Ssrc: 8, Ntp: 80, Time: 200})
	d.passes(1)
	d.packet(0, 8, 1, key('a'))
	d.passes(1, "2: report 1: 0 ntp 80 @200, 1, 6")
	d.subscribe(1, 0, 0, 0)
	d.sees(d.packet(0, 7, 50, key('b')), `packet 1: 0/96 #2 @3010 "\x10\x00keyb"`)
	// The first source's time 500 went out as 3010.
	d.passes(1, "3: report 1: 0 ntp 70 @2610, 2, 12")
}

func TestTheRateOfAReceiverIsACap(t *testing.T) {
	c := config()
	c.Needs = []int{0, 200, 500}
	cap := func(stream uint32, bits uint64) rtcp.Packet {
		return rtcp.Remb{Rate: bits, Ssrcs: []uint32{base + stream}}
	}
	// As nothing waits and 250 bytes went in 50 ticks, the guess is 10000: enough for layer 2 as long as nothing is said.
	setup := func() stand {
		d := newStand(t, c)
		d.join("ann", "bob")
		d.publish(0, 0, 7, 8, 9)
		d.subscribe(1, 0, 0, 2)
		d.credit(1, 10000)
		d.packet(0, 9, 1, key('a'))
		for n := range uint16(7) {
			d.packet(0, 9, n+2, "\x10\x01"+strings.Repeat("x", 34))
		}
		return d
	}
	d := setup()
	d.passes(20)
	d = setup()
	d.reports(1, cap(1, 8*100))
	d.passes(20)
	d = setup()
	d.reports(0, cap(0, 8*100))
	d.passes(20)
	d = setup()
	d.reports(1, cap(0, 8*500))
	d.passes(20)
	d = setup()
	d.reports(1, cap(0, 8*500-1))
	d.reports(1, cap(0, 0))
	d.reports(1, rtcp.Receiver{})
	d.passes(3, "3: ask 0: 0 for 8")
	d = setup()
	d.reports(1, cap(0, 8*100))
	d.reports(1, cap(0, 8*600))
	d.passes(20)
	d = setup()
	d.reports(1, cap(0, 8*100), cap(0, 8*600))
	d.passes(6, "3: ask 0: 0 for 8", "6: ask 0: 0 for 7")
}

// Ticks.

func TestATickDeliversBySources(t *testing.T) {
	d := newStand(t, config())
	d.join("ann", "bob", "cid")
	d.publish(0, 0, 9)
	d.publish(1, 0, 8)
	d.speak(1, 1, 0)
	d.subscribe(2, 0, 0, 0)
	d.subscribe(2, 1, 0, 0)
	d.subscribe(2, 1, 1, 0)
	d.credit(2, 1000)
	d.packet(0, 9, 1, key('a'))
	d.packet(1, 8, 1, key('b'))
	d.packet(1, 0, 1, "c")
	d.packet(0, 9, 3, other('d'))
	d.packet(1, 8, 3, other('e'))
	d.packet(1, 0, 3, "f")
	d.packet(1, 0, 4, "g")
	d.passes(5,
		`5: packet 2: 2/111 #2 @30 "f"`,
		`5: packet 2: 2/111 #3 @40 "g"`,
		`5: packet 2: 1/96 #2 @30 "\x10\x01othe"`,
		`5: packet 2: 0/96 #2 @30 "\x10\x01othd"`)
}

func TestATickGivesUpWhatWasBegunTooLongAgo(t *testing.T) {
	d := pair(t, config())
	d.credit(1, 100)
	part := func(seq uint16, marker bool, payload string) []Output {
		return d.datagram(0, rtp.Packet{Marker: marker, Seq: seq, Time: 40, Ssrc: 7, Payload: payload}.Text())
	}
	part(1, false, key('a'))
	d.ticks(10)
	d.sees(part(2, true, "\x00rest"))
	d.counts(0, 0, 0, 0)
	part(3, false, key('b'))
	d.ticks(9)
	d.sees(part(4, true, "\x00rest"), `packet 1: 0/96 #1 @40 "\x10\x00keyb"+`, `packet 1: 0/96 #2 @40 "\x00rest"`)
}

// P26.5: nothing is pending after the tick that is Age ticks later.
func TestWhatWaitsTooLongIsDropped(t *testing.T) {
	d := pair(t, config())
	d.ticks(3)
	d.packet(0, 7, 1, key('a'))
	d.ticks(1)
	d.packet(0, 7, 2, other('b'))
	d.passes(8)
	d.counts(2, 0, 0, 0)
	if d.Late(9) != 1 || d.Late(8) != 2 || d.Late(10) != 0 {
		t.Errorf("Late: %d, %d, %d", d.Late(8), d.Late(9), d.Late(10))
	}
	d.open(link(1, 0), 0, 0)
	d.passes(1, "13: ask 0: 0 for 7")
	d.counts(0, 0, 2, 0)
	d.open(link(1, 0), 0, -1)
	d.sees(d.credit(1, 100))
	d.sees(d.packet(0, 7, 3, other('c')))
	d.sees(d.packet(0, 7, 4, key('d')), `packet 1: 0/96 #1 @40 "\x10\x00keyd"`)
}

func TestAKeyFrameBehindWhatWaitsTooLongKeepsTheGateOpen(t *testing.T) {
	d := pair(t, config())
	d.packet(0, 7, 1, key('a'))
	d.packet(0, 7, 2, other('b'))
	d.ticks(1)
	d.packet(0, 7, 3, key('c'))
	d.passes(9)
	d.counts(1, 0, 2, 0)
	d.open(link(1, 0), 0, 0)
	d.packet(0, 7, 4, other('d'))
	d.sees(d.credit(1, 100), `packet 1: 0/96 #1 @30 "\x10\x00keyc"`, `packet 1: 0/96 #2 @40 "\x10\x01othd"`)
}

func TestSoundsThatAreDroppedCloseNothing(t *testing.T) {
	d := newStand(t, config())
	d.join("ann", "bob")
	d.speak(0, 0, 7)
	d.subscribe(1, 0, 0, 0)
	d.packet(0, 7, 1, "a")
	d.passes(10)
	d.counts(0, 0, 1, 0)
	d.open(link(1, 0), 0, 0)
	d.sees(d.packet(0, 7, 2, strings.Repeat("b", 101)))
	d.counts(0, 0, 2, 0)
	d.open(link(1, 0), 0, 0)
	d.packet(0, 7, 3, "c")
	d.sees(d.credit(1, 100), `packet 1: 0/111 #1 @30 "c"`)
}

func TestATickSendsWhatADroppedFrameLetsGo(t *testing.T) {
	d := newStand(t, config())
	d.join("ann", "bob")
	d.speak(0, 0, 7)
	d.speak(0, 1, 8)
	d.subscribe(1, 0, 0, 0)
	d.subscribe(1, 0, 1, 0)
	d.credit(1, 10)
	d.packet(0, 7, 1, strings.Repeat("a", 11))
	d.ticks(1)
	d.sees(d.packet(0, 8, 1, "b"))
	d.passes(8)
	d.passes(1, `10: packet 1: 1/111 #1 @10 "b"`)
	d.counts(0, 1, 1, 0)
}

// suspended is a pair in which Bob has just been suspended, at tick 50, with a picture and a sound cancelled.
func suspended(t *testing.T) stand {
	t.Helper()
	c := config()
	c.Egress.Age = 1000
	d := pair(t, c)
	d.speak(0, 1, 8)
	d.subscribe(1, 0, 1, 0)
	d.packet(0, 7, 1, key('a'))
	d.packet(0, 8, 1, "sound")
	d.passes(50)
	if d.Suspended(1) {
		t.Fatal("suspended too early")
	}
	d.counts(2, 0, 0, 0)
	d.open(link(1, 0), 0, 0)
	d.passes(1)
	if !d.Suspended(1) || d.Suspended(0) || d.Suspended(2) {
		t.Fatal("not suspended, or somebody else is")
	}
	d.counts(0, 0, 0, 2)
	return d
}

func TestSuspending(t *testing.T) {
	d := suspended(t)
	d.open(link(1, 0), 0, -1)
	d.open(access.Link{Who: 1, Of: access.Key{Track: 1}}, 1, -1)
	d.sees(d.credit(1, 100))
	d.sees(d.packet(0, 7, 2, key('b')))
	d.sees(d.packet(0, 8, 2, "more"))
	d.counts(0, 0, 0, 2)
	d.open(link(1, 0), 0, -1)
	d.open(access.Link{Who: 1, Of: access.Key{Track: 1}}, 1, -1)
	d.sees(d.reports(1, rtcp.Pli{To: base}))
	d.passes(19)
	d.passes(1, "71: ask 0: 0 for 7")
	if d.Suspended(1) {
		t.Fatal("still suspended")
	}
	d.sees(d.packet(0, 8, 3, "most"), `packet 1: 1/111 #1 @30 "most"`)
	d.sees(d.packet(0, 7, 3, other('c')))
	d.sees(d.packet(0, 7, 4, key('d')), `packet 1: 0/96 #1 @40 "\x10\x00keyd"`)
}

func TestWhoIsSuspendedMaySubscribe(t *testing.T) {
	d := suspended(t)
	d.publish(0, 2, 9)
	d.sees(d.subscribe(1, 0, 2, 0))
	d.passes(20, "71: ask 0: 0 for 7", "71: ask 0: 2 for 9")
}

func TestWhoIsSentSomethingIsNotSuspended(t *testing.T) {
	c := config()
	c.Egress.Age = 1000
	d := pair(t, c)
	d.credit(1, 6)
	d.packet(0, 7, 1, key('a'))
	d.packet(0, 7, 2, other('b'))
	for range 3 {
		// What is sent behind the dog's Tick counts up to the next one.
		d.passes(50)
		d.packet(0, 7, uint16(3+d.Now()/50), other('c'))
		d.credit(1, 6)
	}
	if d.Suspended(1) {
		t.Error("suspended")
	}
	d.passes(50)
	if d.Suspended(1) {
		t.Error("suspended")
	}
	d.ticks(1)
	if !d.Suspended(1) {
		t.Error("not suspended")
	}
}

func TestWhatIsSentAgainIsNothingThatWasSent(t *testing.T) {
	c := config()
	c.Egress.Age, c.Again, c.Gap = 1000, 100, 0
	c.Egress.Most, c.Share = 100, 100
	d := pair(t, c)
	d.credit(1, 6)
	d.packet(0, 7, 1, key('a'))
	d.ticks(1)
	d.packet(0, 7, 2, "\x10\x01"+strings.Repeat("b", 90))
	for n := range 50 {
		d.credit(1, 18)
		if l := d.reports(1, rtcp.Nack{To: base, Pairs: rtcp.Pairs(1)}); len(l) != 1 {
			t.Fatalf("tick %d: %v", n, lines(l))
		}
		d.ticks(1)
	}
	if d.Suspended(1) {
		t.Error("suspended too early")
	}
	d.ticks(1)
	if !d.Suspended(1) {
		t.Error("not suspended")
	}
}

func TestSomethingThatWaitsHalvesTheGuess(t *testing.T) {
	c := config()
	c.Needs = []int{0, 150, 500}
	c.Window = 1000
	setup := func() stand {
		d := newStand(t, c)
		d.join("ann", "bob")
		d.publish(0, 0, 7, 8)
		d.subscribe(1, 0, 0, 1)
		d.credit(1, 100)
		d.packet(0, 8, 1, key('a')+strings.Repeat("x", 94)) // 100 bytes a second
		return d
	}
	d := setup()
	d.passes(20)
	d = setup()
	d.packet(0, 8, 2, other('b'))
	d.passes(3, "3: ask 0: 0 for 7")
}

func TestWhatIsSuspendedWaited(t *testing.T) {
	c := config()
	c.Needs = []int{0, 150, 500}
	c.Window = 1000
	c.Stall.After = 3
	c.Ladder.Down, c.Ladder.Up = 4, 100
	d := newStand(t, c)
	d.join("ann", "bob")
	d.publish(0, 0, 7, 8)
	d.subscribe(1, 0, 0, 1)
	d.credit(1, 100)
	d.packet(0, 8, 1, key('a')+strings.Repeat("x", 94))
	d.ticks(1)
	d.packet(0, 8, 2, other('b'))
	// The fourth tick at which something waited is the one at which it is cancelled.
	d.passes(4)
	d.counts(0, 1, 0, 1)
	d.passes(20, "25: ask 0: 0 for 7")
}

func TestTheGuessIsSharedByTheStreamsOfPictures(t *testing.T) {
	c := config()
	c.Needs = []int{0, 100, 500}
	c.Window = 1000
	c.Egress.Most, c.Share = 101, 101
	setup := func(bytes int) stand {
		d := newStand(t, c)
		d.join("ann", "bob")
		d.publish(0, 0, 7, 8)
		d.publish(0, 1, 17, 18)
		d.speak(0, 2, 27)
		d.subscribe(1, 0, 0, 1)
		d.subscribe(1, 0, 2, 0)
		d.credit(1, 1000)
		d.packet(0, 8, 1, key('a')+strings.Repeat("x", bytes-6))
		return d
	}
	// The guess is 200: enough for two.
	d := setup(100)
	d.subscribe(1, 0, 1, 1)
	d.sees(d.packet(0, 18, 1, ""))
	d.passes(9, "3: ask 0: 2 for 18", "9: ask 0: 2 for 18")
	// It is 198.
	d = setup(99)
	d.subscribe(1, 0, 1, 1)
	d.passes(3, "3: ask 0: 0 for 7", "3: ask 0: 2 for 17")
	d = setup(50)
	d.passes(20)
	d = setup(49)
	d.passes(3, "3: ask 0: 0 for 7")
}

func TestTheShareOfTheGuessIsRoundedDown(t *testing.T) {
	c := config()
	c.Needs = []int{0, 100, 500}
	for bits, want := range map[uint64][]string{
		8 * 200: nil,
		8 * 199: {"3: ask 0: 0 for 7", "3: ask 0: 1 for 17"},
	} {
		d := newStand(t, c)
		d.join("ann", "bob")
		d.publish(0, 0, 7, 8)
		d.publish(0, 1, 17, 18)
		d.subscribe(1, 0, 0, 1)
		d.subscribe(1, 0, 1, 1)
		d.credit(1, 1000)
		d.packet(0, 8, 1, key('a'))
		d.packet(0, 18, 1, key('b'))
		d.reports(1, rtcp.Remb{Rate: bits, Ssrcs: []uint32{base + 1}})
		d.passes(5, want...)
	}
}

func TestTheGuessIsOfTheLastTicks(t *testing.T) {
	c := config()
	c.Needs = []int{0, 100, 500}
	d := newStand(t, c)
	d.join("ann", "bob")
	d.publish(0, 0, 7, 8)
	d.subscribe(1, 0, 0, 1)
	d.credit(1, 1000)
	d.packet(0, 8, 1, key('a'))
	d.passes(30)
	d.packet(0, 8, 2, other('b'))
	d.passes(51)
	d.passes(1, "82: ask 0: 0 for 7")
}

func TestTheLadderIsAheadOfWhatATickSends(t *testing.T) {
	c := config()
	c.Needs = []int{0, 100, 500}
	c.Window = 1000
	c.Ladder.Down = 10
	d := newStand(t, c)
	d.join("ann", "bob")
	d.publish(0, 0, 7, 8)
	d.speak(0, 1, 17)
	d.speak(0, 2, 27)
	d.subscribe(1, 0, 0, 1)
	d.subscribe(1, 0, 1, 0)
	d.subscribe(1, 0, 2, 0)
	d.credit(1, 100)
	d.packet(0, 8, 1, key('a')+strings.Repeat("x", 93))
	d.packet(0, 17, 1, "bb")
	d.ticks(1)
	d.packet(0, 27, 1, "c")
	// Without the last byte it was too little for ten ticks.
	d.passes(9, `10: packet 1: 2/111 #1 @10 "c"`, "10: ask 0: 0 for 7")
}

func TestWhatATickDropsDoesNotWait(t *testing.T) {
	c := config()
	c.Stall.After = 9
	d := pair(t, c)
	d.packet(0, 7, 1, key('a'))
	d.passes(10, "10: ask 0: 0 for 7")
	d.counts(0, 0, 1, 0)
	if d.Suspended(1) {
		t.Error("suspended")
	}
}

func TestTheLadderClimbs(t *testing.T) {
	c := config()
	c.Needs = []int{0, 100, 500}
	d := newStand(t, c)
	d.join("ann", "bob")
	d.publish(0, 0, 7, 8)
	d.subscribe(1, 0, 0, 1)
	d.credit(1, 1000)
	d.passes(3, "3: ask 0: 0 for 7")
	d.packet(0, 7, 1, key('a'))
	d.passes(4)
	d.open(link(1, 0), 0, 0)
	d.passes(1, "8: ask 0: 0 for 8")
	d.sees(d.packet(0, 7, 2, other('b')), `packet 1: 0/96 #2 @20 "\x10\x01othb"`)
	d.sees(d.packet(0, 8, 1, key('c')), `packet 1: 0/96 #3 @3020 "\x10\x00keyc"`)
	d.open(link(1, 0), 0, 1)
}

func TestTheLadderOfSoundsHasNoTicks(t *testing.T) {
	d := newStand(t, config())
	d.join("ann", "bob")
	d.speak(0, 0, 7)
	d.subscribe(1, 0, 0, 0)
	d.passes(50)
	d.credit(1, 10)
	d.sees(d.packet(0, 7, 1, "a"), `packet 1: 0/111 #1 @10 "a"`)
}

func TestParticipantsHaveTheirTicksInOrder(t *testing.T) {
	d := newStand(t, config())
	d.join("ann", "bob", "cid", "dan")
	d.speak(0, 0, 7)
	d.speak(0, 1, 8)
	for _, who := range []int{3, 1, 2} {
		d.subscribe(who, 0, 0, 0)
		d.subscribe(who, 0, 1, 0)
		d.credit(who, 1)
	}
	d.packet(0, 7, 1, "aa")
	d.ticks(1)
	d.packet(0, 8, 1, "b")
	d.passes(9,
		`10: packet 1: 3/111 #1 @10 "b"`,
		`10: packet 2: 5/111 #1 @10 "b"`,
		`10: packet 3: 1/111 #1 @10 "b"`)
}

func TestReportsComeLast(t *testing.T) {
	c := config()
	c.Reports = 10
	d := newStand(t, c)
	d.join("ann", "bob", "cid")
	d.speak(0, 0, 7)
	d.speak(0, 1, 8)
	for who := 1; who <= 2; who++ {
		d.subscribe(who, 0, 1, 0)
		d.subscribe(who, 0, 0, 0)
		d.credit(who, 4)
	}
	d.packet(0, 7, 1, "a")
	d.packet(0, 8, 1, "a")
	d.packet(0, 7, 2, "bbb")
	d.ticks(1)
	d.packet(0, 8, 2, "c")
	d.reports(0, rtcp.Sender{Ssrc: 7, Ntp: 70, Time: 1}, rtcp.Sender{Ssrc: 8, Ntp: 80, Time: 2})
	d.passes(9,
		`10: packet 1: 0/111 #2 @20 "c"`,
		`10: packet 2: 2/111 #2 @20 "c"`,
		"10: report 1: 1 ntp 70 @1, 1, 1",
		"10: report 1: 0 ntp 80 @2, 2, 2",
		"10: report 2: 3 ntp 70 @1, 1, 1",
		"10: report 2: 2 ntp 80 @2, 2, 2")
}

// Credit.

// P26.6: no more bytes are sent than were granted.
func TestCreditIsGranted(t *testing.T) {
	d := pair(t, config())
	d.packet(0, 7, 1, key('a'))
	d.sees(d.credit(1, 5))
	d.sees(d.credit(1, -9))
	d.sees(d.credit(0, 100))
	d.sees(d.credit(2, 100))
	d.sees(d.credit(-1, 100))
	d.has(0, 100)
	d.has(1, 5)
	d.has(2, 0)
	d.sees(d.credit(1, 1), `packet 1: 0/96 #1 @10 "\x10\x00keya"`)
	d.has(1, 0)
	d.credit(1, 1<<40)
	d.credit(1, 1<<40)
	d.has(1, 1<<40)
	d.credit(1, math.MaxInt)
	d.has(1, 1<<40)
	d.bad(0)
}

// Requests.

// P26.7: as long as a key frame is wanted it is requested again.
func TestRequestsAreRepeated(t *testing.T) {
	d := pair(t, config())
	d.passes(45, "3: ask 0: 0 for 7", "9: ask 0: 0 for 7", "21: ask 0: 0 for 7", "33: ask 0: 0 for 7", "45: ask 0: 0 for 7")
	d.sees(d.credit(1, 1))
	d.sees(d.packet(0, 7, 1, other('a')))
}

func TestRequestsOfAMutedTrack(t *testing.T) {
	d := newStand(t, config())
	d.join("ann", "bob")
	d.publish(0, 0, 7)
	d.mute(0, 0, true)
	d.sees(d.subscribe(1, 0, 0, 0))
	d.passes(10)
	d.sees(d.mute(0, 0, false), "ask 0: 0 for 7")
	d.passes(3, "13: ask 0: 0 for 7")
	d.mute(0, 0, true)
	d.passes(10)
	d.sees(d.mute(0, 0, false), "ask 0: 0 for 7")
}

func TestRequestsStreamByStream(t *testing.T) {
	d := newStand(t, config())
	d.join("ann", "bob", "cid")
	d.publish(1, 0, 9)
	d.publish(0, 1, 8)
	d.publish(0, 0, 7)
	for _, x := range []struct{ who, of, track int }{{2, 1, 0}, {2, 0, 1}, {1, 0, 1}, {2, 0, 0}, {1, 0, 0}} {
		d.subscribe(x.who, x.of, x.track, 0)
	}
	d.sees(d.subscribe(0, 1, 0, 0), "ask 1: 5 for 9")
	d.ticks(2)
	d.sees(d.tickOnce(),
		"ask 1: 5 for 9",
		"ask 0: 4 for 7", "ask 0: 2 for 8",
		"ask 0: 3 for 7", "ask 0: 1 for 8", "ask 1: 0 for 9")
}

// Delivering.

// P26.4, P26.7: behind a picture that was not sent the first one is Key; it is requested, and opens the gate.
func TestAFrameThatIsNotAcceptedClosesTheGate(t *testing.T) {
	d := pair(t, config())
	d.packet(0, 7, 1, key('a'))
	d.sees(d.packet(0, 7, 2, other('b')+strings.Repeat("x", 94)))
	d.counts(2, 0, 0, 0)
	d.sees(d.packet(0, 7, 3, other('c')+strings.Repeat("x", 95)), "ask 0: 0 for 7")
	d.counts(2, 0, 1, 0)
	d.open(link(1, 0), 0, -1)
	d.sees(d.packet(0, 7, 4, other('d')))
	d.counts(2, 0, 1, 0)
	d.sees(d.packet(0, 7, 5, key('e')))
	d.open(link(1, 0), 0, 0)
	d.counts(3, 0, 1, 0)
	d.sees(d.packet(0, 7, 6, key('f')+strings.Repeat("x", 95)), "ask 0: 0 for 7")
	d.counts(3, 0, 2, 0)
}

func TestAFullQueueDropsFrames(t *testing.T) {
	d := pair(t, config())
	d.packet(0, 7, 1, key('a'))
	for n := range uint16(3) {
		d.sees(d.packet(0, 7, n+2, other('b')))
	}
	d.counts(4, 0, 0, 0)
	d.sees(d.packet(0, 7, 5, other('c')), "ask 0: 0 for 7")
	d.counts(0, 0, 5, 0)
	d.open(link(1, 0), 0, -1)
	d.sees(d.packet(0, 7, 6, key('d')))
	for n := range uint16(3) {
		d.sees(d.packet(0, 7, n+7, other('e')))
	}
	d.sees(d.packet(0, 7, 10, key('f')))
	d.counts(1, 0, 9, 0)
	d.open(link(1, 0), 0, 0)
	d.sees(d.credit(1, 100), `packet 1: 0/96 #1 @100 "\x10\x00keyf"`)
	d.counts(0, 1, 9, 0)
}

func TestAllFramesAreOfferedBeforeAnyIsSent(t *testing.T) {
	c := config()
	c.Egress.Frames = 1
	d := pair(t, c)
	d.credit(1, 100)
	d.packet(0, 7, 1, key('a'))
	d.packet(0, 7, 3, key('c'))
	d.sees(d.packet(0, 7, 2, key('b')), `packet 1: 0/96 #2 @30 "\x10\x00keyc"`)
	d.counts(0, 2, 1, 0)
}

func TestFramesAreSentSubscriberBySubscriber(t *testing.T) {
	d := newStand(t, config())
	d.join("ann", "bob", "cid")
	d.publish(0, 0, 7)
	d.subscribe(2, 0, 0, 0)
	d.subscribe(1, 0, 0, 0)
	d.credit(1, 100)
	d.credit(2, 100)
	d.packet(0, 7, 1, key('a'))
	d.packet(0, 7, 3, other('c'))
	d.sees(d.packet(0, 7, 2, other('b')),
		`packet 1: 1/96 #2 @20 "\x10\x01othb"`,
		`packet 1: 1/96 #3 @30 "\x10\x01othc"`,
		`packet 2: 0/96 #2 @20 "\x10\x01othb"`,
		`packet 2: 0/96 #3 @30 "\x10\x01othc"`)
}

func TestAPacketSendsWhatAPauseLetsGo(t *testing.T) {
	d := newStand(t, config())
	d.join("ann", "bob")
	d.speak(0, 0, 7)
	d.speak(0, 1, 8)
	d.subscribe(1, 0, 0, 0)
	d.subscribe(1, 0, 1, 0)
	d.credit(1, 1)
	d.packet(0, 7, 1, "aa")
	d.packet(0, 8, 1, "b")
	d.sees(d.pause(1, 0, 0, true))
	d.counts(1, 0, 0, 1)
	// It completes no frame, but what can be sent to the subscriber is.
	d.sees(d.packet(0, 7, 3, "c"), `packet 1: 1/111 #1 @10 "b"`)
}

func TestSoundsGoAheadOfPictures(t *testing.T) {
	d := pair(t, config())
	d.speak(0, 1, 8)
	d.subscribe(1, 0, 1, 0)
	d.packet(0, 7, 1, key('a'))
	for n := range uint16(4) {
		d.packet(0, 8, n+1, string('a'+rune(n)))
	}
	d.sees(d.credit(1, 100),
		`packet 1: 1/111 #1 @10 "a"`, `packet 1: 1/111 #2 @20 "b"`, `packet 1: 1/111 #3 @30 "c"`,
		`packet 1: 0/96 #1 @10 "\x10\x00keya"`,
		`packet 1: 1/111 #4 @40 "d"`)
}

func TestSharesAreEqual(t *testing.T) {
	d := newStand(t, config())
	d.join("ann", "bob")
	d.publish(0, 0, 7)
	d.publish(0, 1, 8)
	d.subscribe(1, 0, 0, 0)
	d.subscribe(1, 0, 1, 0)
	big := strings.Repeat("x", 94)
	for n := range uint16(3) {
		d.packet(0, 7, n+1, key('a')+big)
		d.packet(0, 8, n+1, key('b')+big)
	}
	var streams []uint32
	for _, o := range d.credit(1, 600) {
		p, _ := rtp.Parse(o.Text)
		streams = append(streams, p.Ssrc-base)
	}
	if !slices.Equal(streams, []uint32{0, 1, 0, 1, 0, 1}) {
		t.Errorf("streams: %v", streams)
	}
}

// Long runs, long packets, any bytes.

// P26.2: numbers that increase by one modulo 2^16; what is sent again are the bytes of the last packet with its number.
func TestNumbersGoRound(t *testing.T) {
	c := config()
	c.Again = 2
	d := newStand(t, c)
	d.join("ann", "bob")
	d.speak(0, 0, 7)
	d.subscribe(1, 0, 0, 0)
	d.credit(1, 1<<30)
	for n := range 1<<16 + 10 {
		l := d.packet(0, 7, uint16(n), strconv.Itoa(n))
		if p, _ := rtp.Parse(l[0].Text); len(l) != 1 || p.Seq != uint16(n+1) || p.Payload != strconv.Itoa(n) {
			t.Fatalf("packet %d: %v", n, lines(l))
		}
	}
	for seq, want := range map[uint16]string{5: "65540", 65535: "65534"} {
		l := d.reports(1, rtcp.Nack{To: base, Pairs: rtcp.Pairs(seq)})
		if p, _ := rtp.Parse(l[0].Text); len(l) != 1 || p.Payload != want {
			t.Fatalf("again %d: %v", seq, lines(l))
		}
	}
	d.counts(0, 1<<16+10, 0, 0)
}

// P26.3: a longer descriptor still has room.
func TestTheLongestPayload(t *testing.T) {
	c := config()
	c.Ingress.Frame.Bytes, c.Egress.Bytes, c.Egress.Most, c.Share = 2000, 2000, 2000, 2000
	d := pair(t, c)
	d.credit(1, 2000)
	rest := "\x00" + strings.Repeat("x", 1487-4)
	d.sees(d.packet(0, 7, 1, "\x90\x80\x05"+rest), fmt.Sprintf(`packet 1: 0/96 #1 @10 %q`, "\x90\x80\x80\x00"+rest))
	d.has(1, 2000-1487)
}

// P26.1: each call terminates, and none panics.
func TestAnyEvents(t *testing.T) {
	r := rand.New(rand.NewSource(1))
	texts := []string{
		rtp.Packet{Marker: true, Seq: 1, Ssrc: 7, Payload: key('a')}.Text(),
		rtp.Packet{Seq: 2, Ssrc: 7, Payload: other('b')}.Text(),
		rtcp.Text(rtcp.Pli{To: base}, rtcp.Nack{To: base, Pairs: rtcp.Pairs(1, 2, 3)}),
		rtcp.Text(rtcp.Sender{Ssrc: 7, Ntp: 1, Time: 2}, rtcp.Remb{Rate: 1000, Ssrcs: []uint32{base}}),
		rtcp.Text(rtcp.Bye{Ssrcs: []uint32{base}}),
		control.Command{Kind: control.Join, Room: "hall", Name: "cid"}.Text(),
		control.Command{Kind: control.Publish, Peer: 1, Video: true, Ssrcs: []uint32{8, 9}}.Text(),
		control.Command{Kind: control.Subscribe, Of: 1, Layer: 2}.Text(),
		control.Command{Kind: control.Pause, Peer: 1, On: true}.Text(),
		control.Command{Kind: control.Leave, Peer: 2}.Text(),
	}
	numbers := []int{math.MinInt, -1, 0, 1, 2, 100, 1 << 40, math.MaxInt}
	for range 50 {
		d := pair(t, config())
		for range 1000 {
			text := []byte(texts[r.Intn(len(texts))])
			for range r.Intn(3) {
				text[r.Intn(len(text))] = byte(r.Intn(256))
			}
			text = text[:len(text)-r.Intn(2)*r.Intn(len(text))]
			e := Event{Kind: r.Intn(6), Peer: r.Intn(4), Text: string(text), N: numbers[r.Intn(len(numbers))]}
			if r.Intn(20) == 0 {
				e.Peer = numbers[r.Intn(len(numbers))]
			}
			for _, o := range d.Step(e) {
				if l := line(o); strings.HasPrefix(l, "no") {
					t.Fatalf("%+v: %s", e, l)
				}
			}
		}
	}
}

// The examples of the document.

func TestExamplesOfTheDocument(t *testing.T) {
	d := newStand(t, config())
	d.sees(d.do(control.Command{Kind: control.Join, Room: "hall", Name: "ann"}), "answer 0 0")
	d.sees(d.do(control.Command{Kind: control.Join, Room: "hall", Name: "bob"}), "answer 1 0")
	d.sees(d.do(control.Command{Kind: control.Publish, Video: true, Ssrcs: []uint32{7}}), "answer 0 0")
	// 4. Ann publishes, Bob subscribes: an Ask to Ann.
	d.sees(d.do(control.Command{Kind: control.Subscribe, Peer: 1}), "answer 0 0", "ask 0: 0 for 7")
	// 5. A picture that is not Key comes first: nothing is sent to Bob.
	d.credit(1, 6)
	d.sees(d.packet(0, 7, 1, other('a')))
	d.sees(d.packet(0, 7, 2, key('b')), `packet 1: 0/96 #1 @20 "\x10\x00keyb"`)
	// 6. A key frame, but no credit: it waits; with credit it is sent.
	d.sees(d.packet(0, 7, 3, key('c')))
	d.sees(d.credit(1, 6), `packet 1: 0/96 #2 @30 "\x10\x00keyc"`)
	// 7. It waits for Age ticks: it is dropped, and Ann is asked again.
	d.sees(d.packet(0, 7, 4, key('d')))
	d.passes(9)
	d.passes(1, "10: ask 0: 0 for 7")
	d.counts(0, 2, 1, 0)
	// 8. Bob requests number 2 again: the same bytes are sent once more.
	d.credit(1, 18)
	d.sees(d.reports(1, rtcp.Nack{To: base, Pairs: rtcp.Pairs(2)}), `again 1: 0/96 #2 @30 "\x10\x00keyc"`)
}
