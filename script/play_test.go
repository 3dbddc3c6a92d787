package script

import (
	"fmt"
	"math/rand"
	"reflect"
	"slices"
	"strings"
	"sync"
	"testing"

	"antiphon/api"
	"antiphon/control"
	"antiphon/rtcp"
	"antiphon/rtp"
	"antiphon/sfu"
)

// P27.2.

// actor writes a random script, with the events that its lines are.
type actor struct {
	r      *rand.Rand
	lines  []string
	events []sfu.Event
	seqs   [24]uint16
}

func (a *actor) add(x sfu.Event, format string, args ...any) {
	a.events = append(a.events, x)
	a.lines = append(a.lines, fmt.Sprintf(format, args...))
}

func (a *actor) command(c control.Command, format string, args ...any) {
	a.add(sfu.Event{Kind: sfu.Control, Text: c.Text()}, format, args...)
}

func (a *actor) datagram(who int, text string) {
	a.add(sfu.Event{Kind: sfu.Datagram, Peer: who, Text: text}, "data %d %x", who, text)
}

func (a *actor) join(room, name string) {
	a.command(control.Command{Kind: control.Join, Room: room, Name: name}, "join %s %s", room, name)
}

func (a *actor) subscribe(who, of, track, layer int) {
	a.command(control.Command{Kind: control.Subscribe, Peer: who, Of: of, Track: track, Layer: layer}, "subscribe %d %d %d %d", who, of, track, layer)
}

// publish lets a participant publish pictures of two layers, and sounds.
func (a *actor) publish(who int) {
	first := 4 * uint32(who)
	a.command(control.Command{Kind: control.Publish, Peer: who, Video: true, Ssrcs: []uint32{first, first + 1}}, "video %d 0 %d %d", who, first, first+1)
	a.command(control.Command{Kind: control.Publish, Peer: who, Track: 1, Ssrcs: []uint32{first + 2}}, "audio %d 1 %d", who, first+2)
}

func (a *actor) packet() {
	who, n := a.r.Intn(3), a.r.Intn(3)
	source := 4*who + n
	payload := fmt.Sprint("sound", a.r.Intn(1000))
	if n < 2 {
		payload = "\x10" + string([]byte{byte(min(a.r.Intn(4), 1))}) + payload
	}
	a.seqs[source]++
	seq := a.seqs[source]
	a.datagram(who, rtp.Packet{Marker: true, Type: 96, Seq: seq, Time: 90 * uint32(seq), Ssrc: uint32(source), Payload: payload}.Text())
}

func (a *actor) report() {
	who, stream := a.r.Intn(4), 1<<31+uint32(a.r.Intn(8))
	switch a.r.Intn(5) {
	case 0:
		a.datagram(who, rtcp.Text(rtcp.Sender{Ssrc: uint32(a.r.Intn(12)), Ntp: a.r.Uint64(), Time: 90}))
	case 1:
		a.datagram(who, rtcp.Text(rtcp.Pli{To: stream}, rtcp.Remb{Rate: 4096, Ssrcs: []uint32{stream}}))
	case 2:
		a.datagram(who, "\x80\x60bad")
	default:
		a.datagram(who, rtcp.Text(rtcp.Nack{To: stream, Pairs: rtcp.Pairs(uint16(1+a.r.Intn(20)), uint16(1+a.r.Intn(20)))}))
	}
}

// change is a command that is seldom.
func (a *actor) change() {
	who, of, track, on := a.r.Intn(4), a.r.Intn(4), a.r.Intn(2), a.r.Intn(2) == 0
	state := map[bool]string{true: "on", false: "off"}[on]
	switch a.r.Intn(8) {
	case 0:
		a.command(control.Command{Kind: control.Leave, Peer: who + 2}, "leave %d", who+2)
	case 1:
		a.command(control.Command{Kind: control.Unpublish, Peer: who, Track: track}, "unpublish %d %d", who, track)
	case 2:
		a.command(control.Command{Kind: control.Unsubscribe, Peer: who, Of: of, Track: track}, "unsubscribe %d %d %d", who, of, track)
	case 3:
		a.command(control.Command{Kind: control.Mute, Peer: who, Track: track, On: on}, "mute %d %d %s", who, track, state)
	case 4:
		a.command(control.Command{Kind: control.Pause, Peer: who, Of: of, Track: track, On: on}, "pause %d %d %d %s", who, of, track, state)
	case 5:
		a.join("hall", string('a'+rune(a.r.Intn(5))))
	case 6:
		a.publish(who)
	case 7:
		a.subscribe(who, of, track, a.r.Intn(2))
	}
}

// act is a random script.
func act(seed int64) *actor {
	a := &actor{r: rand.New(rand.NewSource(seed))}
	for _, name := range []string{"Ann", "bob", "Cyd", "dan"} {
		a.join("Hall", name)
	}
	for who := range 3 {
		a.publish(who)
	}
	for who := range 4 {
		a.subscribe(who, (who+1)%3, 0, 1)
		a.subscribe(who, (who+1)%3, 1, 0)
	}
	for len(a.events) < 480 {
		switch n := a.r.Intn(100); {
		case n < 55:
			a.packet()
		case n < 75:
			a.add(sfu.Event{Kind: sfu.Tick}, "tick")
		case n < 88:
			who, n := a.r.Intn(5), a.r.Intn(200)
			a.add(sfu.Event{Kind: sfu.Credit, Peer: who, N: n}, "credit %d %d", who, n)
		case n < 97:
			a.report()
		default:
			a.change()
		}
	}
	return a
}

func TestThePromiseHolds(t *testing.T) {
	words := map[string]int{}
	for seed := range int64(100) {
		x, c := act(seed), config()
		s := strings.Join(x.lines, "\n")
		if l, at, e := Parse(s); !slices.Equal(l, x.events) || at != 0 || e != api.OK {
			t.Fatalf("seed %d: Parse: %d, %d", seed, at, e)
		}
		first, at, e := Play(c, s)
		if at != 0 || e != api.OK {
			t.Fatalf("seed %d: Play: %d, %d", seed, at, e)
		}
		again, _, _ := Play(c, s+"\n")
		u, _ := sfu.New(c)
		if run := Run(u, x.events...); !slices.Equal(again, first) || !slices.Equal(run, first) {
			t.Fatalf("seed %d: %q, then %q, and %q", seed, first, again, run)
		}
		if !reflect.DeepEqual(c, config()) {
			t.Fatalf("Play has changed its configuration: %+v", c)
		}
		for _, line := range first {
			words[strings.Fields(line)[0]]++
		}
		// They belong to the caller.
		clear(first)
		if last, _, _ := Play(c, s); !slices.Equal(last, again) {
			t.Fatalf("seed %d: a played script shares its output", seed)
		}
	}
	// Otherwise all of this would say nothing.
	for _, word := range []string{"packet", "again", "ask", "report", "answer"} {
		if words[word] < 100 {
			t.Errorf("too little came out: %v", words)
		}
	}
	t.Log(words)
}

// Nothing is shared by scripts that are played at the same time.
func TestPlayAtTheSameTime(t *testing.T) {
	s := strings.Join(act(1).lines, "\n")
	want, _, _ := Play(config(), s)
	var group sync.WaitGroup
	for range 8 {
		group.Go(func() {
			if l, _, _ := Play(config(), s); !slices.Equal(l, want) {
				t.Error("another output")
			}
		})
	}
	group.Wait()
}

// Whatever the script is: it ends, without a panic, with lines or with an error, and again the same.
func FuzzPlay(f *testing.F) {
	f.Add("join hall ann\ntick")
	f.Add(strings.Join(act(2).lines, "\n"))
	f.Fuzz(func(t *testing.T, s string) {
		l, at, e := Play(config(), s)
		again, at2, e2 := Play(config(), s)
		if !slices.Equal(l, again) || at != at2 || e != e2 {
			t.Errorf("Play(%q): %q, %d, %d, then %q, %d, %d", s, l, at, e, again, at2, e2)
		}
		if e != api.OK && l != nil || e == api.OK && at != 0 || e == api.ErrBig && at <= MaxLines || e != api.ErrBig && at >= MaxLines {
			t.Errorf("Play(%q): %q, %d, %d", s, l, at, e)
		}
	})
}
