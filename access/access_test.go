package access

import (
	"math"
	"math/rand"
	"reflect"
	"slices"
	"strconv"
	"testing"

	"antiphon/api"
	"antiphon/control"
	"antiphon/label"
	"antiphon/room"
)

// Short forms of commands.

func join(room, name string) control.Command {
	return control.Command{Kind: control.Join, Room: room, Name: name}
}

func leave(peer int) control.Command {
	return control.Command{Kind: control.Leave, Peer: peer}
}

func publish(peer, track int, ssrcs ...uint32) control.Command {
	return control.Command{Kind: control.Publish, Peer: peer, Track: track, Video: true, Ssrcs: ssrcs}
}

func unpublish(peer, track int) control.Command {
	return control.Command{Kind: control.Unpublish, Peer: peer, Track: track}
}

func subscribe(peer, of, track, layer int) control.Command {
	return control.Command{Kind: control.Subscribe, Peer: peer, Of: of, Track: track, Layer: layer}
}

func unsubscribe(peer, of, track int) control.Command {
	return control.Command{Kind: control.Unsubscribe, Peer: peer, Of: of, Track: track}
}

func mute(peer, track int, on bool) control.Command {
	return control.Command{Kind: control.Mute, Peer: peer, Track: track, On: on}
}

func pause(peer, of, track int, on bool) control.Command {
	return control.Command{Kind: control.Pause, Peer: peer, Of: of, Track: track, On: on}
}

// does does commands that all succeed with the number 0, or with that of a Join.
func does(t *testing.T, s *State, l ...control.Command) {
	t.Helper()
	for _, c := range l {
		if n, e := s.Do(c); e != api.OK || c.Kind != control.Join && n != 0 {
			t.Fatalf("Do(%+v) returns %d, %d", c, n, e)
		}
	}
}

// fails does commands that all fail with this error, and change nothing.
func fails(t *testing.T, s *State, want api.Errno, l ...control.Command) {
	t.Helper()
	before := look(s)
	for _, c := range l {
		if n, e := s.Do(c); n != 0 || e != want {
			t.Errorf("Do(%+v) returns %d, %d, want the error %d", c, n, e, want)
		}
		if after := look(s); !reflect.DeepEqual(after, before) {
			t.Fatalf("Do(%+v) changes %+v to %+v", c, before, after)
		}
	}
}

// settling has Ann 0, Bob 1 and Cid 2 in one room, Dan 3 in another one. Ann has the tracks 1 (sources 10, 11, 12) and 2 (sound, 13), Bob has track 0 (20).
func settling() []control.Command {
	sound := control.Command{Kind: control.Publish, Track: 2, Ssrcs: []uint32{13}}
	return []control.Command{
		join("hall", "ann"), join("Hall", "bob"), join("HALL", "cid"), join("yard", "dan"),
		publish(0, 1, 10, 11, 12), sound, publish(1, 0, 20),
	}
}

// subscribing are the subscriptions of those who have settled.
func subscribing() []control.Command {
	return []control.Command{subscribe(2, 1, 0, 0), subscribe(2, 0, 2, 1), subscribe(1, 0, 1, 2), subscribe(0, 1, 0, 0), subscribe(2, 0, 1, 0)}
}

func house(t *testing.T) *State {
	t.Helper()
	s := New()
	does(t, s, settling()...)
	return s
}

func subscribed(t *testing.T) *State {
	t.Helper()
	s := house(t)
	does(t, s, subscribing()...)
	return s
}

func link(who, of, track int) Link {
	return Link{Who: who, Of: Key{Peer: of, Track: track}}
}

// sight is all that a state says of itself, of some peers and sources.
type sight struct {
	peers   []room.Peer
	rooms   []string
	tracks  map[Key]Track
	wants   map[Key][]int
	sources map[uint32]Source
	links   []Link
	subs    map[Link]Sub
}

// The numbers of peers and sources that a sight tells of.
const (
	mostPeers = 24
	mostSsrcs = 200
)

func look(s *State) sight {
	x := sight{rooms: s.Rooms(), tracks: map[Key]Track{}, wants: map[Key][]int{}, sources: map[uint32]Source{}, links: s.Links(), subs: map[Link]Sub{}}
	ssrcs := []uint32{1<<32 - 1}
	for n := range mostPeers {
		if p, ok := s.Peer(n); ok {
			x.peers = append(x.peers, p)
		}
		for track := range api.MaxTracks {
			k := Key{n, track}
			if t, ok := s.Track(k); ok {
				x.tracks[k] = t
				ssrcs = append(ssrcs, t.Ssrcs...)
			}
			if l := s.Wants(k); len(l) > 0 {
				x.wants[k] = l
			}
			for who := range mostPeers {
				if sub, ok := s.Sub(Link{who, k}); ok {
					x.subs[Link{who, k}] = sub
				}
			}
		}
	}
	for ssrc := range uint32(mostSsrcs) {
		ssrcs = append(ssrcs, ssrc)
	}
	for _, ssrc := range ssrcs {
		if source, ok := s.Source(ssrc); ok {
			x.sources[ssrc] = source
		}
	}
	return x
}

// P13.1: an empty state, and what there is not.

func TestNew(t *testing.T) {
	s := New()
	if s.Table == nil || s.Len() != 0 || len(s.Rooms()) != 0 || len(s.Links()) != 0 {
		t.Errorf("Len %d, Rooms %q, Links %v", s.Len(), s.Rooms(), s.Links())
	}
	fails(t, s, api.ErrPeer, leave(0), publish(0, 0, 1), unpublish(0, 0), subscribe(0, 1, 0, 0), subscribe(0, 0, 0, 0), unsubscribe(0, 1, 0), mute(0, 0, true), pause(0, 1, 0, true))
	does(t, s, join("hall", "ann"))
	if New().Len() != 0 {
		t.Error("states share")
	}
}

func TestWhatIsNotThere(t *testing.T) {
	s := subscribed(t)
	for _, k := range []Key{{0, 0}, {0, 3}, {0, 4}, {0, -1}, {1, 1}, {2, 0}, {-1, 1}, {4, 0}, {math.MinInt, math.MaxInt}, {math.MaxInt, math.MinInt}} {
		if x, ok := s.Track(k); ok || !reflect.DeepEqual(x, Track{}) {
			t.Errorf("Track(%v): %v, %v", k, x, ok)
		}
		if l := s.Wants(k); len(l) != 0 {
			t.Errorf("Wants(%v): %v", k, l)
		}
		for _, who := range []int{0, 1, 2, -1, math.MinInt} {
			if x, ok := s.Sub(Link{who, k}); ok || x != (Sub{}) {
				t.Errorf("Sub(%d, %v): %v, %v", who, k, x, ok)
			}
		}
	}
	for _, l := range []Link{link(3, 0, 1), link(0, 0, 1), link(1, 0, 2), link(-1, 1, 0)} {
		if x, ok := s.Sub(l); ok || x != (Sub{}) {
			t.Errorf("Sub(%v): %v, %v", l, x, ok)
		}
	}
	for _, ssrc := range []uint32{0, 9, 14, 19, 21, 1<<32 - 1} {
		if x, ok := s.Source(ssrc); ok || x != (Source{}) {
			t.Errorf("Source(%d): %v, %v", ssrc, x, ok)
		}
	}
}

// P13.1: Do returns Check's error.

func TestCheckComesFirst(t *testing.T) {
	s := subscribed(t)
	for _, kind := range []int{0, -1, 9, 256, math.MinInt, math.MaxInt} {
		fails(t, s, api.ErrKind, control.Command{Kind: kind, Peer: 99})
	}
	fails(t, s, api.ErrForm, control.Command{Kind: control.Leave, Peer: 99, Of: 1}, control.Command{Kind: control.Join, Room: "hall", Name: "ann", Peer: 1}, control.Command{Kind: control.Mute, Track: 1, Video: true})
	fails(t, s, api.ErrArg, leave(-1), leave(65536), publish(0, 4, 1), publish(99, 0), publish(0, 1), publish(0, 0, 1, 2, 3, 4), unpublish(0, -1), subscribe(0, -1, 0, 0), subscribe(1, 0, 1, 3), subscribe(99, 0, 1, -1), unsubscribe(2, 65536, 0), mute(0, 4, true), pause(2, 0, 4, true))
	fails(t, s, api.ErrArg, control.Command{Kind: control.Publish, Ssrcs: []uint32{1, 2}})
	fails(t, s, api.ErrThere, publish(99, 0, 7, 7), publish(0, 0, 10, 5, 5), publish(0, 0, 1, 2, 1))
	fails(t, s, api.ErrName, join("", "x"), join("hall", "-"), join("a b", "ann"))
}

// P13.1: Join and Leave.

func TestJoin(t *testing.T) {
	s := New()
	for i, c := range []struct {
		room, name string
		n          int
		e          api.Errno
	}{
		{"Hall", "Ann", 0, api.OK},
		{"hall", "ann", 0, api.ErrThere},
		{"hall", "bob", 1, api.OK},
		{"yard", "ann", 2, api.OK},
	} {
		if n, e := s.Do(join(c.room, c.name)); n != c.n || e != c.e {
			t.Errorf("Join %d returns %d, %d", i, n, e)
		}
	}
	if p, ok := s.Peer(0); !ok || p != (room.Peer{N: 0, Name: "Ann", Room: "Hall"}) || s.Len() != 3 || !s.Together(0, 1) || len(s.In("HALL")) != 2 {
		t.Errorf("Peer(0): %v, %v, Len %d", p, ok, s.Len())
	}
	for i := range api.MaxPeers - 2 {
		does(t, s, join("hall", "p"+strconv.Itoa(i)))
	}
	fails(t, s, api.ErrFull, join("hall", "more"))
	fails(t, s, api.ErrThere, join("hall", "BOB"))
}

func TestLeave(t *testing.T) {
	s := subscribed(t)
	fails(t, s, api.ErrPeer, leave(4), leave(65535))
	does(t, s, leave(0))
	// Ann's tracks, her subscriptions, and all subscriptions of her tracks are gone; the others are not.
	want := sight{
		peers:   []room.Peer{{N: 1, Name: "bob", Room: "Hall"}, {N: 2, Name: "cid", Room: "HALL"}, {N: 3, Name: "dan", Room: "yard"}},
		rooms:   []string{"hall", "yard"},
		tracks:  map[Key]Track{{1, 0}: {Video: true, Ssrcs: []uint32{20}}},
		wants:   map[Key][]int{{1, 0}: {2}},
		sources: map[uint32]Source{20: {Of: Key{1, 0}}},
		links:   []Link{link(2, 1, 0)},
		subs:    map[Link]Sub{link(2, 1, 0): {}},
	}
	if got := look(s); !reflect.DeepEqual(got, want) {
		t.Errorf("%+v, want %+v", got, want)
	}
	fails(t, s, api.ErrPeer, leave(0), publish(0, 3, 1), unpublish(0, 1), subscribe(0, 1, 0, 0), unsubscribe(0, 1, 0), mute(0, 1, true), pause(0, 1, 0, true))
	// Her sources are free again.
	does(t, s, publish(1, 1, 12, 13, 10))
	does(t, s, join("hall", "ann"), leave(4), leave(1), leave(2), leave(3))
	if got := look(s); !reflect.DeepEqual(got, look(New())) {
		t.Errorf("%+v", got)
	}
}

func TestLeaveRemovesAllTracks(t *testing.T) {
	s := New()
	does(t, s, join("hall", "ann"), join("hall", "bob"))
	for track := range api.MaxTracks {
		does(t, s, publish(0, track, uint32(track)), subscribe(1, 0, track, 0))
	}
	does(t, s, leave(0))
	if x := look(s); len(x.tracks)+len(x.sources)+len(x.links)+len(x.subs) != 0 {
		t.Errorf("%+v", x)
	}
}

// P13.1: Publish and Unpublish.

func TestPublish(t *testing.T) {
	s := house(t)
	for k, want := range map[Key]Track{
		{0, 1}: {Video: true, Ssrcs: []uint32{10, 11, 12}},
		{0, 2}: {Ssrcs: []uint32{13}},
		{1, 0}: {Video: true, Ssrcs: []uint32{20}},
	} {
		if x, ok := s.Track(k); !ok || !reflect.DeepEqual(x, want) {
			t.Errorf("Track(%v): %v, %v", k, x, ok)
		}
		for layer, ssrc := range want.Ssrcs {
			if x, ok := s.Source(ssrc); !ok || x != (Source{k, layer}) {
				t.Errorf("Source(%d): %v, %v", ssrc, x, ok)
			}
		}
	}
	fails(t, s, api.ErrPeer, publish(4, 1, 10))
	fails(t, s, api.ErrThere, publish(0, 1, 30), publish(0, 1, 10), publish(0, 1, 20), publish(1, 0, 20))
	fails(t, s, api.ErrSsrc, publish(0, 0, 10), publish(0, 3, 30, 31, 12), publish(2, 0, 20), publish(2, 0, 30, 13), publish(3, 0, 10))
	// What failed took no source.
	does(t, s, publish(3, 0, 31, 30), publish(2, 3, 0, 1<<32-1))
	if x, ok := s.Source(1<<32 - 1); !ok || x != (Source{Key{2, 3}, 1}) {
		t.Errorf("Source: %v, %v", x, ok)
	}
}

func TestUnpublish(t *testing.T) {
	s := subscribed(t)
	fails(t, s, api.ErrPeer, unpublish(4, 1))
	fails(t, s, api.ErrTrack, unpublish(0, 0), unpublish(1, 1), unpublish(2, 0))
	does(t, s, unpublish(0, 1))
	for _, ssrc := range []uint32{10, 11, 12} {
		if x, ok := s.Source(ssrc); ok || x != (Source{}) {
			t.Errorf("Source(%d): %v, %v", ssrc, x, ok)
		}
	}
	if _, ok := s.Track(Key{0, 1}); ok || len(s.Wants(Key{0, 1})) != 0 {
		t.Errorf("Wants: %v", s.Wants(Key{0, 1}))
	}
	if l := s.Links(); !slices.Equal(l, []Link{link(0, 1, 0), link(2, 0, 2), link(2, 1, 0)}) {
		t.Errorf("Links: %v", l)
	}
	fails(t, s, api.ErrTrack, unpublish(0, 1), mute(0, 1, true), subscribe(1, 0, 1, 0))
	fails(t, s, api.ErrNone, unsubscribe(1, 0, 1), pause(2, 0, 1, true))
	// Published once more, it is another track: of other sources, not muted, and nobody subscribes to it.
	does(t, s, publish(0, 1, 11), publish(2, 2, 10))
	if x, _ := s.Source(11); x != (Source{Key{0, 1}, 0}) || len(s.Wants(Key{0, 1})) != 0 {
		t.Errorf("Source(11): %v, Wants %v", x, s.Wants(Key{0, 1}))
	}
}

// P13.1: Subscribe and Unsubscribe.

func TestSubscribe(t *testing.T) {
	s := subscribed(t)
	want := map[Link]Sub{link(0, 1, 0): {}, link(1, 0, 1): {Layer: 2}, link(2, 0, 1): {}, link(2, 0, 2): {Layer: 1}, link(2, 1, 0): {}}
	if x := look(s); !reflect.DeepEqual(x.subs, want) {
		t.Errorf("%v", x.subs)
	}
	if l := s.Links(); !slices.Equal(l, []Link{link(0, 1, 0), link(1, 0, 1), link(2, 0, 1), link(2, 0, 2), link(2, 1, 0)}) {
		t.Errorf("Links: %v", l)
	}
	for k, want := range map[Key][]int{{0, 1}: {1, 2}, {0, 2}: {2}, {1, 0}: {0, 2}} {
		if l := s.Wants(k); !slices.Equal(l, want) {
			t.Errorf("Wants(%v): %v, want %v", k, l, want)
		}
	}
}

func TestSubscribeErrors(t *testing.T) {
	s := house(t)
	fails(t, s, api.ErrPeer, subscribe(4, 0, 1, 0), subscribe(4, 4, 0, 0), subscribe(65535, 3, 0, 0))
	fails(t, s, api.ErrSelf, subscribe(0, 0, 1, 0), subscribe(0, 0, 0, 0), subscribe(3, 3, 0, 2))
	// In another room, or nobody, whether there is the track or not.
	fails(t, s, api.ErrRoom, subscribe(3, 0, 1, 0), subscribe(3, 0, 0, 0), subscribe(0, 3, 0, 0), subscribe(0, 4, 0, 0), subscribe(0, 65535, 3, 2))
	fails(t, s, api.ErrTrack, subscribe(1, 0, 0, 0), subscribe(1, 0, 3, 0), subscribe(1, 2, 0, 0), subscribe(0, 1, 1, 0))
}

func TestSubscribeAgain(t *testing.T) {
	s := subscribed(t)
	l := link(1, 0, 1)
	for _, x := range []struct {
		c    control.Command
		want Sub
	}{
		{subscribe(1, 0, 1, 0), Sub{}},
		{pause(1, 0, 1, true), Sub{Paused: true}},
		{subscribe(1, 0, 1, 1), Sub{1, true}},
		{pause(1, 0, 1, true), Sub{1, true}},
		{pause(1, 0, 1, false), Sub{Layer: 1}},
		{subscribe(1, 0, 1, 2), Sub{Layer: 2}},
		{pause(1, 0, 1, false), Sub{Layer: 2}},
		{pause(1, 0, 1, true), Sub{2, true}},
	} {
		does(t, s, x.c)
		if sub, ok := s.Sub(l); !ok || sub != x.want {
			t.Errorf("after %+v: %v, %v, want %v", x.c, sub, ok, x.want)
		}
	}
	if n := len(s.Links()); n != 5 {
		t.Errorf("%d Links", n)
	}
	// A new one is not paused.
	does(t, s, unsubscribe(1, 0, 1), subscribe(1, 0, 1, 1))
	if sub, ok := s.Sub(l); !ok || sub != (Sub{Layer: 1}) {
		t.Errorf("%v, %v", sub, ok)
	}
	// More layers than sources may be asked for.
	does(t, s, subscribe(0, 1, 0, 2))
	if sub, _ := s.Sub(link(0, 1, 0)); sub != (Sub{Layer: 2}) {
		t.Errorf("%v", sub)
	}
}

func TestMostSubs(t *testing.T) {
	s := New()
	does(t, s, join("hall", "ann"), join("hall", "bob"))
	for of := 2; of < 7; of++ {
		does(t, s, join("hall", "p"+strconv.Itoa(of)))
		for track := range api.MaxTracks {
			does(t, s, publish(of, track, uint32(10*of+track)))
			if of < 6 {
				does(t, s, subscribe(0, of, track, 0))
			}
		}
	}
	if n := len(s.Links()); n != api.MaxSubs {
		t.Fatalf("%d Links", n)
	}
	fails(t, s, api.ErrFull, subscribe(0, 6, 0, 0), subscribe(0, 6, 3, 2))
	// What else stands in the way comes first.
	fails(t, s, api.ErrTrack, subscribe(0, 1, 0, 0))
	fails(t, s, api.ErrSelf, subscribe(0, 0, 0, 0))
	fails(t, s, api.ErrRoom, subscribe(0, 7, 0, 0))
	// It has that one, and another participant has none.
	does(t, s, subscribe(0, 5, 3, 2), subscribe(1, 6, 0, 0), unsubscribe(0, 2, 1), subscribe(0, 6, 0, 0))
	fails(t, s, api.ErrFull, subscribe(0, 2, 1, 0))
	// Those of a track that goes don't count any more.
	does(t, s, unpublish(3, 2), subscribe(0, 2, 1, 0))
	fails(t, s, api.ErrFull, subscribe(0, 6, 1, 0))
}

func TestUnsubscribe(t *testing.T) {
	s := subscribed(t)
	fails(t, s, api.ErrPeer, unsubscribe(4, 0, 1), pause(4, 0, 1, true))
	for _, l := range []Link{link(0, 0, 1), link(1, 0, 2), link(1, 0, 0), link(1, 4, 0), link(3, 0, 1), link(0, 2, 0)} {
		fails(t, s, api.ErrNone, unsubscribe(l.Who, l.Of.Peer, l.Of.Track), pause(l.Who, l.Of.Peer, l.Of.Track, true), pause(l.Who, l.Of.Peer, l.Of.Track, false))
	}
	does(t, s, unsubscribe(2, 0, 1))
	if l := s.Links(); !slices.Equal(l, []Link{link(0, 1, 0), link(1, 0, 1), link(2, 0, 2), link(2, 1, 0)}) {
		t.Errorf("Links: %v", l)
	}
	if l := s.Wants(Key{0, 1}); !slices.Equal(l, []int{1}) {
		t.Errorf("Wants: %v", l)
	}
	fails(t, s, api.ErrNone, unsubscribe(2, 0, 1), pause(2, 0, 1, true))
}

// P13.1: Mute and Pause.

func TestMute(t *testing.T) {
	s := subscribed(t)
	fails(t, s, api.ErrPeer, mute(4, 1, true))
	fails(t, s, api.ErrTrack, mute(0, 0, true), mute(0, 3, false), mute(1, 1, true), mute(3, 0, true))
	for _, on := range []bool{true, true, false, false, true} {
		does(t, s, mute(0, 1, on))
		x, ok := s.Track(Key{0, 1})
		if want := (Track{true, on, []uint32{10, 11, 12}}); !ok || !reflect.DeepEqual(x, want) {
			t.Errorf("%v, %v, want %v", x, ok, want)
		}
	}
	if x, _ := s.Track(Key{0, 2}); x.Muted {
		t.Error("the other track is muted")
	}
	if len(s.Wants(Key{0, 1})) != 2 || len(s.Links()) != 5 {
		t.Errorf("Links: %v", s.Links())
	}
	// A track that is published is not muted.
	does(t, s, unpublish(0, 1), publish(0, 1, 10))
	if x, _ := s.Track(Key{0, 1}); x.Muted {
		t.Error("the new track is muted")
	}
}

func TestPauseIsOfOneSubscription(t *testing.T) {
	s := subscribed(t)
	does(t, s, pause(2, 0, 2, true))
	want := map[Link]Sub{link(0, 1, 0): {}, link(1, 0, 1): {Layer: 2}, link(2, 0, 1): {}, link(2, 0, 2): {1, true}, link(2, 1, 0): {}}
	if x := look(s); !reflect.DeepEqual(x.subs, want) {
		t.Errorf("%v", x.subs)
	}
}

// P13.1: the order of Links and Wants.

func TestOrder(t *testing.T) {
	s := New()
	for n := range 12 {
		does(t, s, join("hall", "p"+strconv.Itoa(n)))
	}
	for _, of := range []int{11, 2, 10} {
		does(t, s, publish(of, 3, uint32(of)), publish(of, 0, uint32(of+50)))
	}
	for _, who := range []int{9, 11, 1, 0, 10, 2} {
		for _, of := range []int{10, 11, 2} {
			if of != who {
				does(t, s, subscribe(who, of, 3, 0), subscribe(who, of, 0, 0))
			}
		}
	}
	var want []Link
	for who := range 12 {
		for _, of := range []int{2, 10, 11} {
			for _, track := range []int{0, 3} {
				if who < 3 || who > 8 {
					want = append(want, link(who, of, track))
				}
			}
		}
	}
	want = slices.DeleteFunc(want, func(l Link) bool { return l.Who == l.Of.Peer })
	if l := s.Links(); !slices.Equal(l, want) {
		t.Errorf("Links: %v, want %v", l, want)
	}
	if l := s.Wants(Key{10, 3}); !slices.Equal(l, []int{0, 1, 2, 9, 11}) {
		t.Errorf("Wants: %v", l)
	}
}

// P13.1, for any commands: a state beside lists.

type modelTrack struct {
	k Key
	t Track
}

type modelSub struct {
	l Link
	s Sub
}

type model struct {
	table  *room.Table
	tracks []modelTrack
	subs   []modelSub
}

func (m *model) track(k Key) int {
	return slices.IndexFunc(m.tracks, func(x modelTrack) bool { return x.k == k })
}

func (m *model) sub(l Link) int {
	return slices.IndexFunc(m.subs, func(x modelSub) bool { return x.l == l })
}

func (m *model) has(ssrc uint32) bool {
	return slices.ContainsFunc(m.tracks, func(x modelTrack) bool { return slices.Contains(x.t.Ssrcs, ssrc) })
}

func (m *model) removeTracks(is func(Key) bool) {
	m.tracks = slices.DeleteFunc(m.tracks, func(x modelTrack) bool { return is(x.k) })
	m.subs = slices.DeleteFunc(m.subs, func(x modelSub) bool { return is(x.l.Of) })
}

func (m *model) do(c control.Command) (int, api.Errno) {
	if e := c.Check(); e != api.OK {
		return 0, e
	}
	if c.Kind == control.Join {
		return m.table.Join(c.Room, c.Name)
	}
	if _, ok := m.table.Peer(c.Peer); !ok {
		return 0, api.ErrPeer
	}
	k, l := Key{c.Peer, c.Track}, Link{c.Peer, Key{c.Of, c.Track}}
	switch c.Kind {
	case control.Leave:
		m.removeTracks(func(k Key) bool { return k.Peer == c.Peer })
		m.subs = slices.DeleteFunc(m.subs, func(x modelSub) bool { return x.l.Who == c.Peer })
		return 0, m.table.Leave(c.Peer)
	case control.Publish, control.Unpublish, control.Mute:
		return 0, m.doTrack(c, k)
	}
	return 0, m.doSub(c, l)
}

func (m *model) doTrack(c control.Command, k Key) api.Errno {
	i := m.track(k)
	switch {
	case c.Kind == control.Publish && i >= 0:
		return api.ErrThere
	case c.Kind == control.Publish && slices.ContainsFunc(c.Ssrcs, m.has):
		return api.ErrSsrc
	case c.Kind == control.Publish:
		m.tracks = append(m.tracks, modelTrack{k, Track{c.Video, false, slices.Clone(c.Ssrcs)}})
	case i < 0:
		return api.ErrTrack
	case c.Kind == control.Unpublish:
		m.removeTracks(func(other Key) bool { return other == k })
	default:
		m.tracks[i].t.Muted = c.On
	}
	return api.OK
}

func (m *model) doSub(c control.Command, l Link) api.Errno {
	i := m.sub(l)
	own := 0
	for _, x := range m.subs {
		if x.l.Who == l.Who {
			own++
		}
	}
	switch {
	case c.Kind != control.Subscribe && i < 0:
		return api.ErrNone
	case c.Kind == control.Unsubscribe:
		m.subs = slices.Delete(m.subs, i, i+1)
	case c.Kind == control.Pause:
		m.subs[i].s.Paused = c.On
	case c.Of == c.Peer:
		return api.ErrSelf
	case !m.table.Together(c.Peer, c.Of):
		return api.ErrRoom
	case m.track(l.Of) < 0:
		return api.ErrTrack
	case i < 0 && own == 16:
		return api.ErrFull
	case i < 0:
		m.subs = append(m.subs, modelSub{l, Sub{Layer: c.Layer}})
	default:
		m.subs[i].s.Layer = c.Layer
	}
	return api.OK
}

// sight is what the state has to say of itself.
func (m *model) sight() sight {
	x := sight{rooms: m.table.Rooms(), tracks: map[Key]Track{}, wants: map[Key][]int{}, sources: map[uint32]Source{}, subs: map[Link]Sub{}}
	for n := range mostPeers {
		if p, ok := m.table.Peer(n); ok {
			x.peers = append(x.peers, p)
		}
	}
	for _, y := range m.tracks {
		x.tracks[y.k] = y.t
		for i, ssrc := range y.t.Ssrcs {
			x.sources[ssrc] = Source{y.k, i}
		}
	}
	for _, y := range m.subs {
		x.subs[y.l] = y.s
		x.wants[y.l.Of] = append(x.wants[y.l.Of], y.l.Who)
	}
	for _, l := range x.wants {
		slices.Sort(l)
	}
	for who := range mostPeers {
		for of := range mostPeers {
			for track := range api.MaxTracks {
				if _, ok := x.subs[link(who, of, track)]; ok {
					x.links = append(x.links, link(who, of, track))
				}
			}
		}
	}
	return x
}

// anyCommand is a command that may succeed, mostly; joins are rare enough that no number goes beyond a sight.
func anyCommand(random *rand.Rand, joined int, links []Link) control.Command {
	kind := []int{2, 3, 3, 3, 3, 3, 3, 3, 4, 5, 5, 5, 5, 5, 5, 5, 5, 5, 5, 6, 7, 8, 8, 8}[random.Intn(24)]
	if kind < control.Subscribe && kind != control.Publish && random.Intn(9) > 0 {
		kind = control.Subscribe
	}
	if joined < 8 || random.Intn(50) == 0 {
		kind = control.Join
	}
	if kind == control.Join && joined >= mostPeers-4 {
		kind = control.Subscribe
	}
	peer, of, track := random.Intn(joined+1), random.Intn(joined+1), random.Intn(api.MaxTracks)
	if kind == control.Subscribe && random.Intn(2) > 0 {
		// One participant has more of them than the others.
		peer = 1
	}
	if kind >= control.Subscribe && len(links) > 0 && random.Intn(8) == 0 {
		l := links[random.Intn(len(links))]
		peer, of, track = l.Who, l.Of.Peer, l.Of.Track
	}
	if random.Intn(100) == 0 {
		track = 4
	}
	switch kind {
	case control.Join:
		return join([]string{"hall", "Hall", "hall", "HALL", "yard"}[random.Intn(5)], string(rune('a'+random.Intn(20))))
	case control.Leave:
		return leave(peer)
	case control.Publish:
		c := publish(peer, track)
		c.Video = random.Intn(5) > 0
		for range 1 + random.Intn(2) {
			c.Ssrcs = append(c.Ssrcs, uint32(random.Intn(mostSsrcs)))
		}
		return c
	case control.Unpublish:
		return unpublish(peer, track)
	case control.Subscribe:
		return subscribe(peer, of, track, random.Intn(api.MaxLayers))
	case control.Unsubscribe:
		return unsubscribe(peer, of, track)
	case control.Mute:
		return mute(peer, track, random.Intn(2) > 0)
	}
	return pause(peer, of, track, random.Intn(2) > 0)
}

func TestAnyCommands(t *testing.T) {
	random := rand.New(rand.NewSource(13))
	seen := map[api.Errno]int{}
	done := map[int]int{}
	for range 40 {
		s, m := New(), &model{table: room.New()}
		joined := 0
		for range 600 {
			c := anyCommand(random, joined, s.Links())
			wantN, want := m.do(c)
			n, e := s.Do(c)
			if n != wantN || e != want {
				t.Fatalf("Do(%+v) returns %d, %d, want %d, %d", c, n, e, wantN, want)
			}
			seen[e]++
			if e == api.OK {
				done[c.Kind]++
				joined = max(joined, n+1)
			}
			got := look(s)
			if want := m.sight(); !reflect.DeepEqual(got, want) {
				t.Fatalf("after %+v: %+v, want %+v", c, got, want)
			}
			holds(t, got)
		}
	}
	for _, e := range []api.Errno{api.OK, api.ErrArg, api.ErrPeer, api.ErrThere, api.ErrSsrc, api.ErrTrack, api.ErrSelf, api.ErrRoom, api.ErrFull, api.ErrNone} {
		if seen[e] < 20 {
			t.Errorf("the commands say little: %v", seen)
		}
	}
	for kind := control.Join; kind <= control.Pause; kind++ {
		if done[kind] < 40 {
			t.Errorf("the commands say little: %v", done)
		}
	}
}

// P13.2: each source belongs to one track; each subscription is for an existing track of another participant in the same room.

func holds(t *testing.T, x sight) {
	t.Helper()
	own := map[uint32]Key{}
	for k, track := range x.tracks {
		for layer, ssrc := range track.Ssrcs {
			if other, ok := own[ssrc]; ok {
				t.Fatalf("source %d belongs to %v and %v", ssrc, k, other)
			}
			own[ssrc] = k
			if x.sources[ssrc] != (Source{k, layer}) {
				t.Fatalf("source %d of %v belongs to %v", ssrc, k, x.sources[ssrc])
			}
		}
	}
	if len(own) != len(x.sources) {
		t.Fatalf("sources %v of tracks %v", x.sources, x.tracks)
	}
	rooms := map[int]string{}
	for _, p := range x.peers {
		rooms[p.N] = label.Fold(p.Room)
	}
	count := map[int]int{}
	for _, l := range x.links {
		count[l.Who]++
		_, published := x.tracks[l.Of]
		if !published || l.Who == l.Of.Peer || rooms[l.Who] == "" || rooms[l.Who] != rooms[l.Of.Peer] || count[l.Who] > 16 {
			t.Fatalf("a subscription %v of tracks %v", l, x.tracks)
		}
	}
}

func TestLeavingAndReturning(t *testing.T) {
	s := subscribed(t)
	does(t, s, leave(1))
	holds(t, look(s))
	// Who returns has another number, and nothing of before.
	does(t, s, join("hall", "bob"))
	x := look(s)
	holds(t, x)
	if !slices.Equal(x.links, []Link{link(2, 0, 1), link(2, 0, 2)}) || len(x.tracks) != 2 {
		t.Errorf("%+v", x)
	}
	// The document's example.
	does(t, s, subscribe(4, 0, 1, 0), leave(0))
	if len(s.Links()) != 0 {
		t.Errorf("Links: %v", s.Links())
	}
}

// The rules.

func TestArgumentsAreNotKept(t *testing.T) {
	s := New()
	l := []uint32{5, 6, 7}
	does(t, s, join("hall", "ann"), publish(0, 0, l...))
	l[0], l[1] = 8, 9
	if x, _ := s.Track(Key{}); !slices.Equal(x.Ssrcs, []uint32{5, 6, 7}) {
		t.Errorf("Track: %v", x)
	}
	does(t, s, unpublish(0, 0))
	if _, ok := s.Source(5); ok || !slices.Equal(l, []uint32{8, 9, 7}) {
		t.Errorf("a source stays, of %v", l)
	}
}

func TestResultsAreNewMemory(t *testing.T) {
	s := subscribed(t)
	k := Key{0, 1}
	before := look(s)
	x, _ := s.Track(k)
	x.Ssrcs[0] = 77
	_ = append(x.Ssrcs[:1], 78)
	links, wants := s.Links(), s.Wants(k)
	links[0], wants[0] = Link{}, 77
	if after := look(s); !reflect.DeepEqual(after, before) {
		t.Errorf("%+v, want %+v", after, before)
	}
	x, _ = s.Track(k)
	links, wants = s.Links(), s.Wants(k)
	does(t, s, mute(0, 1, true), unsubscribe(1, 0, 1), unpublish(0, 1))
	if !slices.Equal(x.Ssrcs, []uint32{10, 11, 12}) || x.Muted || len(links) != 5 || !slices.Equal(links, before.links) || !slices.Equal(wants, []int{1, 2}) {
		t.Errorf("%v, %v, %v", x, links, wants)
	}
}

// K6: any commands, of any numbers.
func FuzzState(f *testing.F) {
	f.Add("\x01\x04hall\x03ann", 0, 1, 2, 0)
	f.Add("\x03\x00\x00\x00\x01\x02\x00\x00\x00\x06\x00\x00\x00\x05", -1, 65536, 4, 3)
	f.Fuzz(func(t *testing.T, text string, peer, of, track, layer int) {
		s, m := subscribed(t), &model{table: room.New()}
		for _, c := range append(settling(), subscribing()...) {
			m.do(c)
		}
		c, _ := control.Parse(text)
		for kind := range 10 {
			d := c
			d.Kind, d.Peer, d.Of, d.Track, d.Layer = kind, peer, of, track, layer
			for _, x := range []control.Command{c, d, leave(peer), publish(peer, track, uint32(layer)), unpublish(peer, track), mute(peer, track, true), subscribe(peer, of, track, layer), unsubscribe(peer, of, track), pause(peer, of, track, true)} {
				n, e := s.Do(x)
				if wantN, want := m.do(x); n != wantN || e != want {
					t.Fatalf("Do(%+v) returns %d, %d, want %d, %d", x, n, e, wantN, want)
				}
			}
		}
		holds(t, look(s))
		s.Track(Key{peer, track})
		s.Wants(Key{of, track})
		s.Sub(link(peer, of, track))
		s.Source(uint32(peer))
	})
}
