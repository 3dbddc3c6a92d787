package control

import (
	"math/rand"
	"reflect"
	"slices"
	"strings"
	"testing"

	"antiphon/api"
)

// ssrcs is a list of sources that are all different.
func ssrcs(n int) []uint32 {
	var l []uint32
	for i := range n {
		l = append(l, uint32(i))
	}
	return l
}

type encoding struct {
	c    Command
	text string
}

// encodings are commands that may be, and their bytes.
func encodings() []encoding {
	long := strings.Repeat("\U00010400", 16)
	return []encoding{
		{Command{Kind: Leave, Peer: 258}, "\x02\x01\x02"}, // the document's example
		{Command{Kind: Join, Room: "hall", Name: "é"}, "\x01\x04hall\x02é"},
		{Command{Kind: Join, Room: "A-b", Name: "A-b"}, "\x01\x03A-b\x03A-b"},
		{Command{Kind: Join, Room: long, Name: "7"}, "\x01\x40" + long + "\x017"},
		{Command{Kind: Join, Room: "7", Name: long}, "\x01\x017\x40" + long},
		{Command{Kind: Leave}, "\x02\x00\x00"},
		{Command{Kind: Leave, Peer: 65535}, "\x02\xff\xff"},
		{Command{Kind: Publish, Ssrcs: []uint32{0}}, "\x03\x00\x00\x00\x00\x01\x00\x00\x00\x00"},
		{Command{Kind: Publish, Peer: 0xf1f2, Track: 3, Ssrcs: []uint32{0xe1e2e3e4}}, "\x03\xf1\xf2\x03\x00\x01\xe1\xe2\xe3\xe4"},
		{Command{Kind: Publish, Peer: 1, Track: 2, Video: true, Ssrcs: []uint32{5}}, "\x03\x00\x01\x02\x01\x01\x00\x00\x00\x05"},
		{Command{Kind: Publish, Peer: 1, Video: true, Ssrcs: []uint32{6, 5}}, "\x03\x00\x01\x00\x01\x02\x00\x00\x00\x06\x00\x00\x00\x05"},
		{Command{Kind: Publish, Track: 1, Video: true, Ssrcs: []uint32{0xf1f2f3f4, 0, 1<<32 - 1}}, "\x03\x00\x00\x01\x01\x03\xf1\xf2\xf3\xf4\x00\x00\x00\x00\xff\xff\xff\xff"},
		{Command{Kind: Unpublish}, "\x04\x00\x00\x00"},
		{Command{Kind: Unpublish, Peer: 0xf1f2, Track: 3}, "\x04\xf1\xf2\x03"},
		{Command{Kind: Subscribe}, "\x05\x00\x00\x00\x00\x00\x00"},
		{Command{Kind: Subscribe, Peer: 0xf1f2, Of: 0xe1e2, Track: 3, Layer: 2}, "\x05\xf1\xf2\xe1\xe2\x03\x02"},
		{Command{Kind: Subscribe, Of: 65535, Layer: 1}, "\x05\x00\x00\xff\xff\x00\x01"},
		{Command{Kind: Unsubscribe}, "\x06\x00\x00\x00\x00\x00"},
		{Command{Kind: Unsubscribe, Peer: 0xf1f2, Of: 0xe1e2, Track: 3}, "\x06\xf1\xf2\xe1\xe2\x03"},
		{Command{Kind: Mute}, "\x07\x00\x00\x00\x00"},
		{Command{Kind: Mute, Peer: 0xf1f2, Track: 3, On: true}, "\x07\xf1\xf2\x03\x01"},
		{Command{Kind: Pause}, "\x08\x00\x00\x00\x00\x00\x00"},
		{Command{Kind: Pause, Peer: 0xf1f2, Of: 0xe1e2, Track: 3, On: true}, "\x08\xf1\xf2\xe1\xe2\x03\x01"},
		// Who does something to himself is not this layer's matter.
		{Command{Kind: Subscribe, Peer: 1, Of: 1}, "\x05\x00\x01\x00\x01\x00\x00"},
	}
}

// fails fails the test if bytes have not this error, or if there is a command beside it.
func fails(t *testing.T, s string, want api.Errno) {
	t.Helper()
	if c, e := Parse(s); e != want || !reflect.DeepEqual(c, Command{}) {
		t.Errorf("Parse(%x) returns %+v, %d, want the error %d", s, c, e, want)
	}
}

func TestNumbers(t *testing.T) {
	if !slices.Equal([]int{Join, Leave, Publish, Unpublish, Subscribe, Unsubscribe, Mute, Pause}, []int{1, 2, 3, 4, 5, 6, 7, 8}) || MostPeer != 65535 {
		t.Error("a constant has another value")
	}
}

// P7.1: Text and Parse of what may be; P7.2 for these.

func TestEncodings(t *testing.T) {
	for _, x := range encodings() {
		if e := x.c.Check(); e != api.OK {
			t.Errorf("Check of %+v returns %d", x.c, e)
		}
		if s := x.c.Text(); s != x.text {
			t.Errorf("Text of %+v is %x, want %x", x.c, s, x.text)
		}
		if c, e := Parse(x.text); e != api.OK || !reflect.DeepEqual(c, x.c) {
			t.Errorf("Parse(%x) returns %+v, %d, want %+v", x.text, c, e, x.c)
		}
	}
}

// P7.1: Check.

func TestCheckKind(t *testing.T) {
	for _, kind := range []int{0, -1, 9, 255, 256, 257, 264, 1<<32 + 1, -1 << 63, 1<<63 - 1} {
		for _, c := range []Command{{Kind: kind}, {Kind: kind, Room: "-", Peer: -1, Track: 9, Layer: 9, Ssrcs: ssrcs(9)}} {
			if e := c.Check(); e != api.ErrKind {
				t.Errorf("Check of kind %d returns %d", kind, e)
			}
		}
	}
}

// foreign changes one part each, to what may not be where a command has it, as far as there is such a thing.
func foreign() map[string]func(*Command) {
	return map[string]func(*Command){
		"Room":  func(c *Command) { c.Room = "-" },
		"Name":  func(c *Command) { c.Name = "-" },
		"Peer":  func(c *Command) { c.Peer = -1 },
		"Of":    func(c *Command) { c.Of = 65536 },
		"Track": func(c *Command) { c.Track = 4 },
		"Layer": func(c *Command) { c.Layer = -1 },
		"On":    func(c *Command) { c.On = true },
		"Video": func(c *Command) { c.Video = true },
		"Ssrcs": func(c *Command) { c.Ssrcs = ssrcs(4) },
	}
}

func TestCheckForeignParts(t *testing.T) {
	own := map[int]string{
		Join: "Room Name", Leave: "Peer", Publish: "Peer Track Video Ssrcs", Unpublish: "Peer Track",
		Subscribe: "Peer Of Track Layer", Unsubscribe: "Peer Of Track", Mute: "Peer Track On", Pause: "Peer Of Track On",
	}
	for _, x := range encodings() {
		for part, change := range foreign() {
			if slices.Contains(strings.Fields(own[x.c.Kind]), part) {
				continue
			}
			c := x.c
			change(&c)
			if e := c.Check(); e != api.ErrForm {
				t.Errorf("Check of kind %d with %s returns %d", c.Kind, part, e)
			}
		}
	}
}

func TestCheckForeignPartsOfSmallestValue(t *testing.T) {
	for i, c := range []Command{
		{Kind: Leave, Room: "a"}, {Kind: Leave, Name: "a"}, {Kind: Leave, Of: 1}, {Kind: Leave, Of: -1}, {Kind: Leave, Track: 1}, {Kind: Leave, Layer: 1},
		{Kind: Leave, Ssrcs: []uint32{0}}, {Kind: Join, Room: "a", Name: "b", Peer: 1}, {Kind: Mute, Layer: 2}, {Kind: Publish, Ssrcs: ssrcs(1), Layer: 1},
		{Kind: Subscribe, On: true}, {Kind: Unsubscribe, Layer: 1}, {Kind: Mute, Video: true}, {Kind: Publish, Ssrcs: ssrcs(1), On: true},
	} {
		if e := c.Check(); e != api.ErrForm {
			t.Errorf("%d: Check of %+v returns %d", i, c, e)
		}
	}
}

// A foreign part goes ahead of whatever else is wrong.
func TestCheckForeignPartsFirst(t *testing.T) {
	for i, c := range []Command{
		{Kind: Join, Room: "-", Name: "-", Peer: 65536}, {Kind: Leave, Peer: 65536, Track: 1}, {Kind: Publish, Layer: 1}, {Kind: Publish, Peer: -1, Name: "a"},
		{Kind: Publish, Video: true, Ssrcs: []uint32{1, 1}, Of: 1}, {Kind: Mute, Track: 4, Video: true}, {Kind: Subscribe, Layer: 3, On: true},
	} {
		if e := c.Check(); e != api.ErrForm {
			t.Errorf("%d: Check of %+v returns %d", i, c, e)
		}
	}
}

// An empty list is as good as none.
func TestCheckOfAnEmptyList(t *testing.T) {
	for _, x := range encodings() {
		if x.c.Kind == Publish {
			continue
		}
		c := x.c
		c.Ssrcs = []uint32{}
		if e := c.Check(); e != api.OK || c.Text() != x.text {
			t.Errorf("Check of %+v with an empty list returns %d, and Text %x", x.c, e, c.Text())
		}
	}
	if e := (Command{Kind: Publish, Ssrcs: []uint32{}}).Check(); e != api.ErrArg {
		t.Errorf("Check of a Publish with an empty list returns %d", e)
	}
}

func TestCheckRanges(t *testing.T) {
	for i, c := range []Command{
		{Kind: Leave}, {Kind: Publish, Ssrcs: ssrcs(1)}, {Kind: Unpublish}, {Kind: Subscribe}, {Kind: Unsubscribe}, {Kind: Mute}, {Kind: Pause},
	} {
		ranges(t, c, "Peer", 65535, func(c *Command, n int) { c.Peer = n })
		if i > 0 {
			ranges(t, c, "Track", 3, func(c *Command, n int) { c.Track = n })
		}
		if c.Kind == Subscribe || c.Kind == Unsubscribe || c.Kind == Pause {
			ranges(t, c, "Of", 65535, func(c *Command, n int) { c.Of = n })
		}
		if c.Kind == Subscribe {
			ranges(t, c, "Layer", 2, func(c *Command, n int) { c.Layer = n })
		}
	}
}

// ranges fails the test if a part of a command may not be exactly 0 to most.
func ranges(t *testing.T, c Command, part string, most int, set func(*Command, int)) {
	t.Helper()
	for n, want := range map[int]api.Errno{
		0: api.OK, 1: api.OK, most: api.OK, -1: api.ErrArg, most + 1: api.ErrArg,
		-1 << 63: api.ErrArg, 1<<63 - 1: api.ErrArg, 1 << 16: api.ErrArg, 1 << 32: api.ErrArg, -1 << 32: api.ErrArg,
	} {
		set(&c, n)
		if e := c.Check(); e != want {
			t.Errorf("Check of kind %d with %s %d returns %d, want %d", c.Kind, part, n, e, want)
		}
	}
}

func TestCheckNames(t *testing.T) {
	for _, s := range []string{"", "-", "a-", "a--b", "a b", "a/b", "\xff", strings.Repeat("a", 17), strings.Repeat("a", 1<<16)} {
		for _, c := range []Command{{Kind: Join, Room: s, Name: "a"}, {Kind: Join, Room: "a", Name: s}, {Kind: Join, Room: s, Name: s}} {
			if e := c.Check(); e != api.ErrName {
				t.Errorf("Check of a Join of %q, %q returns %d", c.Room, c.Name, e)
			}
		}
	}
}

func TestCheckSsrcs(t *testing.T) {
	for i, x := range []struct {
		video bool
		ssrcs []uint32
		want  api.Errno
	}{
		{false, nil, api.ErrArg},
		{true, nil, api.ErrArg},
		{false, ssrcs(1), api.OK},
		{true, ssrcs(1), api.OK},
		{false, ssrcs(2), api.ErrArg},
		{true, ssrcs(2), api.OK},
		{false, ssrcs(3), api.ErrArg},
		{true, ssrcs(3), api.OK},
		{true, ssrcs(4), api.ErrArg},
		{true, ssrcs(300), api.ErrArg},
		{true, []uint32{7, 7}, api.ErrThere},
		{true, []uint32{7, 7, 8}, api.ErrThere},
		{true, []uint32{7, 8, 7}, api.ErrThere},
		{true, []uint32{8, 7, 7}, api.ErrThere},
		{true, []uint32{0, 0, 0}, api.ErrThere},
		// The number goes ahead of what is equal.
		{false, []uint32{7, 7}, api.ErrArg},
		{true, []uint32{7, 7, 8, 9}, api.ErrArg},
	} {
		c := Command{Kind: Publish, Peer: 1, Track: 1, Video: x.video, Ssrcs: x.ssrcs}
		if e := c.Check(); e != x.want {
			t.Errorf("%d: Check of a Publish of %v, %v returns %d, want %d", i, x.video, x.ssrcs, e, x.want)
		}
	}
	c := Command{Kind: Publish, Track: 4, Video: true, Ssrcs: []uint32{7, 7}}
	if e := c.Check(); e != api.ErrArg {
		t.Errorf("Check of a Publish of a track 4 with equal sources returns %d", e)
	}
}

// P7.1: Parse of what is not a command.

func TestParseNothing(t *testing.T) {
	fails(t, "", api.ErrEnd)
}

func TestParseKind(t *testing.T) {
	for kind := range 256 {
		if kind >= Join && kind <= Pause {
			fails(t, string([]byte{byte(kind)}), api.ErrEnd)
			continue
		}
		for _, rest := range []string{"", "\x00", "\x00\x00\x00", "\x01a\x01b", strings.Repeat("\xff", 300)} {
			fails(t, string([]byte{byte(kind)})+rest, api.ErrKind)
		}
	}
}

func TestParseWhatIsCutOrTooLong(t *testing.T) {
	for _, x := range encodings() {
		for i := range len(x.text) {
			fails(t, x.text[:i], api.ErrEnd)
		}
		for _, rest := range []string{"\x00", "\xff", "abc", x.text} {
			fails(t, x.text+rest, api.ErrForm)
		}
	}
}

func TestParseBools(t *testing.T) {
	for b := 2; b < 256; b++ {
		s := string([]byte{byte(b)})
		fails(t, "\x03\x00\x01\x02"+s+"\x01\x00\x00\x00\x05", api.ErrForm)
		fails(t, "\x07\x00\x01\x02"+s, api.ErrForm)
		fails(t, "\x08\x00\x01\x00\x02\x02"+s, api.ErrForm)
	}
}

// The parts are taken one by one: the first one that is wrong says which error it is.
func TestParsePartByPart(t *testing.T) {
	fails(t, "\x03\x00\x01\x02\x02", api.ErrForm)
	fails(t, "\x03\x00\x01\x02\x02\x03\x00", api.ErrForm)
	fails(t, "\x03\x00\x01\x02\x01", api.ErrEnd)
	fails(t, "\x03\x00\x01\x02\x01\x00\x00", api.ErrForm)
	fails(t, "\x03\x00\x01\x02\x01\xff\x00\x00\x00\x01\x00\x00\x00\x01", api.ErrEnd)
	fails(t, "\x01\xffhall\x03ann", api.ErrEnd)
	fails(t, "\x01\x00", api.ErrEnd)
	// What is missing or left goes ahead of Check's errors.
	fails(t, "\x01\x01-", api.ErrEnd)
	fails(t, "\x01\x01-\x01-\x00", api.ErrForm)
	fails(t, "\x04\x00\x01\x04\x00", api.ErrForm)
	fails(t, "\x07\x00\x01\x04", api.ErrEnd)
	fails(t, "\x07\x00\x01\x04\x02", api.ErrForm)
	fails(t, "\x03\x00\x01\x02\x00\x02\x00\x00\x00\x05", api.ErrEnd)
}

func TestParseHasTheErrorsOfCheck(t *testing.T) {
	fails(t, "\x01\x00\x01a", api.ErrName)
	fails(t, "\x01\x01a\x00", api.ErrName)
	fails(t, "\x01\x01a\x01-", api.ErrName)
	fails(t, "\x01\x01\xff\x01a", api.ErrName)
	fails(t, "\x01\x11abcdefghijklmnopq\x01a", api.ErrName)
	fails(t, "\x01\x01a\xff"+strings.Repeat("a", 255), api.ErrName)
	fails(t, "\x03\x00\x01\x02\x01\x00", api.ErrArg)
	fails(t, "\x03\x00\x01\x02\x00\x02\x00\x00\x00\x05\x00\x00\x00\x06", api.ErrArg)
	fails(t, "\x03\x00\x01\x02\x01\x04"+strings.Repeat("\x00", 16), api.ErrArg)
	fails(t, "\x03\x00\x01\x02\x01\xff"+strings.Repeat("\x00", 1020), api.ErrArg)
	fails(t, "\x03\x00\x01\x02\x01\x02\x00\x00\x00\x05\x00\x00\x00\x05", api.ErrThere)
	fails(t, "\x03\x00\x01\x04\x01\x02\x00\x00\x00\x05\x00\x00\x00\x05", api.ErrArg)
	for _, head := range []string{"\x04\x00\x01", "\x06\x00\x01\x00\x02"} {
		fails(t, head+"\x04", api.ErrArg)
		fails(t, head+"\xff", api.ErrArg)
	}
	fails(t, "\x07\x00\x01\x04\x01", api.ErrArg)
	fails(t, "\x08\x00\x01\x00\x02\x04\x01", api.ErrArg)
	fails(t, "\x05\x00\x01\x00\x02\x04\x00", api.ErrArg)
	fails(t, "\x05\x00\x01\x00\x02\x00\x03", api.ErrArg)
	fails(t, "\x05\x00\x01\x00\x02\x00\xff", api.ErrArg)
}

// P7.2.

// anyCommand returns a command that may be, of any kind.
func anyCommand(random *rand.Rand) Command {
	peer, of, track := random.Intn(65536), random.Intn(65536), random.Intn(4)
	on, names := random.Intn(2) == 1, []string{"a", "Ann", "é-字", "x_1.y", strings.Repeat("字", 16)}
	switch kind := 1 + random.Intn(8); kind {
	case Join:
		return Command{Kind: kind, Room: names[random.Intn(len(names))], Name: names[random.Intn(len(names))]}
	case Leave:
		return Command{Kind: kind, Peer: peer}
	case Publish:
		first := random.Uint32()
		c := Command{Kind: kind, Peer: peer, Track: track, Video: on, Ssrcs: []uint32{first}}
		if on {
			c.Ssrcs = []uint32{first, first + 1, first + 256}[:1+random.Intn(3)]
		}
		return c
	case Unpublish:
		return Command{Kind: kind, Peer: peer, Track: track}
	case Subscribe:
		return Command{Kind: kind, Peer: peer, Of: of, Track: track, Layer: random.Intn(3)}
	case Unsubscribe:
		return Command{Kind: kind, Peer: peer, Of: of, Track: track}
	case Mute:
		return Command{Kind: kind, Peer: peer, Track: track, On: on}
	default:
		return Command{Kind: kind, Peer: peer, Of: of, Track: track, On: on}
	}
}

func TestParseInvertsText(t *testing.T) {
	random := rand.New(rand.NewSource(7))
	for range 20000 {
		c := anyCommand(random)
		s := c.Text()
		if got, e := Parse(s); c.Check() != api.OK || e != api.OK || !reflect.DeepEqual(got, c) {
			t.Fatalf("%+v is %x, and that is %+v, %d", c, s, got, e)
		}
	}
}

// inverts fails the test if bytes are a command, but not the one that has these bytes.
func inverts(t *testing.T, s string) {
	t.Helper()
	c, e := Parse(s)
	switch {
	case e == api.OK && (c.Text() != s || c.Check() != api.OK):
		t.Errorf("Parse(%x) returns %+v, and that is %x", s, c, c.Text())
	case e != api.OK && !reflect.DeepEqual(c, Command{}):
		t.Errorf("Parse(%x) returns %+v beside %d", s, c, e)
	}
}

func TestTextInvertsParse(t *testing.T) {
	random := rand.New(rand.NewSource(8))
	parsed := 0
	for range 20000 {
		b := []byte(anyCommand(random).Text())
		for range random.Intn(3) {
			b[random.Intn(len(b))] = byte(random.Intn(8))
		}
		if _, e := Parse(string(b)); e == api.OK {
			parsed++
		}
		inverts(t, string(b))
	}
	if parsed < 5000 {
		t.Errorf("only %d texts were commands", parsed)
	}
}

// K3: a call changes nothing, and what it returns is its own.

func TestCallsChangeNothing(t *testing.T) {
	l := []uint32{9, 7, 8}
	c := Command{Kind: Publish, Video: true, Ssrcs: l}
	s := c.Text()
	if c.Check() != api.OK || !slices.Equal(l, []uint32{9, 7, 8}) {
		t.Errorf("the sources are %v now", l)
	}
	first, _ := Parse(s)
	second, _ := Parse(s)
	first.Ssrcs[0] = 1
	if second.Ssrcs[0] != 9 || s != c.Text() {
		t.Error("two results share their sources")
	}
}

// K6: any command and bytes.

func TestTextOfWhatMayNotBe(t *testing.T) {
	long := strings.Repeat("x", 1000)
	for kind := -1; kind < 300; kind++ {
		for _, n := range []int{-1 << 63, -1, 65536, 1<<63 - 1} {
			c := Command{Kind: kind, Room: long, Name: long, Peer: n, Of: n, Track: n, Layer: n, On: true, Video: true, Ssrcs: ssrcs(1000)}
			if c.Check() == api.OK || c.Text() != c.Text() {
				t.Fatalf("%+v may be", c)
			}
		}
	}
}

func FuzzParse(f *testing.F) {
	for _, x := range encodings() {
		f.Add(x.text)
	}
	f.Fuzz(inverts)
}
