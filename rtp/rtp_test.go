package rtp

import (
	"math/rand"
	"reflect"
	"slices"
	"strings"
	"testing"

	"antiphon/api"
)

// head is the fixed part of a packet with this first byte: type 96, number 1, time 2, source 3.
func head(first byte) string {
	return string([]byte{first, 0x60}) + "\x00\x01\x00\x00\x00\x02\x00\x00\x00\x03"
}

// full has everything that a packet may have.
func full() Packet {
	return Packet{Marker: true, Type: 111, Seq: 0x0102, Time: 0x03040506, Ssrc: 0x0708090a,
		Csrcs: []uint32{0x0b0c0d0e, 0xf1f2f3f4}, Ext: true, Profile: 0xbede, Data: "abcdefgh", Payload: "xyz", Padding: 3}
}

const fullText = "\xb2\xef\x01\x02\x03\x04\x05\x06\x07\x08\x09\x0a" + "\x0b\x0c\x0d\x0e\xf1\xf2\xf3\xf4" +
	"\xbe\xde\x00\x02abcdefgh" + "xyz" + "\x00\x00\x03"

// equal compares packets, for which a nil slice is an empty one.
func equal(p, q Packet) bool {
	same := slices.Equal(p.Csrcs, q.Csrcs)
	p.Csrcs, q.Csrcs = nil, nil
	return same && reflect.DeepEqual(p, q)
}

// P3.1: Is.

func TestIs(t *testing.T) {
	for first := range 256 {
		for second := range 256 {
			s := string([]byte{byte(first), byte(second)})
			want := first >= 128 && first < 192 && (second < 192 || second > 223)
			if Is(s) != want || Is(s+"more") != want {
				t.Fatalf("Is(%x) is not %v", s, want)
			}
		}
	}
	for _, s := range []string{"", "\x80", "\xbf"} {
		if Is(s) {
			t.Errorf("Is(%x)", s)
		}
	}
}

// P3.1: Check.

func TestCheck(t *testing.T) {
	long := strings.Repeat("abcd", 65536)
	for i, c := range []struct {
		p    Packet
		want api.Errno
	}{
		{Packet{}, api.OK},
		{full(), api.OK},
		{Packet{Type: 127}, api.OK},
		{Packet{Type: 128}, api.ErrArg},
		{Packet{Type: 255}, api.ErrArg},
		{Packet{Padding: 255}, api.OK},
		{Packet{Padding: 256}, api.ErrArg},
		{Packet{Padding: -1}, api.ErrArg},
		{Packet{Padding: 1<<63 - 1}, api.ErrArg},
		{Packet{Padding: -1 << 63}, api.ErrArg},
		{Packet{Csrcs: make([]uint32, 15)}, api.OK},
		{Packet{Csrcs: make([]uint32, 16)}, api.ErrBig},
		{Packet{Ext: true}, api.OK},
		{Packet{Ext: true, Profile: 65535}, api.OK},
		{Packet{Ext: true, Data: "a"}, api.ErrForm},
		{Packet{Ext: true, Data: "ab"}, api.ErrForm},
		{Packet{Ext: true, Data: "abc"}, api.ErrForm},
		{Packet{Ext: true, Data: "abcd"}, api.OK},
		{Packet{Ext: true, Data: "abcde"}, api.ErrForm},
		{Packet{Profile: 1}, api.ErrForm},
		{Packet{Data: "abcd"}, api.ErrForm},
		{Packet{Profile: 1, Data: "abcd"}, api.ErrForm},
		// Below the bound of Data the other errors are found.
		{Packet{Ext: true, Data: long[:262143]}, api.ErrForm},
		{Packet{Ext: true, Data: long[:262140]}, api.ErrBig},
		{Packet{Data: long[:262140]}, api.ErrForm},
		{Packet{Ext: true, Data: long}, api.ErrBig},
		{Packet{Data: long}, api.ErrBig},
		{Packet{Ext: true, Data: long + "a"}, api.ErrBig},
		// Everything counts for Len, up to MaxDatagram.
		{Packet{Payload: strings.Repeat("x", 1488)}, api.OK},
		{Packet{Payload: strings.Repeat("x", 1489)}, api.ErrBig},
		{Packet{Payload: strings.Repeat("x", 1233), Padding: 255}, api.OK},
		{Packet{Payload: strings.Repeat("x", 1234), Padding: 255}, api.ErrBig},
		{Packet{Payload: strings.Repeat("x", 1428), Csrcs: make([]uint32, 15)}, api.OK},
		{Packet{Payload: strings.Repeat("x", 1429), Csrcs: make([]uint32, 15)}, api.ErrBig},
		{Packet{Ext: true, Payload: strings.Repeat("x", 1484)}, api.OK},
		{Packet{Ext: true, Payload: strings.Repeat("x", 1485)}, api.ErrBig},
		{Packet{Ext: true, Data: long[:1484]}, api.OK},
		{Packet{Ext: true, Data: long[:1488]}, api.ErrBig},
		// The first error is returned.
		{Packet{Type: 128, Csrcs: make([]uint32, 16), Data: "abc"}, api.ErrArg},
		{Packet{Padding: -1, Csrcs: make([]uint32, 16), Data: "abc"}, api.ErrArg},
		{Packet{Csrcs: make([]uint32, 16), Data: "abc"}, api.ErrBig},
		{Packet{Data: "abcd", Payload: strings.Repeat("x", 1489)}, api.ErrForm},
	} {
		if e := c.p.Check(); e != c.want {
			t.Errorf("%d: Check returns %d, want %d", i, e, c.want)
		}
	}
}

// P3.1: Len and Text.

func TestText(t *testing.T) {
	for i, c := range []struct {
		p    Packet
		want string
	}{
		{Packet{Type: 96, Seq: 1, Time: 2, Ssrc: 3, Payload: "a"}, head(0x80) + "a"}, // the document's example
		{Packet{}, "\x80\x00\x00\x00\x00\x00\x00\x00\x00\x00\x00\x00"},
		{full(), fullText},
		{Packet{Marker: true, Type: 127, Seq: 65535, Time: 1<<32 - 1, Ssrc: 1<<32 - 1}, "\x80" + strings.Repeat("\xff", 11)},
		{Packet{Marker: true}, "\x80\x80" + strings.Repeat("\x00", 10)},
		{Packet{Type: 96, Seq: 1, Time: 2, Ssrc: 3, Padding: 1}, head(0xa0) + "\x01"},
		{Packet{Type: 96, Seq: 1, Time: 2, Ssrc: 3, Payload: "a", Padding: 2}, head(0xa0) + "a\x00\x02"},
		{Packet{Type: 96, Seq: 1, Time: 2, Ssrc: 3, Padding: 255}, head(0xa0) + strings.Repeat("\x00", 254) + "\xff"},
		{Packet{Type: 96, Seq: 1, Time: 2, Ssrc: 3, Ext: true}, head(0x90) + "\x00\x00\x00\x00"},
		{Packet{Type: 96, Seq: 1, Time: 2, Ssrc: 3, Ext: true, Profile: 0x0102, Data: strings.Repeat("abcd", 259)},
			head(0x90) + "\x01\x02\x01\x03" + strings.Repeat("abcd", 259)},
		{Packet{Type: 96, Seq: 1, Time: 2, Ssrc: 3, Csrcs: make([]uint32, 15)}, head(0x8f) + strings.Repeat("\x00", 60)},
	} {
		if e := c.p.Check(); e != api.OK {
			t.Errorf("%d: Check returns %d", i, e)
		}
		if s := c.p.Text(); s != c.want {
			t.Errorf("%d: Text returns %x, want %x", i, s, c.want)
		}
		if n := c.p.Len(); n != len(c.want) {
			t.Errorf("%d: Len returns %d, want %d", i, n, len(c.want))
		}
	}
}

// K6: no packet makes a call panic, or write without bound.
func TestTextOfWhatMayNotBe(t *testing.T) {
	for _, n := range []int{-1 << 63, -256, -255, -1, 256, 257, 1 << 40, 1<<63 - 1} {
		p := Packet{Type: 255, Padding: n, Data: "abc", Csrcs: make([]uint32, 40)}
		if len(p.Text()) > 12+160+255 {
			t.Errorf("Text with Padding %d has %d bytes", n, len(p.Text()))
		}
		p.Len()
	}
}

// K3.
func TestResultsAreNotShared(t *testing.T) {
	p := full()
	p.Check()
	p.Len()
	s := p.Text()
	if !equal(p, full()) {
		t.Errorf("a call has changed the packet: %+v", p)
	}
	p.Csrcs[0] = 0
	if s != fullText {
		t.Errorf("Text is %x after a change", s)
	}
	a, _ := Parse(fullText)
	b, _ := Parse(fullText)
	a.Csrcs[0] = 0
	if !equal(b, full()) {
		t.Errorf("packets share their Csrcs: %+v", b)
	}
}

// P3.1: Parse.

func TestParse(t *testing.T) {
	for _, c := range []struct {
		text string
		want Packet
	}{
		{head(0x80) + "a", Packet{Type: 96, Seq: 1, Time: 2, Ssrc: 3, Payload: "a"}}, // the document's example
		{head(0x80), Packet{Type: 96, Seq: 1, Time: 2, Ssrc: 3}},
		{fullText, full()},
		{"\x80" + strings.Repeat("\xff", 11), Packet{Marker: true, Type: 127, Seq: 65535, Time: 1<<32 - 1, Ssrc: 1<<32 - 1}},
		{head(0x90) + "\x00\x00\x00\x00", Packet{Type: 96, Seq: 1, Time: 2, Ssrc: 3, Ext: true}},
		{head(0x90) + "\x01\x02\x00\x01abcdef", Packet{Type: 96, Seq: 1, Time: 2, Ssrc: 3, Ext: true, Profile: 0x0102, Data: "abcd", Payload: "ef"}},
		{head(0x90) + "\x00\x00\x01\x03" + strings.Repeat("abcd", 259), Packet{Type: 96, Seq: 1, Time: 2, Ssrc: 3, Ext: true, Data: strings.Repeat("abcd", 259)}},
		{head(0x8f) + strings.Repeat("\x00", 60), Packet{Type: 96, Seq: 1, Time: 2, Ssrc: 3, Csrcs: make([]uint32, 15)}},
		{head(0xa0) + "\x01", Packet{Type: 96, Seq: 1, Time: 2, Ssrc: 3, Padding: 1}},
		{head(0xa0) + "a\x01", Packet{Type: 96, Seq: 1, Time: 2, Ssrc: 3, Payload: "a", Padding: 1}},
		// The other bytes of the padding may have any value.
		{head(0xa0) + "abc\x03", Packet{Type: 96, Seq: 1, Time: 2, Ssrc: 3, Payload: "a", Padding: 3}},
		{head(0xa0) + "abc\x04", Packet{Type: 96, Seq: 1, Time: 2, Ssrc: 3, Padding: 4}},
		{head(0xa0) + strings.Repeat("\xff", 256), Packet{Type: 96, Seq: 1, Time: 2, Ssrc: 3, Payload: "\xff", Padding: 255}},
		{head(0x80) + strings.Repeat("x", 1488), Packet{Type: 96, Seq: 1, Time: 2, Ssrc: 3, Payload: strings.Repeat("x", 1488)}},
		// What a report has in its second byte is a packet, here.
		{"\x80\xc8" + strings.Repeat("\x00", 10), Packet{Marker: true, Type: 72}},
	} {
		if p, e := Parse(c.text); e != api.OK || !equal(p, c.want) {
			t.Errorf("Parse(%x) returns %+v, %d, want %+v", c.text, p, e, c.want)
		}
	}
}

func TestParseErrors(t *testing.T) {
	for _, c := range []struct {
		text string
		want api.Errno
	}{
		{strings.Repeat("\x80", 1501), api.ErrBig},
		{strings.Repeat("\x00", 1501), api.ErrBig},
		{head(0x90) + "\x00\x00\xff\xff" + strings.Repeat("x", 2000), api.ErrBig},
		{"", api.ErrEnd},
		{"\x80", api.ErrEnd},
		{"\x00", api.ErrEnd},
		{"\xff", api.ErrEnd},
		// The version is examined as soon as two bytes are there.
		{"\x00\x60", api.ErrForm},
		{"\x7f\x60", api.ErrForm},
		{"\xc0\x60", api.ErrForm},
		{"\x80\x60", api.ErrEnd},
		{head(0x00), api.ErrForm},
		{head(0x40), api.ErrForm},
		{head(0xc0), api.ErrForm},
		{head(0x70), api.ErrForm},
		// Something is missing up to the end of the extension.
		{head(0x81), api.ErrEnd},
		{head(0x82) + "\x00\x00\x00\x00\x00\x00\x00", api.ErrEnd},
		{head(0x8f) + strings.Repeat("\x00", 59), api.ErrEnd},
		{head(0x90), api.ErrEnd},
		{head(0x90) + "\x00\x00\x00", api.ErrEnd},
		{head(0x90) + "\x00\x00\x00\x01abc", api.ErrEnd},
		{head(0x90) + "\x00\x00\xff\xffabcd", api.ErrEnd},
		{head(0xb0) + "\x00\x00\x00\x01ab\x00", api.ErrEnd},
		// For the padding.
		{head(0xa0), api.ErrEnd},
		{head(0xb0) + "\x00\x00\x00\x01abcd", api.ErrEnd},
		{head(0xa1) + "\x00\x00\x00\x01", api.ErrEnd},
		{head(0xa0) + "\x00", api.ErrForm},
		{head(0xa0) + "abc\x00", api.ErrForm},
		{head(0xa0) + "\x02", api.ErrEnd},
		{head(0xa0) + "abc\x05", api.ErrEnd},
		{head(0xa0) + "abc\xff", api.ErrEnd},
		{head(0xb0) + "\x00\x00\x00\x01abcd" + "a\x03", api.ErrEnd},
	} {
		p, e := Parse(c.text)
		if e != c.want {
			t.Errorf("Parse(%x) returns %d, want %d", c.text, e, c.want)
		}
		if !reflect.DeepEqual(p, Packet{}) {
			t.Errorf("Parse(%x) returns %+v beside the error", c.text, p)
		}
	}
}

// A packet is cut nowhere in front of its payload.
func TestParseOfCutPackets(t *testing.T) {
	for n := range len(fullText) - len("xyz\x00\x00\x03") {
		if _, e := Parse(fullText[:n]); e != api.ErrEnd {
			t.Errorf("Parse of %d bytes returns %d", n, e)
		}
	}
}

// P3.2.

// some is a valid packet of anything.
func some(random *rand.Rand) Packet {
	p := Packet{Marker: random.Intn(2) == 0, Type: byte(random.Intn(128)), Seq: uint16(random.Uint32()),
		Time: random.Uint32(), Ssrc: random.Uint32(), Payload: text(random, random.Intn(40))}
	for range random.Intn(16) {
		p.Csrcs = append(p.Csrcs, random.Uint32())
	}
	if random.Intn(2) == 0 {
		p.Ext = true
		p.Profile = uint16(random.Uint32())
		p.Data = text(random, 4*random.Intn(20))
	}
	if random.Intn(2) == 0 {
		p.Padding = random.Intn(256)
	}
	return p
}

func text(random *rand.Rand, n int) string {
	b := make([]byte, n)
	for i := range b {
		b[i] = byte(random.Intn(256))
	}
	return string(b)
}

func TestParseInvertsText(t *testing.T) {
	random := rand.New(rand.NewSource(3))
	for range 3000 {
		p := some(random)
		if e := p.Check(); e != api.OK {
			t.Fatalf("Check of %+v: %d", p, e)
		}
		s := p.Text()
		if p.Len() != len(s) {
			t.Fatalf("Len of %+v is %d, but Text has %d bytes", p, p.Len(), len(s))
		}
		if q, e := Parse(s); e != api.OK || !equal(p, q) {
			t.Fatalf("Parse returns %+v, %d, want %+v", q, e, p)
		}
	}
}

func TestTextInvertsParse(t *testing.T) {
	random := rand.New(rand.NewSource(4))
	packets := 0
	for range 30000 {
		s := text(random, random.Intn(100))
		if len(s) > 12 {
			s = string([]byte{s[0]&0x33 | 0x80}) + s[1:]
		}
		p, e := Parse(s)
		if e != api.OK {
			continue
		}
		packets++
		if e := p.Check(); e != api.OK {
			t.Fatalf("Check of what Parse returns: %d", e)
		}
		want := s
		if p.Padding > 0 {
			want = s[:len(s)-p.Padding] + strings.Repeat("\x00", p.Padding-1) + s[len(s)-1:]
		}
		if got := p.Text(); got != want {
			t.Fatalf("Text of Parse(%x) is %x", s, got)
		}
	}
	if packets < 3000 {
		t.Errorf("only %d packets were parsed", packets)
	}
}

// K4 and K6: any bytes.
func FuzzParse(f *testing.F) {
	f.Add(fullText)
	f.Add(head(0xa0) + "\x02")
	f.Fuzz(func(t *testing.T, s string) {
		p, e := Parse(s)
		if e != api.OK && !reflect.DeepEqual(p, Packet{}) {
			t.Errorf("Parse(%x) returns %+v, %d", s, p, e)
		}
		if e == api.OK && (p.Check() != api.OK || len(p.Text()) != len(s)) {
			t.Errorf("Parse(%x) returns %+v", s, p)
		}
	})
}
