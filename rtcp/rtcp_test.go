package rtcp

import (
	"math/rand"
	"reflect"
	"slices"
	"strings"
	"testing"

	"antiphon/api"
)

// block has another value in each field, and blockText is its bytes.
func block() Block {
	return Block{Ssrc: 0x01020304, Lost: 0xf5, Total: 0xf6f7f8, Last: 0x090a0b0c, Jitter: 0x0d0e0f10, Lsr: 0x11121314, Dlsr: 0x15161718}
}

const blockText = "\x01\x02\x03\x04\xf5\xf6\xf7\xf8\x09\x0a\x0b\x0c\x0d\x0e\x0f\x10\x11\x12\x13\x14\x15\x16\x17\x18"

// info is the contents of a Sender, and infoText its bytes.
func info() Sender {
	return Sender{Ssrc: 0xf1f2f3f4, Ntp: 0xe1e2e3e4e5e6e7e8, Time: 0xd1d2d3d4, Packets: 0xc1c2c3c4, Octets: 0xb1b2b3b4}
}

const infoText = "\xf1\xf2\xf3\xf4\xe1\xe2\xe3\xe4\xe5\xe6\xe7\xe8\xd1\xd2\xd3\xd4\xc1\xc2\xc3\xc4\xb1\xb2\xb3\xb4"

func sender(l ...Block) Sender {
	p := info()
	p.Blocks = l
	return p
}

func sdes(l ...Item) Sdes {
	return Sdes{Chunks: []Chunk{{Ssrc: 9, Items: l}}}
}

// encodings are packets that may be, and their bytes.
func encodings() []encoding {
	x := strings.Repeat("x", 255)
	return []encoding{
		{Pli{From: 1, To: 2}, "\x81\xce\x00\x02\x00\x00\x00\x01\x00\x00\x00\x02"}, // the document's example
		{Pli{From: 0xf1f2f3f4, To: 0xe1e2e3e4}, "\x81\xce\x00\x02\xf1\xf2\xf3\xf4\xe1\xe2\xe3\xe4"},
		{Sender{}, "\x80\xc8\x00\x06" + strings.Repeat("\x00", 24)},
		{info(), "\x80\xc8\x00\x06" + infoText},
		{sender(block(), Block{}), "\x82\xc8\x00\x12" + infoText + blockText + strings.Repeat("\x00", 24)},
		{sender(make([]Block, 31)...), "\x9f\xc8\x00\xc0" + infoText + strings.Repeat("\x00", 31*24)},
		{Receiver{Ssrc: 0xf1f2f3f4}, "\x80\xc9\x00\x01\xf1\xf2\xf3\xf4"},
		{Receiver{Ssrc: 9, Blocks: []Block{block()}}, "\x81\xc9\x00\x07\x00\x00\x00\x09" + blockText},
		{Receiver{Blocks: slices.Repeat([]Block{block()}, 31)}, "\x9f\xc9\x00\xbb\x00\x00\x00\x00" + strings.Repeat(blockText, 31)},
		{Receiver{Blocks: []Block{{Total: 1<<24 - 1}}}, "\x81\xc9\x00\x07" + strings.Repeat("\x00", 9) + "\xff\xff\xff" + strings.Repeat("\x00", 16)},
		{Sdes{}, "\x80\xca\x00\x00"},
		{sdes(), "\x81\xca\x00\x02\x00\x00\x00\x09\x00\x00\x00\x00"},
		{sdes(Item{Kind: 1}), "\x81\xca\x00\x02\x00\x00\x00\x09\x01\x00\x00\x00"},
		{sdes(Item{Kind: 255, Text: "a"}), "\x81\xca\x00\x02\x00\x00\x00\x09\xff\x01a\x00"},
		{sdes(Item{Kind: 1, Text: "ab"}), "\x81\xca\x00\x03\x00\x00\x00\x09\x01\x02ab\x00\x00\x00\x00"},
		{sdes(Item{Kind: 1, Text: "abc"}), "\x81\xca\x00\x03\x00\x00\x00\x09\x01\x03abc\x00\x00\x00"},
		{sdes(Item{Kind: 1, Text: "\x00"}, Item{Kind: 2, Text: "abc"}), "\x81\xca\x00\x04\x00\x00\x00\x09\x01\x01\x00\x02\x03abc\x00\x00\x00\x00"},
		{sdes(Item{Kind: 7, Text: x}), "\x81\xca\x00\x42\x00\x00\x00\x09\x07\xff" + x + "\x00\x00\x00"},
		{Sdes{Chunks: []Chunk{{Ssrc: 0xf1f2f3f4, Items: []Item{{Kind: 1, Text: "me"}}}, {}, {Ssrc: 2, Items: []Item{{Kind: 3, Text: "you"}}}}},
			"\x83\xca\x00\x08\xf1\xf2\xf3\xf4\x01\x02me\x00\x00\x00\x00" + "\x00\x00\x00\x00\x00\x00\x00\x00" + "\x00\x00\x00\x02\x03\x03you\x00\x00\x00"},
		{Sdes{Chunks: make([]Chunk, 31)}, "\x9f\xca\x00\x3e" + strings.Repeat("\x00", 31*8)},
		{Bye{}, "\x80\xcb\x00\x00"},
		{Bye{Ssrcs: []uint32{0xf1f2f3f4, 1}}, "\x82\xcb\x00\x02\xf1\xf2\xf3\xf4\x00\x00\x00\x01"},
		{Bye{Reason: "off"}, "\x80\xcb\x00\x01\x03off"},
		{Bye{Ssrcs: []uint32{9}, Reason: "o"}, "\x81\xcb\x00\x02\x00\x00\x00\x09\x01o\x00\x00"},
		{Bye{Ssrcs: []uint32{9}, Reason: "gone"}, "\x81\xcb\x00\x03\x00\x00\x00\x09\x04gone\x00\x00\x00"},
		{Bye{Ssrcs: make([]uint32, 31), Reason: x}, "\x9f\xcb\x00\x5f" + strings.Repeat("\x00", 31*4) + "\xff" + x},
		{Nack{From: 0xf1f2f3f4, To: 2}, "\x81\xcd\x00\x02\xf1\xf2\xf3\xf4\x00\x00\x00\x02"},
		{Nack{From: 1, To: 0xf1f2f3f4, Pairs: []Pair{{Pid: 0xe1e2, Blp: 0xe3e4}, {Pid: 5}}}, "\x81\xcd\x00\x04\x00\x00\x00\x01\xf1\xf2\xf3\xf4\xe1\xe2\xe3\xe4\x00\x05\x00\x00"},
		{Nack{Pairs: make([]Pair, 372)}, "\x81\xcd\x01\x76" + strings.Repeat("\x00", 1496)},
		{Fir{From: 0xf1f2f3f4}, "\x84\xce\x00\x02\xf1\xf2\xf3\xf4\x00\x00\x00\x00"},
		{Fir{From: 1, Orders: []Order{{Ssrc: 0xf1f2f3f4, Seq: 255}, {Ssrc: 2, Seq: 3}}}, "\x84\xce\x00\x06\x00\x00\x00\x01\x00\x00\x00\x00\xf1\xf2\xf3\xf4\xff\x00\x00\x00\x00\x00\x00\x02\x03\x00\x00\x00"},
		{Remb{}, "\x8f\xce\x00\x04\x00\x00\x00\x00\x00\x00\x00\x00REMB\x00\x00\x00\x00"},
		{Remb{From: 0xf1f2f3f4, Rate: 1<<18 - 1, Ssrcs: []uint32{2, 0xe1e2e3e4}}, "\x8f\xce\x00\x06\xf1\xf2\xf3\xf4\x00\x00\x00\x00REMB\x02\x03\xff\xff\x00\x00\x00\x02\xe1\xe2\xe3\xe4"},
		{Remb{Rate: 1 << 18}, "\x8f\xce\x00\x04\x00\x00\x00\x00\x00\x00\x00\x00REMB\x00\x06\x00\x00"},
		{Remb{Rate: (1<<18 - 1) << 1}, "\x8f\xce\x00\x04\x00\x00\x00\x00\x00\x00\x00\x00REMB\x00\x07\xff\xff"},
		{Remb{Rate: 0x12345 << 9}, "\x8f\xce\x00\x04\x00\x00\x00\x00\x00\x00\x00\x00REMB\x00\x22\x46\x8a"},
		{Remb{Rate: (1<<18 - 1) << 46}, "\x8f\xce\x00\x04\x00\x00\x00\x00\x00\x00\x00\x00REMB\x00\xbb\xff\xff"},
		{Remb{Rate: 1 << 63, Ssrcs: make([]uint32, 255)}, "\x8f\xce\x01\x03\x00\x00\x00\x00\x00\x00\x00\x00REMB\xff\xba\x00\x00" + strings.Repeat("\x00", 1020)},
		{Other{Kind: 204, Count: 7, Body: "nameabcd"}, "\x87\xcc\x00\x02nameabcd"},
		{Other{Kind: 192}, "\x80\xc0\x00\x00"},
		{Other{Kind: 223, Count: 31, Body: "\x00\x00\x00\x00"}, "\x9f\xdf\x00\x01\x00\x00\x00\x00"},
		{Other{Kind: 199}, "\x80\xc7\x00\x00"},
		{Other{Kind: 207, Count: 1}, "\x81\xcf\x00\x00"},
		{Other{Kind: 205}, "\x80\xcd\x00\x00"},
		{Other{Kind: 205, Count: 4, Body: "abcd"}, "\x84\xcd\x00\x01abcd"},
		{Other{Kind: 205, Count: 15}, "\x8f\xcd\x00\x00"},
		{Other{Kind: 206, Count: 2}, "\x82\xce\x00\x00"},
		{Other{Kind: 206, Count: 31}, "\x9f\xce\x00\x00"},
		{Other{Kind: 204, Body: strings.Repeat("abcd", 374)}, "\x80\xcc\x01\x76" + strings.Repeat("abcd", 374)},
	}
}

type encoding struct {
	p    Packet
	text string
}

// equal compares lists of packets; a list in a packet that is empty is nil in all of them.
func equal(l, m []Packet) bool {
	return slices.EqualFunc(l, m, func(p, q Packet) bool { return reflect.DeepEqual(p, q) })
}

// parses fails the test if bytes are not these packets.
func parses(t *testing.T, s string, want ...Packet) {
	t.Helper()
	if l, e := Parse(s); e != api.OK || !equal(l, want) {
		t.Errorf("Parse(%x) returns %+v, %d, want %+v", s, l, e, want)
	}
}

// fails fails the test if bytes have not this error.
func fails(t *testing.T, s string, want api.Errno) {
	t.Helper()
	if l, e := Parse(s); e != want || l != nil {
		t.Errorf("Parse(%x) returns %+v, %d, want the error %d", s, l, e, want)
	}
}

// P5.1: Head.

func TestHead(t *testing.T) {
	for i, c := range []struct {
		p           Packet
		kind, count byte
	}{
		{Sender{}, 200, 0},
		{Sender{Blocks: make([]Block, 2)}, 200, 2},
		{Receiver{}, 201, 0},
		{Receiver{Blocks: make([]Block, 31)}, 201, 31},
		{Sdes{}, 202, 0},
		{Sdes{Chunks: make([]Chunk, 3)}, 202, 3},
		{Bye{}, 203, 0},
		{Bye{Ssrcs: make([]uint32, 4)}, 203, 4},
		{Nack{}, 205, 1},
		{Nack{Pairs: make([]Pair, 5)}, 205, 1},
		{Pli{}, 206, 1},
		{Fir{}, 206, 4},
		{Fir{Orders: make([]Order, 5)}, 206, 4},
		{Remb{}, 206, 15},
		{Remb{Ssrcs: make([]uint32, 5)}, 206, 15},
		{Other{}, 0, 0},
		{Other{Kind: 204, Count: 7}, 204, 7},
		{Other{Kind: 255, Count: 255}, 255, 255},
	} {
		if kind, count := c.p.Head(); kind != c.kind || count != c.count {
			t.Errorf("%d: Head returns %d, %d, want %d, %d", i, kind, count, c.kind, c.count)
		}
	}
}

// P5.1: Text.

func TestText(t *testing.T) {
	for i, c := range encodings() {
		if s := Text(c.p); s != c.text {
			t.Errorf("%d: Text of %+v returns %x, want %x", i, c.p, s, c.text)
		}
	}
}

func TestTextOfSeveral(t *testing.T) {
	if s := Text(); s != "" {
		t.Errorf("Text of nothing: %x", s)
	}
	if s := Text(Bye{Reason: "o"}, Pli{From: 1, To: 2}, Sdes{}); s != "\x80\xcb\x00\x01\x01o\x00\x00"+"\x81\xce\x00\x02\x00\x00\x00\x01\x00\x00\x00\x02"+"\x80\xca\x00\x00" {
		t.Errorf("Text: %x", s)
	}
}

// unfit are packets that may not be.
func unfit() []Packet {
	x := strings.Repeat("x", 70000)
	return []Packet{
		Sender{Blocks: make([]Block, 300)},
		Receiver{Blocks: []Block{{Total: 1<<32 - 1}}},
		Sdes{Chunks: make([]Chunk, 32)},
		sdes(Item{Kind: 0, Text: x}, Item{Kind: 1, Text: x[:256]}),
		Bye{Ssrcs: make([]uint32, 1000), Reason: x},
		Nack{Pairs: make([]Pair, 70000)},
		Fir{Orders: make([]Order, 70000)},
		Remb{Rate: 1<<64 - 1, Ssrcs: make([]uint32, 1000)},
		Other{Kind: 255, Count: 255, Body: "abc"},
		Other{Kind: 200, Body: x},
	}
}

// K6: no packet makes a call panic, and its encoding is in whole words even so.
func TestTextOfWhatMayNotBe(t *testing.T) {
	for i, p := range unfit() {
		if s := Text(p); len(s)%4 != 0 || s[0]>>6 != 2 || s[0]&32 != 0 {
			t.Errorf("%d: Text has %d bytes, and begins with %x", i, len(s), s[0])
		}
		if e := Check(p); e == api.OK {
			t.Errorf("%d: Check returns OK", i)
		}
	}
}

// P5.1: Check.

func TestCheckOfWhatMayBe(t *testing.T) {
	for i, c := range encodings() {
		if e := Check(c.p); e != api.OK {
			t.Errorf("%d: Check of %+v returns %d", i, c.p, e)
		}
	}
}

func TestCheckErrors(t *testing.T) {
	x := strings.Repeat("x", 1504)
	for i, c := range []struct {
		p    Packet
		want api.Errno
	}{
		{Sender{Blocks: make([]Block, 32)}, api.ErrBig},
		{Receiver{Blocks: make([]Block, 32)}, api.ErrBig},
		{Receiver{Blocks: make([]Block, 256)}, api.ErrBig},
		{Sdes{Chunks: make([]Chunk, 32)}, api.ErrBig},
		{Bye{Ssrcs: make([]uint32, 32)}, api.ErrBig},
		{Bye{Reason: x[:256]}, api.ErrBig},
		{sdes(Item{Kind: 1}, Item{Kind: 1, Text: x[:256]}), api.ErrBig},
		{Sdes{Chunks: []Chunk{{}, {Items: []Item{{Kind: 1, Text: x[:256]}}}}}, api.ErrBig},

		{sender(Block{}, Block{Total: 1 << 24}), api.ErrArg},
		{Receiver{Blocks: []Block{{}, {Total: 1<<32 - 1}}}, api.ErrArg},
		{sdes(Item{Kind: 1}, Item{Text: "a"}), api.ErrArg},
		{Sdes{Chunks: []Chunk{{}, {Items: []Item{{}}}}}, api.ErrArg},
		{Remb{Ssrcs: make([]uint32, 256)}, api.ErrArg},
		{Remb{Rate: 1<<18 | 1}, api.ErrArg},
		{Remb{Rate: 1<<19 | 2}, api.ErrArg},
		{Remb{Rate: 1<<63 | 1<<45}, api.ErrArg},
		{Remb{Rate: 1<<64 - 1}, api.ErrArg},
		{Other{}, api.ErrArg},
		{Other{Kind: 191}, api.ErrArg},
		{Other{Kind: 224}, api.ErrArg},
		{Other{Kind: 255}, api.ErrArg},
		{Other{Kind: 204, Count: 32}, api.ErrArg},
		{Other{Kind: 204, Count: 255}, api.ErrArg},
		{Other{Kind: 204, Body: "a"}, api.ErrArg},
		{Other{Kind: 204, Body: "ab"}, api.ErrArg},
		{Other{Kind: 204, Body: "abc"}, api.ErrArg},
		{Other{Kind: 204, Body: "abcde"}, api.ErrArg},
		{Other{Kind: 200}, api.ErrArg},
		{Other{Kind: 200, Count: 31, Body: "abcd"}, api.ErrArg},
		{Other{Kind: 201, Count: 1}, api.ErrArg},
		{Other{Kind: 202, Count: 2}, api.ErrArg},
		{Other{Kind: 203, Count: 31}, api.ErrArg},
		{Other{Kind: 205, Count: 1}, api.ErrArg},
		{Other{Kind: 206, Count: 1}, api.ErrArg},
		{Other{Kind: 206, Count: 4}, api.ErrArg},
		{Other{Kind: 206, Count: 15}, api.ErrArg},

		// Up to MaxDatagram bytes.
		{Nack{Pairs: make([]Pair, 373)}, api.ErrBig},
		{Fir{Orders: make([]Order, 186)}, api.OK},
		{Fir{Orders: make([]Order, 187)}, api.ErrBig},
		{Other{Kind: 204, Body: x[:1496]}, api.OK},
		{Other{Kind: 204, Body: x[:1500]}, api.ErrBig},
		{sdes(slices.Repeat([]Item{{Kind: 1, Text: x[:243]}}, 6)...), api.OK},
		{sdes(slices.Repeat([]Item{{Kind: 1, Text: x[:247]}}, 6)...), api.ErrBig},
		{Nack{Pairs: make([]Pair, 70000)}, api.ErrBig},

		// The first error is returned.
		{Sender{Blocks: slices.Repeat([]Block{{Total: 1 << 24}}, 32)}, api.ErrBig},
		{sdes(Item{Kind: 0, Text: x[:256]}), api.ErrBig},
		{Sdes{Chunks: slices.Repeat([]Chunk{{Items: []Item{{}}}}, 32)}, api.ErrBig},
		{sdes(append(slices.Repeat([]Item{{Kind: 1, Text: x[:255]}}, 6), Item{})...), api.ErrArg},
		{Other{Kind: 204, Body: x[:1503]}, api.ErrArg},
		{Other{Kind: 205, Count: 1, Body: x}, api.ErrArg},
	} {
		if e := Check(c.p); e != c.want {
			t.Errorf("%d: Check of %+v returns %d, want %d", i, c.p, e, c.want)
		}
	}
}

// An Other may have every kind and count that no other type has.
func TestCheckOfOthers(t *testing.T) {
	for kind := range 256 {
		for count := range 256 {
			p := Other{Kind: byte(kind), Count: byte(count)}
			typed := kind >= 200 && kind <= 203 || kind == 205 && count == 1 || kind == 206 && (count == 1 || count == 4 || count == 15)
			want := api.OK
			if kind < 192 || kind > 223 || count > 31 || typed {
				want = api.ErrArg
			}
			if e := Check(p); e != want {
				t.Fatalf("Check of %+v returns %d, want %d", p, e, want)
			}
		}
	}
}

// A Remb's Rate has at most 18 bits between its highest and its lowest one.
func TestCheckOfRates(t *testing.T) {
	for high := range 64 {
		for low := range high + 1 {
			want := api.OK
			if high-low >= 18 {
				want = api.ErrArg
			}
			p := Remb{Rate: 1<<high | 1<<low}
			if e := Check(p); e != want {
				t.Errorf("Check of the Rate %x returns %d, want %d", p.Rate, e, want)
			}
		}
	}
}

// P5.1: Parse.

func TestParse(t *testing.T) {
	for _, c := range encodings() {
		parses(t, c.text, c.p)
	}
}

func TestParseOfSeveral(t *testing.T) {
	var s string
	var l []Packet
	for _, c := range encodings() {
		if len(c.text) < 100 && len(s)+len(c.text) <= 1500 {
			s += c.text
			l = append(l, c.p)
		}
	}
	if len(l) < 30 {
		t.Errorf("only %d packets", len(l))
	}
	parses(t, s, l...)
	parses(t, "\x80\xcb\x00\x00\x80\xca\x00\x00", Bye{}, Sdes{})
}

func TestParseUpToMaxDatagram(t *testing.T) {
	parses(t, strings.Repeat("\x80\xcb\x00\x00", 375), slices.Repeat([]Packet{Bye{}}, 375)...)
	for _, s := range []string{strings.Repeat("\x80\xcb\x00\x00", 376), strings.Repeat("\x80\xcb\x00\x00", 375) + "\x80", strings.Repeat("x", 1501), strings.Repeat("\x80", 100000)} {
		fails(t, s, api.ErrBig)
	}
}

func TestParseHeaders(t *testing.T) {
	for _, s := range []string{"", "\x80", "\x40", "\xff", "\x80\xc9", "\x80\xc9\x00", "\x80\xc9\x00\x01", "\x80\xc9\x00\x01\x00\x00\x00", "\x80\xcc\xff\xff\x00\x00\x00\x00"} {
		fails(t, s, api.ErrEnd)
	}
	for first := range 256 {
		for kind := range 256 {
			// With only the two bytes something is missing, if they are right.
			want := api.ErrForm
			if first>>6 == 2 && kind >= 192 && kind <= 223 {
				want = api.ErrEnd
			}
			fails(t, string([]byte{byte(first), byte(kind)}), want)
		}
	}
	// The bytes that are missing go ahead of padding that may not be.
	fails(t, "\xa0\xcc\x00\x02\x00\x00\x00\x03", api.ErrEnd)
}

// An error of any packet is that of the datagram, and that of the first one counts.
func TestParseTellsTheFirstError(t *testing.T) {
	good := "\x80\xcb\x00\x00"
	short := "\x80\xc9\x00\x00"
	long := "\x80\xc9\x00\x02\x00\x00\x00\x01\x00\x00\x00\x03"
	fails(t, good+short, api.ErrEnd)
	fails(t, good+long, api.ErrForm)
	fails(t, short+long, api.ErrEnd)
	fails(t, long+short, api.ErrForm)
	fails(t, good+"\x80", api.ErrEnd)
	fails(t, good+"\x40", api.ErrEnd)
	fails(t, good+"\x40\xcb", api.ErrForm)
	fails(t, long+"\x80", api.ErrForm)
}

func TestParsePadding(t *testing.T) {
	receiver := Receiver{Ssrc: 1}
	head := "\x00\x00\x00\x01"
	parses(t, "\xa0\xc9\x00\x02"+head+"\x00\x00\x00\x04", receiver)
	parses(t, "\xa0\xc9\x00\x02"+head+"\xff\xff\xff\x04", receiver)
	parses(t, "\xa0\xc9\x00\x03"+head+"\x00\x00\x00\x00\x00\x00\x00\x08", receiver)
	parses(t, "\xa0\xc9\x00\x40"+head+strings.Repeat("\x07", 251)+"\xfc", receiver)
	parses(t, "\xa0\xcc\x00\x01\x00\x00\x00\x04", Other{Kind: 204})
	parses(t, "\xa0\xcb\x00\x02\x00\x00\x00\x00\x00\x00\x00\x08", Bye{})
	parses(t, "\xa0\xcb\x00\x02\x03off\x00\x00\x00\x04", Bye{Reason: "off"})
	parses(t, "\xa1\xca\x00\x03\x00\x00\x00\x09\x00\x00\x00\x00\x00\x00\x00\x04", sdes())
	parses(t, "\xa1\xcd\x00\x03\x00\x00\x00\x01\x00\x00\x00\x02\x00\x00\x00\x04", Nack{From: 1, To: 2})
	parses(t, "\xaf\xce\x00\x05\x00\x00\x00\x00\x00\x00\x00\x00REMB\x00\x00\x00\x00\x00\x00\x00\x04", Remb{})
	parses(t, "\x80\xcb\x00\x00\xa0\xc9\x00\x02"+head+"\x00\x00\x00\x04", Bye{}, receiver)
	for n := range 256 {
		s := "\xa0\xc9\x00\x03" + head + "\x00\x00\x00\x00\x00\x00\x00" + string([]byte{byte(n)})
		switch n {
		case 8:
			parses(t, s, receiver)
		case 4:
			fails(t, s, api.ErrForm) // A word is left.
		case 12:
			fails(t, s, api.ErrEnd) // The source is missing.
		default:
			fails(t, s, api.ErrForm)
		}
	}
	fails(t, "\xa0\xcb\x00\x00", api.ErrForm)
	// With an Other, behind which nothing is left, it is the padding alone.
	for _, n := range []string{"\x00", "\x01", "\x03", "\x05", "\x08", "\xff"} {
		fails(t, "\xa0\xcc\x00\x01\x00\x00\x00"+n, api.ErrForm)
	}
	fails(t, "\xa0\xc9\x00\x02"+head+"\x00\x00\x00\x04\x80\xcb\x00\x00", api.ErrForm)
	fails(t, "\xa0\xc9\x00\x02"+head+"\x00\x00\x00\x04\x80", api.ErrForm)
	// Padding that may not be goes ahead of what the type finds.
	fails(t, "\xa0\xc8\x00\x01\x00\x00\x00\x03", api.ErrForm)
	fails(t, "\xa0\xc8\x00\x01\x00\x00\x00\x04\x80\xcb\x00\x00", api.ErrForm)
}

// A packet can be cut at no word, unless its list may end there.
func TestParseOfCutPackets(t *testing.T) {
	for i, c := range encodings() {
		for n := 4; n < min(len(c.text), 200); n += 4 {
			s := c.text[:2] + "\x00" + string([]byte{byte(n/4 - 1)}) + c.text[4:n]
			want := api.ErrEnd
			switch p := c.p.(type) {
			case Other:
				want = api.OK
			case Nack:
				if n >= 12 {
					want = api.OK
				}
			case Fir:
				if n >= 12 && n%8 == 4 {
					want = api.OK
				}
			case Remb:
				if n >= 20 {
					want = api.ErrForm
				}
			case Bye:
				if n == 4+4*len(p.Ssrcs) {
					want = api.OK
				}
			}
			if _, e := Parse(s); e != want {
				t.Errorf("%d: Parse(%x) returns %d, want %d", i, s, e, want)
			}
		}
	}
}

// Behind every type but those whose list goes up to the end nothing may be left.
func TestParseOfLongPackets(t *testing.T) {
	for i, c := range encodings() {
		s := c.text[:2] + string([]byte{c.text[2], c.text[3] + 1}) + c.text[4:] + "\x00\x00\x00\x00"
		if len(s) > 1500 || c.text[3] == 255 {
			continue
		}
		want := api.ErrForm
		switch c.p.(type) {
		case Other, Nack, Bye:
			want = api.OK
		case Fir:
			want = api.ErrEnd
		}
		if _, e := Parse(s); e != want {
			t.Errorf("%d: Parse(%x) returns %d, want %d", i, s, e, want)
		}
	}
}

func TestParseOfReasons(t *testing.T) {
	bye := Bye{Ssrcs: []uint32{9}, Reason: "o"}
	parses(t, "\x81\xcb\x00\x02\x00\x00\x00\x09\x01o\xff\xff", bye)
	parses(t, "\x81\xcb\x00\x04\x00\x00\x00\x09\x01o\x00\x00moremore", bye)
	parses(t, "\x81\xcb\x00\x02\x00\x00\x00\x09\x00\x00\x00\x00", Bye{Ssrcs: []uint32{9}})
	parses(t, "\x81\xcb\x00\x02\x00\x00\x00\x09\x00abc", Bye{Ssrcs: []uint32{9}})
	parses(t, "\x81\xcb\x00\x02\x00\x00\x00\x09\x03abc", Bye{Ssrcs: []uint32{9}, Reason: "abc"})
	fails(t, "\x81\xcb\x00\x02\x00\x00\x00\x09\x04abc", api.ErrEnd)
	fails(t, "\x81\xcb\x00\x02\x00\x00\x00\x09\xffabc", api.ErrEnd)
	fails(t, "\x82\xcb\x00\x01\x00\x00\x00\x09", api.ErrEnd)
}

func TestParseOfChunks(t *testing.T) {
	// The bytes behind the end of the items are ignored, up to the end of the word.
	parses(t, "\x81\xca\x00\x02\x00\x00\x00\x09\x00\xff\xff\xff", sdes())
	parses(t, "\x81\xca\x00\x02\x00\x00\x00\x09\x01\x00\x00\xff", sdes(Item{Kind: 1}))
	parses(t, "\x81\xca\x00\x02\x00\x00\x00\x09\x01\x01a\x00", sdes(Item{Kind: 1, Text: "a"}))
	fails(t, "\x81\xca\x00\x02\x00\x00\x00\x09\x01\x02ab", api.ErrEnd)
	fails(t, "\x81\xca\x00\x02\x00\x00\x00\x09\x01\x03ab", api.ErrEnd)
	fails(t, "\x81\xca\x00\x02\x00\x00\x00\x09\x01\x01a\x01", api.ErrEnd)
	fails(t, "\x81\xca\x00\x01\x00\x00\x00\x09", api.ErrEnd)
	fails(t, "\x81\xca\x00\x00", api.ErrEnd)
	fails(t, "\x80\xca\x00\x01\x00\x00\x00\x00", api.ErrForm)
	fails(t, "\x82\xca\x00\x03\x00\x00\x00\x09\x00\x00\x00\x00\x00\x00\x00\x09", api.ErrEnd)
}

func TestParseIgnoresWhatShouldBeZero(t *testing.T) {
	parses(t, "\x84\xce\x00\x04\x00\x00\x00\x01\xff\xff\xff\xff\x00\x00\x00\x02\x03\xff\xff\xff", Fir{From: 1, Orders: []Order{{Ssrc: 2, Seq: 3}}})
	parses(t, "\x8f\xce\x00\x05\x00\x00\x00\x01\xff\xff\xff\xffREMB\x01\x00\x00\x07\x00\x00\x00\x02", Remb{From: 1, Rate: 7, Ssrcs: []uint32{2}})
}

// remb is a Remb of these four bytes behind the mark, and of a source.
func remb(mark, number, rate, ssrcs string) string {
	s := "\x00\x00\x00\x01\x00\x00\x00\x00" + mark + number + rate + ssrcs
	return "\x8f\xce\x00" + string([]byte{byte(len(s) / 4)}) + s
}

func TestParseOfRembs(t *testing.T) {
	one := "\x00\x00\x00\x02"
	for _, c := range []struct {
		rate string
		want uint64
	}{
		{"\x00\x00\x00", 0},
		{"\x00\x00\x01", 1},
		{"\x03\xff\xff", 1<<18 - 1},
		{"\x04\x00\x01", 2},
		{"\x04\x00\x02", 4}, // with a shift that is not the least one
		{"\xb8\x00\x01", 1 << 46},
		{"\xbb\xff\xff", (1<<18 - 1) << 46},
		{"\xbd\xff\xff", (1<<17 - 1) << 47},
		{"\xfc\x00\x01", 1 << 63},
		{"\xfc\x00\x00", 0},
	} {
		parses(t, remb("REMB", "\x01", c.rate, one), Remb{From: 1, Rate: c.want, Ssrcs: []uint32{2}})
	}
	for _, rate := range []string{"\xbe\x00\x00", "\xbf\xff\xff", "\xfc\x00\x02", "\xff\xff\xff"} {
		fails(t, remb("REMB", "\x01", rate, one), api.ErrBig)
	}
	for _, mark := range []string{"remb", "REMX", "\x00\x00\x00\x00", "XEMB"} {
		fails(t, remb(mark, "\x01", "\x00\x00\x01", one), api.ErrForm)
	}
	for _, number := range []string{"\x00", "\x02", "\xff"} {
		fails(t, remb("REMB", number, "\x00\x00\x01", one), api.ErrForm)
	}
	// The first error is returned.
	fails(t, remb("remb", "\x01", "\xff\xff\xff", one), api.ErrForm)
	fails(t, remb("REMB", "\x02", "\xff\xff\xff", one), api.ErrBig)
	fails(t, remb("REMB", "\x00", "\xff\xff\xff", one), api.ErrBig)
	fails(t, remb("remb", "", "", ""), api.ErrEnd)
	fails(t, remb("REMB", "", "", ""), api.ErrEnd)
	fails(t, remb("", "", "", ""), api.ErrEnd)
}

// P5.1: Nacks, Byes and Rate.

func TestNacksAndByes(t *testing.T) {
	first := Nack{From: 1, To: 2, Pairs: []Pair{{Pid: 3, Blp: 4}}}
	second := Nack{From: 5, To: 6}
	l := []Packet{Pli{}, Bye{Ssrcs: []uint32{7, 8}}, first, Other{Kind: 205, Count: 2}, second, Bye{}, Sender{Ssrc: 1}, Bye{Ssrcs: []uint32{7}}}
	nacks := Nacks(l...)
	if len(nacks) != 2 || !equal([]Packet{nacks[0], nacks[1]}, []Packet{first, second}) {
		t.Errorf("Nacks: %+v", nacks)
	}
	if gone := Byes(l...); !slices.Equal(gone, []uint32{7, 8, 7}) {
		t.Errorf("Byes: %v", gone)
	}
	if len(Nacks()) != 0 || len(Byes()) != 0 || len(Nacks(Pli{}, Fir{})) != 0 || len(Byes(Pli{}, Bye{})) != 0 {
		t.Error("there are Nacks or Byes of others")
	}
}

// K3: results share no memory with arguments.
func TestResultsAreNew(t *testing.T) {
	nack := Nack{Pairs: []Pair{{Pid: 3}}}
	bye := Bye{Ssrcs: []uint32{7}}
	Nacks(nack)[0].Pairs[0].Pid = 9
	Byes(bye)[0] = 9
	if nack.Pairs[0].Pid != 3 || bye.Ssrcs[0] != 7 {
		t.Error("Nacks or Byes share the memory of a packet")
	}
}

func TestRate(t *testing.T) {
	for _, rate := range []uint64{0, 1, 1 << 20, 1<<64 - 1} {
		if x := Rate(Remb{Rate: rate}); x != rate {
			t.Errorf("Rate: %d, want %d", x, rate)
		}
	}
}

func TestRateOfAnotherType(t *testing.T) {
	for _, p := range []Packet{Sender{}, Receiver{}, Sdes{}, Bye{}, Nack{}, Pli{}, Fir{}, Other{Kind: 206, Count: 15}} {
		if !panics(func() { Rate(p) }) {
			t.Errorf("Rate of %+v does not panic", p)
		}
	}
}

func panics(f func()) (did bool) {
	defer func() { did = recover() != nil }()
	f()
	return false
}

// P5.1: Seqs and Pairs.

func TestSeqs(t *testing.T) {
	for _, c := range []struct {
		pairs []Pair
		want  []uint16
	}{
		{nil, nil},
		{[]Pair{{Pid: 5}}, []uint16{5}},
		{[]Pair{{Pid: 3, Blp: 5}}, []uint16{3, 4, 6}},
		{[]Pair{{Pid: 0, Blp: 1 << 15}}, []uint16{0, 16}},
		{[]Pair{{Pid: 100, Blp: 65535}}, []uint16{100, 101, 102, 103, 104, 105, 106, 107, 108, 109, 110, 111, 112, 113, 114, 115, 116}},
		{[]Pair{{Pid: 65535, Blp: 3}}, []uint16{65535, 0, 1}},
		{[]Pair{{Pid: 65530, Blp: 0x8001}}, []uint16{65530, 65531, 10}},
		{[]Pair{{Pid: 7, Blp: 2}, {Pid: 7, Blp: 1}, {Pid: 6}}, []uint16{7, 9, 7, 8, 6}},
	} {
		if l := (Nack{Pairs: c.pairs}).Seqs(); !slices.Equal(l, c.want) {
			t.Errorf("Seqs of %v: %v, want %v", c.pairs, l, c.want)
		}
	}
}

func TestPairs(t *testing.T) {
	for _, c := range []struct {
		seqs []uint16
		want []Pair
	}{
		{nil, nil},
		{[]uint16{0}, []Pair{{}}},
		{[]uint16{5}, []Pair{{Pid: 5}}},
		{[]uint16{5, 5, 5}, []Pair{{Pid: 5}}},
		{[]uint16{5, 6}, []Pair{{Pid: 5, Blp: 1}}},
		{[]uint16{5, 21}, []Pair{{Pid: 5, Blp: 1 << 15}}},
		{[]uint16{5, 22}, []Pair{{Pid: 5}, {Pid: 22}}},
		{[]uint16{5, 21, 6, 5, 21}, []Pair{{Pid: 5, Blp: 1<<15 | 1}}},
		{[]uint16{5, 4}, []Pair{{Pid: 5}, {Pid: 4}}},
		{[]uint16{5, 4, 5}, []Pair{{Pid: 5}, {Pid: 4, Blp: 1}}},
		// Only the last pair is looked at.
		{[]uint16{5, 40, 6}, []Pair{{Pid: 5}, {Pid: 40}, {Pid: 6}}},
		{[]uint16{65530, 65530, 3, 65531, 20}, []Pair{{Pid: 65530, Blp: 1<<8 | 1}, {Pid: 20}}},
		{[]uint16{65535, 15, 16}, []Pair{{Pid: 65535, Blp: 1 << 15}, {Pid: 16}}},
		{[]uint16{0, 65535, 0}, []Pair{{Pid: 0}, {Pid: 65535, Blp: 1}}},
		{[]uint16{0, 32768}, []Pair{{Pid: 0}, {Pid: 32768}}},
	} {
		if l := Pairs(c.seqs...); !slices.Equal(l, c.want) {
			t.Errorf("Pairs of %v: %v, want %v", c.seqs, l, c.want)
		}
	}
}

// P5.2.

func TestParseInvertsText(t *testing.T) {
	random := rand.New(rand.NewSource(5))
	valid := 0
	for range 20000 {
		var l []Packet
		for range 1 + random.Intn(4) {
			l = append(l, anyPacket(random))
		}
		s := Text(l...)
		if len(s) > 1500 || slices.ContainsFunc(l, func(p Packet) bool { return Check(p) != api.OK }) {
			continue
		}
		valid++
		if m, e := Parse(s); e != api.OK || !equal(m, l) {
			t.Fatalf("Parse of the Text of %+v returns %+v, %d", l, m, e)
		}
	}
	if valid < 5000 {
		t.Errorf("only %d lists were valid", valid)
	}
}

// anyPacket returns a packet of any type; most may be.
func anyPacket(random *rand.Rand) Packet {
	u32 := random.Uint32
	switch random.Intn(9) {
	case 0:
		return Sender{Ssrc: u32(), Ntp: random.Uint64(), Time: u32(), Packets: u32(), Octets: u32(), Blocks: anyBlocks(random)}
	case 1:
		return Receiver{Ssrc: u32(), Blocks: anyBlocks(random)}
	case 2:
		return anySdes(random)
	case 3:
		return Bye{Ssrcs: anySsrcs(random), Reason: anyText(random)}
	case 4:
		p := Nack{From: u32(), To: u32()}
		for range random.Intn(5) {
			p.Pairs = append(p.Pairs, Pair{Pid: uint16(u32()), Blp: uint16(u32())})
		}
		return p
	case 5:
		return Pli{From: u32(), To: u32()}
	case 6:
		p := Fir{From: u32()}
		for range random.Intn(5) {
			p.Orders = append(p.Orders, Order{Ssrc: u32(), Seq: byte(u32())})
		}
		return p
	case 7:
		return Remb{From: u32(), Rate: random.Uint64() >> 46 << random.Intn(47), Ssrcs: anySsrcs(random)}
	}
	return Other{Kind: byte(192 + random.Intn(32)), Count: byte(random.Intn(32)), Body: strings.Repeat(anyText(random), 4)}
}

func anyBlocks(random *rand.Rand) []Block {
	var l []Block
	for range random.Intn(4) {
		l = append(l, Block{Ssrc: random.Uint32(), Lost: byte(random.Uint32()), Total: random.Uint32() >> 8, Last: random.Uint32(), Jitter: random.Uint32(), Lsr: random.Uint32(), Dlsr: random.Uint32()})
	}
	return l
}

func anySdes(random *rand.Rand) Sdes {
	var p Sdes
	for range random.Intn(4) {
		c := Chunk{Ssrc: random.Uint32()}
		for range random.Intn(4) {
			c.Items = append(c.Items, Item{Kind: byte(random.Intn(256)), Text: anyText(random)})
		}
		p.Chunks = append(p.Chunks, c)
	}
	return p
}

func anySsrcs(random *rand.Rand) []uint32 {
	var l []uint32
	for range random.Intn(5) {
		l = append(l, random.Uint32())
	}
	return l
}

func anyText(random *rand.Rand) string {
	b := make([]byte, random.Intn(10)*random.Intn(5))
	random.Read(b)
	return string(b)
}

// P5.3.

func TestPairsHaveTheNumbersThatWerePassed(t *testing.T) {
	random := rand.New(rand.NewSource(6))
	for range 5000 {
		var l []uint16
		at := uint16(random.Uint32())
		for range random.Intn(40) {
			at += uint16(random.Intn(24) - 3)
			l = append(l, at)
		}
		got := Nack{Pairs: Pairs(l...)}.Seqs()
		if !slices.Equal(ascending(got), ascending(l)) {
			t.Fatalf("Seqs of Pairs of %v: %v", l, got)
		}
	}
}

// ascending: each number once.
func ascending(l []uint16) []uint16 {
	l = slices.Clone(l)
	slices.Sort(l)
	return slices.Compact(l)
}

// K6: any bytes; what Parse returns may be, and its Text is no longer and parsed alike.
func FuzzParse(f *testing.F) {
	for _, c := range encodings() {
		f.Add(c.text)
	}
	f.Add("\xa0\xc9\x00\x02\x00\x00\x00\x01\x00\x00\x00\x04")
	f.Fuzz(func(t *testing.T, s string) {
		l, e := Parse(s)
		if e != api.OK {
			if l != nil || e != api.ErrEnd && e != api.ErrForm && e != api.ErrBig {
				t.Errorf("Parse(%x) returns %+v, %d", s, l, e)
			}
			return
		}
		for _, p := range l {
			if e := Check(p); e != api.OK {
				t.Errorf("Check of %+v of %x returns %d", p, s, e)
			}
		}
		again := Text(l...)
		if m, _ := Parse(again); len(again) > len(s) || !equal(l, m) {
			t.Errorf("the Text of Parse(%x) is %x", s, again)
		}
	})
}
