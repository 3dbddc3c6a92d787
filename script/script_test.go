package script

import (
	"fmt"
	"math"
	"math/rand"
	"reflect"
	"slices"
	"strings"
	"testing"

	"antiphon/access"
	"antiphon/api"
	"antiphon/control"
	"antiphon/egress"
	"antiphon/frame"
	"antiphon/ingress"
	"antiphon/ladder"
	"antiphon/pli"
	"antiphon/reorder"
	"antiphon/rtcp"
	"antiphon/rtp"
	"antiphon/sfu"
	"antiphon/stall"
)

func config() sfu.Config {
	return sfu.Config{
		Ingress: ingress.Config{Order: reorder.Config{Most: 8, Wait: 5}, Frame: frame.Config{Bytes: 300, Units: 6, Wait: 10}},
		Egress:  egress.Config{Frames: 4, Bytes: 400, Age: 10, Most: 100, Guard: 3},
		Pli:     pli.Config{First: 3, Most: 12},
		Stall:   stall.Config{After: 50, Rest: 20},
		Ladder:  ladder.Config{Down: 3, Up: 5},
		Needs:   []int{50, 200, 500},
		Window:  50,
		Ring:    32, Again: 1, Gap: 2, Share: 100, Reports: 25,
	}
}

func newSfu(t *testing.T) *sfu.Sfu {
	t.Helper()
	s, e := sfu.New(config())
	if e != api.OK {
		t.Fatalf("New: %d", e)
	}
	return s
}

// P27.1: Bytes and Digits.

func TestBytesAndDigits(t *testing.T) {
	for digits, bytes := range map[string]string{
		"": "", "00": "\x00", "61": "a", "0a": "\n", "a0": "\xa0", "ff": "\xff", "09af": "\x09\xaf", "81ce0002": "\x81\xce\x00\x02", "616263": "abc", "c3a9": "é",
	} {
		if s, ok := Bytes(digits); s != bytes || !ok {
			t.Errorf("Bytes(%q): %q, %t", digits, s, ok)
		}
		if s := Digits(bytes); s != digits {
			t.Errorf("Digits(%q): %q", bytes, s)
		}
	}
}

func TestDigitsOfEveryByte(t *testing.T) {
	all := ""
	for b := range 256 {
		s := string([]byte{byte(b)})
		all += s
		if want := fmt.Sprintf("%02x", b); Digits(s) != want {
			t.Errorf("Digits(%q): %q", s, Digits(s))
		}
	}
	if s, ok := Bytes(Digits(all)); s != all || !ok {
		t.Errorf("Bytes of all: %q, %t", s, ok)
	}
}

// No byte is a digit beside the sixteen, in either place.
func TestBytesOfWhatIsNotDigits(t *testing.T) {
	for b := range 256 {
		c := string([]byte{byte(b)})
		want := strings.Contains("0123456789abcdef", c)
		for _, s := range []string{c + "0", "0" + c, "00" + c + "0", "0" + c + "00"} {
			x, ok := Bytes(s)
			if ok != want || !ok && x != "" {
				t.Errorf("Bytes(%q): %q, %t", s, x, ok)
			}
		}
	}
	for _, s := range []string{"0", "000", "61626", "a", "g", " ", "0x61", "6 1 ", " 61", "61 ", "61\n", "FF", "fF", "é", "٠٠", "-1", "+1"} {
		if x, ok := Bytes(s); x != "" || ok {
			t.Errorf("Bytes(%q): %q, %t", s, x, ok)
		}
	}
}

func FuzzBytes(f *testing.F) {
	f.Add("09af")
	f.Add("0G")
	f.Fuzz(func(t *testing.T, s string) {
		if x, ok := Bytes(s); ok && Digits(x) != s || !ok && x != "" {
			t.Errorf("Bytes(%q): %q, %t", s, x, ok)
		}
		if x, ok := Bytes(Digits(s)); !ok || x != s {
			t.Errorf("Bytes(Digits(%q)): %q, %t", s, x, ok)
		}
	})
}

// P27.1: Verbs.

func TestVerbs(t *testing.T) {
	want := []string{"audio", "credit", "data", "join", "leave", "mute", "pause", "subscribe", "tick", "unpublish", "unsubscribe", "video"}
	l := Verbs()
	if !slices.Equal(l, want) {
		t.Errorf("Verbs: %q", l)
	}
	// It belongs to the caller.
	clear(l)
	if l := Verbs(); !slices.Equal(l, want) || !slices.IsSorted(l) {
		t.Errorf("Verbs, again: %q", l)
	}
}

func TestEveryVerbIsKnown(t *testing.T) {
	seen := map[string]bool{}
	for _, x := range valid() {
		seen[strings.Fields(x.line)[0]] = true
	}
	for _, verb := range Verbs() {
		if _, e := ParseLine(verb); e == api.ErrKind || !seen[verb] {
			t.Errorf("ParseLine(%q): %d", verb, e)
		}
	}
}

// P27.1: ParseLine.

type line struct {
	line string
	want sfu.Event
}

// valid are lines that may be, with the encodings of their commands.
func valid() []line {
	command := func(s string) sfu.Event { return sfu.Event{Kind: 2, Text: s} }
	return []line{
		{"tick", sfu.Event{Kind: 3}},
		{"credit 0 0", sfu.Event{Kind: 4}},
		{"credit 12 345", sfu.Event{Kind: 4, Peer: 12, N: 345}},
		{"credit 4294967295 4294967295", sfu.Event{Kind: 4, Peer: 4294967295, N: 4294967295}},
		{"data 7 61", sfu.Event{Kind: 1, Peer: 7, Text: "a"}},
		{"data 0 ", sfu.Event{Kind: 1}},
		{"data 4294967295 0a0020ff", sfu.Event{Kind: 1, Peer: 4294967295, Text: "\n\x00 \xff"}},
		{"data 1 " + strings.Repeat("80", 2000), sfu.Event{Kind: 1, Peer: 1, Text: strings.Repeat("\x80", 2000)}},
		{"join hall ann", command("\x01\x04hall\x03ann")},
		{"join Hall-1 Ännchen", command("\x01\x06Hall-1\x08Ännchen")},
		{"join 4 tick", command("\x01\x014\x04tick")},
		{"leave 0", command("\x02\x00\x00")},
		{"leave 258", command("\x02\x01\x02")},
		{"leave 65535", command("\x02\xff\xff")},
		{"video 0 0 7", command("\x03\x00\x00\x00\x01\x01\x00\x00\x00\x07")},
		{"video 258 3 0 4294967295", command("\x03\x01\x02\x03\x01\x02\x00\x00\x00\x00\xff\xff\xff\xff")},
		{"video 1 2 30 20 10", command("\x03\x00\x01\x02\x01\x03\x00\x00\x00\x1e\x00\x00\x00\x14\x00\x00\x00\x0a")},
		{"audio 0 0 7", command("\x03\x00\x00\x00\x00\x01\x00\x00\x00\x07")},
		{"audio 65535 1 4294967295", command("\x03\xff\xff\x01\x00\x01\xff\xff\xff\xff")},
		{"unpublish 258 3", command("\x04\x01\x02\x03")},
		{"mute 258 3 on", command("\x07\x01\x02\x03\x01")},
		{"mute 258 3 off", command("\x07\x01\x02\x03\x00")},
		{"subscribe 258 772 3 2", command("\x05\x01\x02\x03\x04\x03\x02")},
		{"subscribe 0 65535 1 0", command("\x05\x00\x00\xff\xff\x01\x00")},
		{"unsubscribe 258 772 3", command("\x06\x01\x02\x03\x04\x03")},
		{"pause 258 772 3 on", command("\x08\x01\x02\x03\x04\x03\x01")},
		{"pause 258 772 3 off", command("\x08\x01\x02\x03\x04\x03\x00")},
	}
}

func TestParseLine(t *testing.T) {
	for _, x := range valid() {
		if got, e := ParseLine(x.line); e != api.OK || got != x.want {
			t.Errorf("ParseLine(%q): %+v, %d, want %+v", x.line, got, e, x.want)
		}
	}
}

// wrong wants a line to have that error, and no event.
func wrong(t *testing.T, s string, want api.Errno) {
	t.Helper()
	if x, e := ParseLine(s); e != want || x != (sfu.Event{}) {
		t.Errorf("ParseLine(%q): %+v, %d, want %d", s, x, e, want)
	}
}

func TestParseLineOfNoVerb(t *testing.T) {
	for _, s := range []string{
		"", " ", " tick", "Tick", "TICK", "tic", "ticks", "tick\n", "tick\r", "\ttick", "tick\t", "publish 0 0 7", "video\x00 0 0 7", "3", "on",
		"data\n0 61", "join\thall ann", "other", "credits 0 0", "\xff", "répondre", "  tick", "tick\x00",
	} {
		wrong(t, s, api.ErrKind)
	}
	// Whatever else is wrong.
	wrong(t, "Leave 65536 x", api.ErrKind)
	wrong(t, "talk  - 01", api.ErrKind)
}

func isNumber(s string) bool {
	return s != "" && strings.Trim(s, "0123456789") == ""
}

// Each number is one to ten digits, without leading zeros, and at most 2^32 - 1.
func TestParseLineOfWhatAreNoNumbers(t *testing.T) {
	bad := []string{
		"", "x", "00", "01", "007", "0000000000", "00000000007", "-0", "-1", "+0", "+1", "1.", "1.0", "1e3", "0x1", "0b1", "0o7", "1_0", "1,0", "on",
		"4294967296", "4294967300", "9999999999", "10000000000", "18446744073709551616", "18446744073709551617", "99999999999999999999999", "\t1", "1\n", "1\r", "٣", "１", "1\x00",
	}
	for _, x := range valid() {
		words := strings.Split(x.line, " ")
		for i, word := range words {
			// The digits of bytes are no number, and neither are names.
			if i == 0 || !isNumber(word) || words[0] == "join" || words[0] == "data" && i == 2 {
				continue
			}
			for _, b := range bad {
				changed := slices.Clone(words)
				changed[i] = b
				wrong(t, strings.Join(changed, " "), api.ErrForm)
			}
		}
	}
}

// What is no number of a participant, a track or a layer may still be a number.
func TestParseLineOfGreatNumbers(t *testing.T) {
	for _, s := range []string{
		"leave 65536", "leave 4294967295", "video 65536 0 7", "video 0 4 7", "audio 4294967295 0 7", "audio 0 4294967295 7", "unpublish 65536 0", "unpublish 0 4",
		"mute 65536 0 on", "mute 0 4 off", "subscribe 65536 0 0 0", "subscribe 0 65536 0 0", "subscribe 0 0 4 0", "subscribe 0 1 0 3", "subscribe 0 1 0 4294967295",
		"unsubscribe 65536 0 0", "unsubscribe 0 65536 0", "unsubscribe 0 0 4", "pause 65536 0 0 on", "pause 0 65536 0 on", "pause 0 0 4 on",
	} {
		wrong(t, s, api.ErrArg)
	}
}

func TestParseLineOfOtherArguments(t *testing.T) {
	for _, x := range valid() {
		words := strings.Split(x.line, " ")
		for n := 1; n < len(words); n++ {
			// Of several sources one is enough.
			if (words[0] == "video" || words[0] == "audio") && n > 3 {
				continue
			}
			wrong(t, strings.Join(words[:n], " "), api.ErrForm)
		}
		wrong(t, x.line+" ", api.ErrForm)
		wrong(t, x.line+" x", api.ErrForm)
		if words[0] != "video" && words[0] != "audio" {
			wrong(t, x.line+" 0", api.ErrForm)
			wrong(t, x.line+" on", api.ErrForm)
		}
	}
	for _, s := range []string{
		"tick ", "tick 1", "tick  ", "leave  1", "leave 1 ", "credit 0  1", "data", "data 0", "data 0 6", "data 0 0G", "data 0 FF", "data 0 61 62", "data 0  61", "data 0 61 ", "data 0 61\n", "data 0 0x61",
		"mute 0 0", "mute 0 0 ", "mute 0 0 yes", "mute 0 0 no", "mute 0 0 false", "mute 0 0 of", "mute 0 0 o", "mute 0 0 offf", "mute 0 0 On", "mute 0 0 1", "mute 0 0 0", "mute 0 0 onoff", "mute 0 0 on\n", "mute 0 0 on off", "mute on 0 0", "pause 0 0 0 true", "pause 0 0 on", "pause 0 0 0 OFF",
		"video", "video 0", "video 0 0", "video 0 0 ", "video 0 0 7  8", "video 0 0 7 on", "audio 0 0", "audio 0 0 7 ",
		"join", "join hall", "join hall ann bob", "join hall ann ", "join  hall ann", "join hall  ann", "join   ",
	} {
		wrong(t, s, api.ErrForm)
	}
}

// A command may have what its Check does not permit.
func TestParseLineOfWhatMayNotBe(t *testing.T) {
	long := strings.Repeat("é", 16)
	for s, want := range map[string]api.Errno{
		"join a -": api.ErrName, "join - a": api.ErrName, "join a--b c": api.ErrName, "join a b.": api.ErrName, "join  ": api.ErrName, "join  ann": api.ErrName, "join hall ": api.ErrName,
		"join a \xff": api.ErrName, "join a/b c": api.ErrName, "join a b\n": api.ErrName, "join a b\tc": api.ErrName,
		"join " + long + "e ann": api.ErrName, "join hall " + long + "e": api.ErrName, "join hall " + long: api.OK, "join hall " + strings.Repeat("é", 300): api.ErrName,
		"audio 0 0 1 2": api.ErrArg, "video 0 0 1 2 3 4": api.ErrArg, "video 0 0 1 2 1 2": api.ErrArg, "video 0 0 1 1": api.ErrThere, "video 0 0 1 2 1": api.ErrThere, "video 0 0 0 0": api.ErrThere,
		"audio 0 0 1 1": api.ErrArg, "video 0 4 1 1": api.ErrArg, "video 65536 0 1 1": api.ErrArg, "video 0 0" + strings.Repeat(" 7", 300): api.ErrArg,
		// That one does something to himself is not this layer's matter, nor whether he is there.
		"subscribe 1 1 0 0": api.OK, "leave 9": api.OK,
	} {
		if want != api.OK {
			wrong(t, s, want)
		} else if _, e := ParseLine(s); e != want {
			t.Errorf("ParseLine(%q): %d", s, e)
		}
	}
	// ErrForm goes first.
	for _, s := range []string{"join - - x", "leave 65536 0", "leave 065536", "subscribe 65536 0 9 x", "video 0 4", "video 0 0 1 1 x", "audio 65536 9 1 2 ", "mute 65536 9 yes", "pause 0 0 9", "join -"} {
		wrong(t, s, api.ErrForm)
	}
}

// spell is the line of an event.
func spell(t *testing.T, x sfu.Event) string {
	t.Helper()
	switch x.Kind {
	case sfu.Tick:
		return "tick"
	case sfu.Credit:
		return fmt.Sprintf("credit %d %d", x.Peer, x.N)
	case sfu.Datagram:
		return fmt.Sprintf("data %d %x", x.Peer, x.Text)
	}
	c, e := control.Parse(x.Text)
	if x.Kind != sfu.Control || e != api.OK || x.Peer != 0 || x.N != 0 {
		t.Fatalf("no event of a line: %+v", x)
	}
	state := map[bool]string{true: "on", false: "off"}[c.On]
	switch c.Kind {
	case control.Join:
		return fmt.Sprintf("join %s %s", c.Room, c.Name)
	case control.Leave:
		return fmt.Sprintf("leave %d", c.Peer)
	case control.Publish:
		verb := map[bool]string{true: "video", false: "audio"}[c.Video]
		return fmt.Sprintf("%s %d %d %s", verb, c.Peer, c.Track, strings.Trim(fmt.Sprint(c.Ssrcs), "[]"))
	case control.Unpublish:
		return fmt.Sprintf("unpublish %d %d", c.Peer, c.Track)
	case control.Subscribe:
		return fmt.Sprintf("subscribe %d %d %d %d", c.Peer, c.Of, c.Track, c.Layer)
	case control.Unsubscribe:
		return fmt.Sprintf("unsubscribe %d %d %d", c.Peer, c.Of, c.Track)
	case control.Mute:
		return fmt.Sprintf("mute %d %d %s", c.Peer, c.Track, state)
	}
	return fmt.Sprintf("pause %d %d %d %s", c.Peer, c.Of, c.Track, state)
}

// An event is written in one way only, so that whatever is a line is that of its event.
func spelled(t *testing.T, s string) bool {
	t.Helper()
	x, e := ParseLine(s)
	if e != api.OK && x != (sfu.Event{}) {
		t.Fatalf("ParseLine(%q): %+v, %d", s, x, e)
	}
	if e == api.OK && spell(t, x) != s {
		t.Fatalf("ParseLine(%q) is that of %q", s, spell(t, x))
	}
	return e == api.OK
}

// mutate changes a line in one place.
func mutate(r *rand.Rand, s string) string {
	at := r.Intn(len(s) + 1)
	const signs = " 0123456789abcdefxAno-+.\n\t\x00é"
	sign := signs[r.Intn(len(signs)):][:1]
	switch {
	case r.Intn(3) == 0 && at < len(s):
		return s[:at] + s[at+1:]
	case r.Intn(2) == 0 && at < len(s):
		return s[:at] + sign + s[at+1:]
	}
	return s[:at] + sign + s[at:]
}

func TestLinesHaveOneForm(t *testing.T) {
	r := rand.New(rand.NewSource(1))
	lines, others := 0, 0
	for _, x := range valid() {
		for range 3000 {
			s := mutate(r, x.line)
			if r.Intn(2) == 0 {
				s = mutate(r, s)
			}
			if spelled(t, s) {
				lines++
			} else {
				others++
			}
		}
	}
	if lines < 5000 || others < 5000 {
		t.Errorf("too little was seen: %d, %d", lines, others)
	}
}

func FuzzParseLine(f *testing.F) {
	for _, x := range valid() {
		f.Add(x.line)
	}
	f.Fuzz(func(t *testing.T, s string) { spelled(t, s) })
}

// P27.1: Parse.

func TestParse(t *testing.T) {
	tick := sfu.Event{Kind: sfu.Tick}
	credit := sfu.Event{Kind: sfu.Credit, Peer: 1, N: 2}
	many := slices.Repeat([]sfu.Event{tick}, 500)
	for s, want := range map[string][]sfu.Event{
		"":                                     nil,
		"tick":                                 {tick},
		"tick\n":                               {tick},
		"tick\ncredit 1 2":                     {tick, credit},
		"credit 1 2\ntick\n":                   {credit, tick},
		"data 0 \ndata 0 ":                     {{Kind: sfu.Datagram}, {Kind: sfu.Datagram}},
		"data 0 0a\ntick":                      {{Kind: sfu.Datagram, Text: "\n"}, tick},
		strings.Repeat("tick\n", 500):          many,
		strings.Repeat("tick\n", 499):          many[1:],
		strings.Repeat("tick\n", 499) + "tick": many,
	} {
		l, at, e := Parse(s)
		if !slices.Equal(l, want) || at != 0 || e != api.OK {
			t.Errorf("Parse(%q): %+v, %d, %d", s, l, at, e)
		}
	}
	var all []string
	var events []sfu.Event
	for _, x := range valid() {
		all, events = append(all, x.line), append(events, x.want)
	}
	for _, end := range []string{"", "\n"} {
		if l, at, e := Parse(strings.Join(all, "\n") + end); !slices.Equal(l, events) || at != 0 || e != api.OK {
			t.Errorf("Parse of all: %+v, %d, %d", l, at, e)
		}
	}
}

func TestParseErrors(t *testing.T) {
	ticks := func(n int) string { return strings.Repeat("tick\n", n) }
	for _, x := range []struct {
		s  string
		at int
		e  api.Errno
	}{
		{"\n", 0, api.ErrKind},
		{"\n\n", 0, api.ErrKind},
		{"\ntick", 0, api.ErrKind},
		{"tick\n\n", 1, api.ErrKind},
		{"tick\n\ntick", 1, api.ErrKind},
		{"tick\r\ntick\r\n", 0, api.ErrKind},
		{"tick\nleave\n", 1, api.ErrForm},
		{"tick\ntick\njoin - ann", 2, api.ErrName},
		{"leave 65536\ntalk\nleave", 0, api.ErrArg},
		{"tick\nvideo 0 0 1 1\ntalk", 1, api.ErrThere},
		{"data 0 \xff\n", 0, api.ErrForm},
		{"tick\n ", 1, api.ErrKind},
		{"tick \n", 0, api.ErrForm},
		{ticks(499) + "talk", 499, api.ErrKind},
		{ticks(499) + "leave\n", 499, api.ErrForm},
		{ticks(499) + "\n", 499, api.ErrKind},
		// 500 lines, and one more.
		{ticks(501), 501, api.ErrBig},
		{ticks(500) + "tick", 501, api.ErrBig},
		{ticks(500) + "x", 501, api.ErrBig},
		{ticks(500) + "\n", 501, api.ErrBig},
		{ticks(1000), 1000, api.ErrBig},
		// Whatever the lines are.
		{strings.Repeat("\n", 500), 0, api.ErrKind},
		{strings.Repeat("\n", 501), 501, api.ErrBig},
		{"talk\n" + ticks(500), 501, api.ErrBig},
		{strings.Repeat("\n", 100000) + "x", 100001, api.ErrBig},
	} {
		l, at, e := Parse(x.s)
		if l != nil || at != x.at || e != x.e {
			t.Errorf("Parse(%.40q): %+v, %d, %d, want %d, %d", x.s, l, at, e, x.at, x.e)
		}
	}
	if MaxLines != 500 {
		t.Errorf("MaxLines: %d", MaxLines)
	}
}

// P27.1: Line.

func TestLineOfAnswers(t *testing.T) {
	for want, o := range map[string]sfu.Output{
		"answer 0 0":     {Kind: 5},
		"answer 12 0":    {Kind: 5, To: 12},
		"answer 0 8":     {Kind: 5, Err: api.ErrPeer},
		"answer 0 16":    {Kind: 5, Err: api.ErrSsrc},
		"answer 0 3":     {Kind: 5, Err: api.ErrKind, Text: "what is not told"},
		"answer -1 -2":   {Kind: 5, To: -1, Err: -2},
		"answer 65536 1": {Kind: 5, To: 65536, Err: 1},
	} {
		if s := Line(o); s != want {
			t.Errorf("Line(%+v): %q, want %q", o, s, want)
		}
	}
}

func TestLineOfKinds(t *testing.T) {
	for kind, word := range map[int]string{
		1: "packet", 2: "again", 3: "ask", 4: "report", 0: "other", 6: "other", -1: "other", 257: "other", math.MaxInt: "other", math.MinInt: "other",
	} {
		for _, to := range []int{0, 7, -3, math.MaxInt, math.MinInt} {
			// An error is told of an Answer only.
			o := sfu.Output{Kind: kind, To: to, Text: "ab", Err: api.ErrBig}
			if s, want := Line(o), fmt.Sprintf("%s %d bytes 6162", word, to); s != want {
				t.Errorf("Line(%+v): %q, want %q", o, s, want)
			}
		}
	}
}

// describes wants bytes to be told so.
func describes(t *testing.T, text, want string) {
	t.Helper()
	for kind, word := range map[int]string{sfu.Packet: "packet", sfu.Report: "report", 9: "other"} {
		if s := Line(sfu.Output{Kind: kind, To: 1, Text: text}); s != word+" 1 "+want {
			t.Errorf("Line of kind %d and %.80x: %.80q, want %.80q", kind, text, s, want)
		}
	}
}

func TestLineOfPackets(t *testing.T) {
	for want, p := range map[string]rtp.Packet{
		"rtp 3 1 2 1":                       {Type: 96, Seq: 1, Time: 2, Ssrc: 3, Payload: "a"},
		"rtp 0 0 0 0":                       {},
		"rtp 4294967295 65535 4294967295 3": {Marker: true, Type: 127, Seq: 65535, Time: 1<<32 - 1, Ssrc: 1<<32 - 1, Payload: "xyz"},
		"rtp 2147483648 10 20 2":            {Type: 1, Seq: 10, Time: 20, Ssrc: 1 << 31, Payload: "ab", Padding: 9},
		"rtp 9 8 7 5":                       {Seq: 8, Time: 7, Ssrc: 9, Payload: "hello", Csrcs: []uint32{4, 5, 6}, Ext: true, Profile: 1, Data: "12345678", Padding: 1},
		"rtp 5 6 7 0":                       {Seq: 6, Time: 7, Ssrc: 5, Padding: 255},
		"rtp 1 2 3 1488":                    {Seq: 2, Time: 3, Ssrc: 1, Payload: strings.Repeat("x", 1488)},
	} {
		describes(t, p.Text(), want)
	}
}

func TestLineOfReports(t *testing.T) {
	reports := func(l ...rtcp.Packet) string { return rtcp.Text(l...) }
	for want, text := range map[string]string{
		"rtcp 206.1":  "\x81\xce\x00\x02\x00\x00\x00\x01\x00\x00\x00\x02", // layer 5's example
		"rtcp 200.0":  reports(rtcp.Sender{Ssrc: 1}),
		"rtcp 200.31": reports(rtcp.Sender{Blocks: make([]rtcp.Block, 31)}),
		"rtcp 201.2":  reports(rtcp.Receiver{Blocks: make([]rtcp.Block, 2)}),
		"rtcp 202.1":  reports(rtcp.Sdes{Chunks: []rtcp.Chunk{{Ssrc: 1, Items: []rtcp.Item{{Kind: 1, Text: "ann"}}}}}),
		"rtcp 203.0":  reports(rtcp.Bye{}),
		"rtcp 203.2":  reports(rtcp.Bye{Ssrcs: []uint32{1, 2}, Reason: "gone"}),
		"rtcp 205.1":  reports(rtcp.Nack{Pairs: rtcp.Pairs(1, 99, 7)}),
		"rtcp 206.4":  reports(rtcp.Fir{Orders: []rtcp.Order{{Ssrc: 1}, {Ssrc: 2}}}),
		"rtcp 206.15": reports(rtcp.Remb{Rate: 1 << 40, Ssrcs: []uint32{1}}),
		"rtcp 192.31": reports(rtcp.Other{Kind: 192, Count: 31, Body: "12345678"}),
		"rtcp 223.0":  reports(rtcp.Other{Kind: 223}),
		"rtcp 206.2":  reports(rtcp.Other{Kind: 206, Count: 2}),
		"rtcp 201.1 202.0 205.1 206.1 206.1 203.3 210.7": reports(rtcp.Receiver{Blocks: make([]rtcp.Block, 1)}, rtcp.Sdes{}, rtcp.Nack{}, rtcp.Pli{}, rtcp.Pli{To: 1},
			rtcp.Bye{Ssrcs: []uint32{1, 2, 3}}, rtcp.Other{Kind: 210, Count: 7}),
	} {
		describes(t, text, want)
	}
}

func TestLineOfOtherBytes(t *testing.T) {
	for text, want := range map[string]string{
		"":     "bytes ",
		"\x00": "bytes 00",
		"\x80": "bytes 80",
		"ab":   "bytes 6162",
		// They begin like a packet, and are none.
		"\x80\x60":                              "bytes 8060",
		"\x90\x60" + strings.Repeat("\x00", 10): "bytes 9060" + strings.Repeat("00", 10),
		"\xa0\x60" + strings.Repeat("\x00", 11): "bytes a060" + strings.Repeat("00", 11),
		"\xc0\x60" + strings.Repeat("\x00", 10): "bytes c060" + strings.Repeat("00", 10),
		// They begin like reports, and are none; a parser of packets would take the last ones.
		"\x81\xce\x00\x02":                           "bytes 81ce0002",
		rtcp.Text(rtcp.Pli{From: 1, To: 2}) + "x":    "bytes 81ce0002000000010000000278",
		"\x80\xc8" + strings.Repeat("\x00", 10):      "bytes 80c8" + strings.Repeat("00", 10),
		"\x80\xdf\x00\x09" + strings.Repeat("a", 20): "bytes 80df0009" + strings.Repeat("61", 20),
		// More bytes than a packet, or reports, may have.
		"\x80\x60" + strings.Repeat("\x00", 1499):                         "bytes 8060" + strings.Repeat("00", 1499),
		rtcp.Text(rtcp.Other{Kind: 192, Body: strings.Repeat("a", 1500)}): "bytes 80c00177" + strings.Repeat("61", 1500),
	} {
		describes(t, text, want)
	}
}

// P27.1: Run.

// told is the line of what an sfu sends: by its kind, and not by what its bytes look like.
func told(t *testing.T, o sfu.Output) string {
	t.Helper()
	switch o.Kind {
	case sfu.Packet, sfu.Again:
		p, e := rtp.Parse(o.Text)
		if e != api.OK {
			t.Fatalf("no packet: %+v", o)
		}
		word := map[int]string{sfu.Packet: "packet", sfu.Again: "again"}[o.Kind]
		return fmt.Sprintf("%s %d rtp %d %d %d %d", word, o.To, p.Ssrc, p.Seq, p.Time, len(p.Payload))
	case sfu.Ask:
		return fmt.Sprintf("ask %d rtcp 206.1", o.To)
	case sfu.Report:
		return fmt.Sprintf("report %d rtcp 200.0", o.To)
	case sfu.Answer:
		return fmt.Sprintf("answer %d %d", o.To, o.Err)
	}
	t.Fatalf("no output: %+v", o)
	return ""
}

func TestRun(t *testing.T) {
	s := newSfu(t)
	if l := Run(s); len(l) > 0 || s.Now() != 0 {
		t.Errorf("Run of nothing: %q", l)
	}
	l, _, _ := Parse("join hall ann\njoin hall bob\nvideo 0 0 7\nsubscribe 1 0 0 0\ntick")
	want := []string{"answer 0 0", "answer 1 0", "answer 0 0", "answer 0 0", "ask 0 rtcp 206.1"}
	if got := Run(s, l...); !slices.Equal(got, want) {
		t.Errorf("Run: %q", got)
	}
	// It goes on with the same sfu, with events of any kind.
	tick := sfu.Event{Kind: sfu.Tick}
	if got := Run(s, tick, tick, sfu.Event{Kind: sfu.Control, Text: "\x63"}, sfu.Event{}, sfu.Event{Kind: 9}, sfu.Event{Kind: sfu.Datagram, Peer: 5}); !slices.Equal(got, []string{"ask 0 rtcp 206.1", "answer 0 3"}) {
		t.Errorf("Run, again: %q", got)
	}
	if s.Now() != 3 || s.Bad() != 1 || len(s.Links()) != 1 {
		t.Errorf("after Run: %d, %d, %v", s.Now(), s.Bad(), s.Links())
	}
}

// All events at once, one by one, or the sfu alone: it is the same.
func TestRunIsStepByStep(t *testing.T) {
	for seed := range int64(20) {
		x := act(seed)
		once, single, alone := newSfu(t), newSfu(t), newSfu(t)
		before := slices.Clone(x.events)
		all := Run(once, x.events...)
		if !slices.Equal(x.events, before) {
			t.Fatal("Run has changed the events")
		}
		var apart, want []string
		for _, e := range x.events {
			apart = append(apart, Run(single, e)...)
			for _, o := range alone.Step(e) {
				want = append(want, told(t, o))
			}
		}
		if !slices.Equal(all, want) || !slices.Equal(apart, want) {
			t.Fatalf("seed %d: Run: %q, one by one: %q, want %q", seed, all, apart, want)
		}
	}
}

// P27.1: Play.

func plays(t *testing.T, s string, want ...string) {
	t.Helper()
	l, at, e := Play(config(), s)
	if !slices.Equal(l, want) || at != 0 || e != api.OK {
		t.Errorf("Play(%.200q): %d, %d:\n%s\nwant:\n%s", s, at, e, strings.Join(l, "\n"), strings.Join(want, "\n"))
	}
}

// data is the line of a packet.
func data(who int, p rtp.Packet) string {
	return fmt.Sprintf("data %d %x\n", who, p.Text())
}

func picture(seq uint16, payload string) rtp.Packet {
	return rtp.Packet{Marker: true, Type: 96, Seq: seq, Time: 10 * uint32(seq), Ssrc: 7, Payload: payload}
}

func TestPlay(t *testing.T) {
	plays(t, "")
	plays(t, "tick")
	plays(t, "join hall ann\ntick", "answer 0 0") // the document's example
	plays(t, "join hall ann\njoin Hall ANN\nleave 9\nleave 0\nleave 0", "answer 0 0", "answer 0 10", "answer 0 8", "answer 0 0", "answer 0 8")
	start := "join hall ann\njoin hall bob\nvideo 0 0 7\nsubscribe 1 0 0 0\n"
	begun := []string{"answer 0 0", "answer 1 0", "answer 0 0", "answer 0 0", "ask 0 rtcp 206.1"}
	key := data(0, picture(5, "\x10\x00key"))
	plays(t, start, begun...)
	plays(t, start+key+"credit 1 100", append(begun, "packet 1 rtp 2147483648 1 50 5")...)
	plays(t, start+data(0, picture(4, "\x10\x01oth"))+key+"credit 1 4\ncredit 1 1", append(begun, "packet 1 rtp 2147483648 1 50 5")...)
	// What was sent is sent again; and as the key frame waits too long, another one is requested.
	nack := fmt.Sprintf("data 1 %x\n", rtcp.Text(rtcp.Nack{To: 1 << 31, Pairs: rtcp.Pairs(1)}))
	plays(t, start+key+"credit 1 100\n"+nack, append(begun, "packet 1 rtp 2147483648 1 50 5", "again 1 rtp 2147483648 1 50 5")...)
	plays(t, start+key+strings.Repeat("tick\n", 10), append(begun, "ask 0 rtcp 206.1")...)
	// A report is told to the subscriber.
	sender := fmt.Sprintf("data 0 %x\n", rtcp.Text(rtcp.Sender{Ssrc: 7, Ntp: 1 << 32, Time: 60}))
	plays(t, start+key+"credit 1 100\n"+sender+strings.Repeat("tick\n", 25), append(begun, "packet 1 rtp 2147483648 1 50 5", "report 1 rtcp 200.0")...)
	// Bad datagrams, and credit for nobody.
	plays(t, "data 0 \ndata 0 8060\ncredit 5 100\njoin hall ann\ndata 0 ffff\ncredit 4294967295 4294967295", "answer 0 0")
}

// Each verb does what it says.
func TestPlayOfEveryVerb(t *testing.T) {
	s := "join hall ann\njoin hall bob\nvideo 0 0 7 8 9\naudio 0 1 17\nsubscribe 1 0 0 1\nsubscribe 1 0 1 0\nmute 0 1 on\npause 1 0 0 on\ncredit 1 50\ntick\ntick"
	u := newSfu(t)
	play := func(s string) {
		t.Helper()
		l, _, e := Parse(s)
		if e != api.OK {
			t.Fatalf("Parse(%q): %d", s, e)
		}
		Run(u, l...)
	}
	play(s)
	pictures, sounds := access.Key{Peer: 0, Track: 0}, access.Key{Peer: 0, Track: 1}
	track, _ := u.Track(pictures)
	if !reflect.DeepEqual(track, access.Track{Video: true, Ssrcs: []uint32{7, 8, 9}}) {
		t.Errorf("video: %+v", track)
	}
	if track, _ := u.Track(sounds); !reflect.DeepEqual(track, access.Track{Muted: true, Ssrcs: []uint32{17}}) {
		t.Errorf("audio and mute: %+v", track)
	}
	if sub, ok := u.Sub(access.Link{Who: 1, Of: pictures}); !ok || sub != (access.Sub{Layer: 1, Paused: true}) {
		t.Errorf("subscribe and pause: %+v, %t", sub, ok)
	}
	if u.Now() != 2 || u.Credit(1) != 50 || u.Credit(0) != 0 {
		t.Errorf("tick and credit: %d, %d", u.Now(), u.Credit(1))
	}
	play("mute 0 1 off\npause 1 0 0 off\nunsubscribe 1 0 1\ndata 1 00")
	if track, _ := u.Track(sounds); track.Muted {
		t.Error("mute off")
	}
	if sub, _ := u.Sub(access.Link{Who: 1, Of: pictures}); sub.Paused || len(u.Links()) != 1 || u.Bad() != 1 {
		t.Errorf("pause off, unsubscribe, data: %+v, %v, %d", sub, u.Links(), u.Bad())
	}
	play("unpublish 0 1\nleave 1")
	if _, ok := u.Track(sounds); ok || len(u.Links()) != 0 || len(u.In("hall")) != 1 {
		t.Errorf("unpublish and leave: %v, %v", u.Links(), u.In("hall"))
	}
}

func TestPlayErrors(t *testing.T) {
	good, bad := config(), config()
	bad.Reports = 0
	for _, x := range []struct {
		c  sfu.Config
		s  string
		at int
		e  api.Errno
	}{
		{good, "tick\ntick\nleave", 2, api.ErrForm},
		{good, "tick\ntalk\nleave", 1, api.ErrKind},
		{good, "\n", 0, api.ErrKind},
		{good, "join hall ann\njoin hall -", 1, api.ErrName},
		{good, strings.Repeat("tick\n", 501), 501, api.ErrBig},
		{bad, "", 0, api.ErrArg},
		{bad, "tick\ntick", 0, api.ErrArg},
		{sfu.Config{}, "tick", 0, api.ErrArg},
		// The script goes first.
		{bad, "tick\ntick\nleave", 2, api.ErrForm},
		{bad, strings.Repeat("tick\n", 501), 501, api.ErrBig},
	} {
		if l, at, e := Play(x.c, x.s); l != nil || at != x.at || e != x.e {
			t.Errorf("Play(%.40q): %q, %d, %d, want %d, %d", x.s, l, at, e, x.at, x.e)
		}
	}
}

// A payload may be so long that it does not fit into a packet any more once it has other numbers.
func TestPlayOfTheLongestPayload(t *testing.T) {
	c := config()
	c.Ingress.Frame.Bytes, c.Egress.Bytes, c.Egress.Most, c.Share = 2000, 2000, 2000, 2000
	payload := "\x90\x80\x05\x00" + strings.Repeat("x", 1484)
	l, _, e := Play(c, "join hall ann\njoin hall bob\nvideo 0 0 7\nsubscribe 1 0 0 0\ncredit 1 9999\n"+data(0, picture(5, payload)))
	if len(l) != 6 || e != api.OK || !strings.HasPrefix(l[5], "packet 1 bytes 80e00001") {
		t.Errorf("Play: %q, %d", l, e)
	}
}

// P27.1: Names.

func TestNames(t *testing.T) {
	join := func(room, name string) sfu.Event {
		return sfu.Event{Kind: sfu.Control, Text: control.Command{Kind: control.Join, Room: room, Name: name}.Text()}
	}
	leave := sfu.Event{Kind: sfu.Control, Text: "\x02\x00\x00"}
	tick := sfu.Event{Kind: sfu.Tick}
	ann := join("Hall", "Ann")
	for i, x := range []struct {
		l    []sfu.Event
		want []string
	}{
		{nil, nil},
		{[]sfu.Event{tick, leave, {}}, nil},
		{[]sfu.Event{ann, tick}, []string{"hall/ann"}},
		{[]sfu.Event{join("b", "B"), leave, join("Ä-1", "ÉLAN_x"), tick, join("b", "b")}, []string{"b/b", "ä-1/élan_x", "b/b"}},
		// What would be one, if it were a Control, or a command.
		{[]sfu.Event{{Kind: sfu.Datagram, Text: ann.Text}, {Kind: sfu.Tick, Text: ann.Text}, {Kind: sfu.Credit, Text: ann.Text}, {Kind: 0, Text: ann.Text}, {Kind: 5, Text: ann.Text}}, nil},
		{[]sfu.Event{{Kind: sfu.Control}, {Kind: sfu.Control, Text: ann.Text + "x"}, {Kind: sfu.Control, Text: ann.Text[:5]}, join("-", "a"), join("a", ""), ann}, []string{"hall/ann"}},
		// What a Control does not use.
		{[]sfu.Event{{Kind: sfu.Control, Text: ann.Text, Peer: 7, N: -1}}, []string{"hall/ann"}},
	} {
		if l := Names(x.l...); !slices.Equal(l, x.want) {
			t.Errorf("Names %d: %q, want %q", i, l, x.want)
		}
	}
	l, _, _ := Parse("join Hall Ann\nvideo 0 0 7\njoin HALL Bob\nleave 0\njoin hall ann")
	if got := Names(l...); !slices.Equal(got, []string{"hall/ann", "hall/bob", "hall/ann"}) {
		t.Errorf("Names: %q", got)
	}
}
