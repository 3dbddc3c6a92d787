package script

import (
	"cmp"
	"strconv"
	"strings"

	"antiphon/api"
	"antiphon/control"
	"antiphon/sfu"
)

// blank separates the words of a line.
const blank = " "

// The verbs.
const (
	verbAudio       = "audio"
	verbCredit      = "credit"
	verbData        = "data"
	verbJoin        = "join"
	verbLeave       = "leave"
	verbMute        = "mute"
	verbPause       = "pause"
	verbSubscribe   = "subscribe"
	verbTick        = "tick"
	verbUnpublish   = "unpublish"
	verbUnsubscribe = "unsubscribe"
	verbVideo       = "video"
)

// Verbs: all, rising.
func Verbs() []string {
	return []string{
		verbAudio, verbCredit, verbData, verbJoin, verbLeave, verbMute, verbPause,
		verbSubscribe, verbTick, verbUnpublish, verbUnsubscribe, verbVideo,
	}
}

// ParseLine: an event of a line.
func ParseLine(s string) (sfu.Event, api.Errno) {
	w := &words{left: s, more: true}
	// The words are taken in the order in which the fields stand here.
	switch w.next() {
	case verbTick:
		return w.event(sfu.Event{Kind: sfu.Tick})
	case verbCredit:
		return w.event(sfu.Event{Kind: sfu.Credit, Peer: w.number(), N: w.number()})
	case verbData:
		return w.event(sfu.Event{Kind: sfu.Datagram, Peer: w.number(), Text: w.bytes()})
	case verbJoin:
		return w.command(control.Command{Kind: control.Join, Room: w.next(), Name: w.next()})
	case verbLeave:
		return w.command(control.Command{Kind: control.Leave, Peer: w.number()})
	case verbVideo:
		return w.command(control.Command{Kind: control.Publish, Peer: w.number(), Track: w.number(), Video: true, Ssrcs: w.sources()})
	case verbAudio:
		return w.command(control.Command{Kind: control.Publish, Peer: w.number(), Track: w.number(), Ssrcs: w.sources()})
	case verbUnpublish:
		return w.command(control.Command{Kind: control.Unpublish, Peer: w.number(), Track: w.number()})
	case verbMute:
		return w.command(control.Command{Kind: control.Mute, Peer: w.number(), Track: w.number(), On: w.on()})
	case verbSubscribe:
		return w.command(control.Command{Kind: control.Subscribe, Peer: w.number(), Of: w.number(), Track: w.number(), Layer: w.number()})
	case verbUnsubscribe:
		return w.command(control.Command{Kind: control.Unsubscribe, Peer: w.number(), Of: w.number(), Track: w.number()})
	case verbPause:
		return w.command(control.Command{Kind: control.Pause, Peer: w.number(), Of: w.number(), Track: w.number(), On: w.on()})
	}
	return sfu.Event{}, api.ErrKind
}

// words are those of a line that are left; one that is missing or wrong stays so.
type words struct {
	left  string
	more  bool // is there another one? It may be empty.
	wrong bool
}

// next is the next word.
func (w *words) next() string {
	if !w.more {
		w.wrong = true
		return ""
	}
	word, left, more := strings.Cut(w.left, blank)
	w.left, w.more = left, more
	return word
}

// number is the next word, a number of 32 bits.
func (w *words) number() int {
	word := w.next()
	n, err := strconv.ParseUint(word, 10, 32)
	// It is written as numbers are, so that it has no leading zeros.
	if err != nil || strconv.FormatUint(n, 10) != word {
		w.wrong = true
		return 0
	}
	return int(n)
}

// sources are all words that are left, at least one.
func (w *words) sources() []uint32 {
	l := []uint32{uint32(w.number())}
	for w.more {
		l = append(l, uint32(w.number()))
	}
	return l
}

// bytes is the next word, digits of bytes.
func (w *words) bytes() string {
	s, ok := Bytes(w.next())
	if !ok {
		w.wrong = true
	}
	return s
}

// on is the next word, on or off.
func (w *words) on() bool {
	switch w.next() {
	case "on":
		return true
	case "off":
		return false
	}
	w.wrong = true
	return false
}

// end is ErrForm, unless the words were those that were asked for, and no more.
func (w *words) end() api.Errno {
	if w.wrong || w.more {
		return api.ErrForm
	}
	return api.OK
}

// event is an event of the words, which are all taken.
func (w *words) event(x sfu.Event) (sfu.Event, api.Errno) {
	if e := w.end(); e != api.OK {
		return sfu.Event{}, e
	}
	return x, api.OK
}

// command is the event of a command of the words, which are all taken.
func (w *words) command(c control.Command) (sfu.Event, api.Errno) {
	if e := cmp.Or(w.end(), c.Check()); e != api.OK {
		return sfu.Event{}, e
	}
	return sfu.Event{Kind: sfu.Control, Text: c.Text()}, api.OK
}
