package script

import (
	"strconv"
	"strings"

	"antiphon/api"
	"antiphon/rtcp"
	"antiphon/rtp"
	"antiphon/sfu"
)

// Line: an output.
func Line(o sfu.Output) string {
	line := []string{kindWord(o.Kind), strconv.Itoa(o.To)}
	if o.Kind == sfu.Answer {
		line = append(line, strconv.Itoa(int(o.Err)))
	} else {
		line = append(line, describe(o.Text)...)
	}
	return strings.Join(line, blank)
}

// kindWord is the word of a kind of outputs.
func kindWord(kind int) string {
	switch kind {
	case sfu.Packet:
		return "packet"
	case sfu.Again:
		return "again"
	case sfu.Ask:
		return "ask"
	case sfu.Report:
		return "report"
	case sfu.Answer:
		return "answer"
	}
	return "other"
}

// describe says in words what bytes are.
func describe(s string) []string {
	// What begins like reports may be parsed as a packet, too.
	if rtp.Is(s) {
		if p, e := rtp.Parse(s); e == api.OK {
			return describePacket(p)
		}
	}
	if l, e := rtcp.Parse(s); e == api.OK {
		return describeReports(l)
	}
	return []string{"bytes", Digits(s)}
}

func describePacket(p rtp.Packet) []string {
	line := []string{"rtp"}
	for _, n := range []int{int(p.Ssrc), int(p.Seq), int(p.Time), len(p.Payload)} {
		line = append(line, strconv.Itoa(n))
	}
	return line
}

func describeReports(l []rtcp.Packet) []string {
	line := []string{"rtcp"}
	for _, p := range l {
		kind, count := p.Head()
		line = append(line, strconv.Itoa(int(kind))+"."+strconv.Itoa(int(count)))
	}
	return line
}
