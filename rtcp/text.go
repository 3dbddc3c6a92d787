package rtcp

import (
	"antiphon/octet"
)

// Text: packets, one behind the other, as bytes.
func Text(l ...Packet) string {
	var w octet.Writer
	for _, p := range l {
		kind, count := p.Head()
		s := body(p)
		w.U8(version<<6|count&maxCount, kind).U16(uint16(len(s) / word)).Put(s)
	}
	return w.Text()
}

// body: what stands behind the header, in whole words.
func body(p Packet) string {
	var w octet.Writer
	switch p := p.(type) {
	case Sender:
		p.put(&w)
	case Receiver:
		w.U32(p.Ssrc)
		putBlocks(&w, p.Blocks)
	case Sdes:
		p.put(&w)
	case Bye:
		p.put(&w)
	case Nack:
		p.put(&w)
	case Pli:
		w.U32(p.From, p.To)
	case Fir:
		p.put(&w)
	case Remb:
		p.put(&w)
	case Other:
		w.Put(p.Body)
	}
	return w.Pad(word).Text()
}

func (p Sender) put(w *octet.Writer) {
	w.U32(p.Ssrc).Num(8, p.Ntp).U32(p.Time, p.Packets, p.Octets)
	putBlocks(w, p.Blocks)
}

func putBlocks(w *octet.Writer, l []Block) {
	for _, b := range l {
		w.U32(b.Ssrc).U8(b.Lost).Num(3, uint64(b.Total)).U32(b.Last, b.Jitter, b.Lsr, b.Dlsr)
	}
}

func (p Sdes) put(w *octet.Writer) {
	for _, c := range p.Chunks {
		w.U32(c.Ssrc)
		for _, i := range c.Items {
			w.U8(i.Kind)
			putText(w, i.Text)
		}
		w.U8(0).Pad(word)
	}
}

// putText writes a text behind the number of its bytes; of one that may not be as much as the number says.
func putText(w *octet.Writer, s string) {
	n := byte(len(s))
	w.U8(n).Put(s[:n])
}

func (p Bye) put(w *octet.Writer) {
	w.U32(p.Ssrcs...)
	if p.Reason != "" {
		putText(w, p.Reason)
	}
}

func (p Nack) put(w *octet.Writer) {
	w.U32(p.From, p.To)
	for _, pair := range p.Pairs {
		w.U16(pair.Pid, pair.Blp)
	}
}

func (p Fir) put(w *octet.Writer) {
	w.U32(p.From, 0)
	for _, o := range p.Orders {
		w.U32(o.Ssrc).U8(o.Seq, 0, 0, 0)
	}
}

func (p Remb) put(w *octet.Writer) {
	value, shift := scale(p.Rate)
	w.U32(p.From, 0).Put(rembMark).U8(byte(len(p.Ssrcs))).Num(3, uint64(shift)<<rateBits|value).U32(p.Ssrcs...)
}
