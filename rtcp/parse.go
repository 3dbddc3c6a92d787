package rtcp

import (
	"math/bits"

	"antiphon/api"
	"antiphon/octet"
)

// Parse: all packets of a datagram.
func Parse(s string) ([]Packet, api.Errno) {
	if len(s) > api.MaxDatagram {
		return nil, api.ErrBig
	}
	r := octet.Read(s)
	l := []Packet{takePacket(r)}
	for r.Len() > 0 {
		l = append(l, takePacket(r))
	}
	if e := r.Err(); e != api.OK {
		return nil, e
	}
	return l, api.OK
}

// takePacket reads a header, and what it says stands behind it; every error becomes the reader's.
func takePacket(r *octet.Reader) Packet {
	first, kind := r.U8(), r.U8()
	if first>>6 != version || kind < minKind || kind > maxKind {
		r.Fail(api.ErrForm)
	}
	s := r.Bytes(word * int(r.U16()))
	if first&padded != 0 {
		n, ok := padding(s)
		if !ok || r.Len() > 0 {
			r.Fail(api.ErrForm)
		}
		s = s[:len(s)-n]
	}
	b := octet.Read(s)
	p := take(b, kind, first&maxCount)
	r.Fail(b.End())
	return p
}

// padding: how many bytes at the end are padding, by what the last one of them says.
func padding(s string) (int, bool) {
	if s == "" {
		return 0, false
	}
	n := int(s[len(s)-1])
	if n == 0 || n%word != 0 || n > len(s) {
		return 0, false
	}
	return n, true
}

// take reads the body of a packet; kind and count say of which type it is.
func take(r *octet.Reader, kind, count byte) Packet {
	switch kind {
	case kindSender:
		return takeSender(r, count)
	case kindReceiver:
		return Receiver{Ssrc: r.U32(), Blocks: takeBlocks(r, count)}
	case kindSdes:
		return takeSdes(r, count)
	case kindBye:
		return takeBye(r, count)
	}
	switch {
	case kind == kindTransport && count == countNack:
		return takeNack(r)
	case kind == kindPicture && count == countPli:
		return Pli{From: r.U32(), To: r.U32()}
	case kind == kindPicture && count == countFir:
		return takeFir(r)
	case kind == kindPicture && count == countRemb:
		return takeRemb(r)
	}
	return Other{Kind: kind, Count: count, Body: r.Rest()}
}

func takeSender(r *octet.Reader, count byte) Sender {
	return Sender{Ssrc: r.U32(), Ntp: r.Num(8), Time: r.U32(), Packets: r.U32(), Octets: r.U32(), Blocks: takeBlocks(r, count)}
}

func takeBlocks(r *octet.Reader, count byte) []Block {
	var l []Block
	for range count {
		l = append(l, Block{Ssrc: r.U32(), Lost: r.U8(), Total: uint32(r.Num(3)), Last: r.U32(), Jitter: r.U32(), Lsr: r.U32(), Dlsr: r.U32()})
	}
	return l
}

func takeSdes(r *octet.Reader, count byte) Sdes {
	var p Sdes
	for range count {
		p.Chunks = append(p.Chunks, takeChunk(r))
	}
	return p
}

func takeChunk(r *octet.Reader) Chunk {
	c := Chunk{Ssrc: r.U32()}
	for kind := r.U8(); kind != 0; kind = r.U8() {
		c.Items = append(c.Items, Item{Kind: kind, Text: takeText(r)})
	}
	// The body has whole words, so that what is left beside whole words belongs to the chunk's last one.
	r.Bytes(r.Len() % word)
	return c
}

// takeText reads a text behind the number of its bytes.
func takeText(r *octet.Reader) string {
	return r.Bytes(int(r.U8()))
}

func takeBye(r *octet.Reader, count byte) Bye {
	p := Bye{Ssrcs: takeSsrcs(r, int(count))}
	if r.Len() > 0 {
		p.Reason = takeText(r)
		r.Rest()
	}
	return p
}

func takeSsrcs(r *octet.Reader, n int) []uint32 {
	var l []uint32
	for range n {
		l = append(l, r.U32())
	}
	return l
}

func takeNack(r *octet.Reader) Nack {
	p := Nack{From: r.U32(), To: r.U32()}
	for r.Len() > 0 {
		p.Pairs = append(p.Pairs, Pair{Pid: r.U16(), Blp: r.U16()})
	}
	return p
}

func takeFir(r *octet.Reader) Fir {
	p := Fir{From: r.U32()}
	r.U32()
	for r.Len() > 0 {
		p.Orders = append(p.Orders, Order{Ssrc: r.U32(), Seq: r.U8()})
		r.Bytes(3)
	}
	return p
}

func takeRemb(r *octet.Reader) Remb {
	p := Remb{From: r.U32()}
	r.U32()
	mark, n, x := r.Bytes(len(rembMark)), int(r.U8()), r.Num(3)
	value, shift := x&(1<<rateBits-1), int(x>>rateBits)
	// Only now is an error told, because one of missing bytes goes ahead of it.
	switch {
	case mark != rembMark:
		r.Fail(api.ErrForm)
	case bits.Len64(value)+shift > 64:
		r.Fail(api.ErrBig)
	case r.Len() != word*n:
		r.Fail(api.ErrForm)
	}
	p.Rate = value << shift
	p.Ssrcs = takeSsrcs(r, n)
	return p
}
