package vp8

import (
	"math/rand"
	"testing"

	"antiphon/api"
)

// with changes a plain descriptor.
func with(change func(*Desc)) Desc {
	d := Plain()
	change(&d)
	return d
}

// full has everything that a descriptor may have.
func full() Desc {
	return Desc{NonRef: true, Start: true, Part: 3, Picture: 300, Wide: true, Level: 7, Layer: 2, Sync: true, Key: 9}
}

const fullText = "\xb3\xf0\x81\x2c\x07\xa9"

// encodings are descriptors, and their bytes.
var encodings = []struct {
	d    Desc
	text string
}{
	{Plain(), "\x00"},
	{full(), fullText},
	{with(func(d *Desc) { d.Start, d.Picture = true, 5 }), "\x90\x80\x05"}, // the document's example
	{with(func(d *Desc) { d.NonRef = true }), "\x20"},
	{with(func(d *Desc) { d.Start = true }), "\x10"},
	{with(func(d *Desc) { d.Part = 7 }), "\x07"},
	{with(func(d *Desc) { d.NonRef, d.Start, d.Part = true, true, 5 }), "\x35"},
	{with(func(d *Desc) { d.Picture = 0 }), "\x80\x80\x00"},
	{with(func(d *Desc) { d.Picture = 127 }), "\x80\x80\x7f"},
	{with(func(d *Desc) { d.Picture, d.Wide = 0, true }), "\x80\x80\x80\x00"},
	{with(func(d *Desc) { d.Picture, d.Wide = 127, true }), "\x80\x80\x80\x7f"},
	{with(func(d *Desc) { d.Picture, d.Wide = 128, true }), "\x80\x80\x80\x80"},
	{with(func(d *Desc) { d.Picture, d.Wide = 0x1234, true }), "\x80\x80\x92\x34"},
	{with(func(d *Desc) { d.Picture, d.Wide = 32767, true }), "\x80\x80\xff\xff"},
	{with(func(d *Desc) { d.Level = 0 }), "\x80\x40\x00"},
	{with(func(d *Desc) { d.Level = 255 }), "\x80\x40\xff"},
	{with(func(d *Desc) { d.Layer = 0 }), "\x80\x20\x00"},
	{with(func(d *Desc) { d.Layer = 1 }), "\x80\x20\x40"},
	{with(func(d *Desc) { d.Layer, d.Sync = 0, true }), "\x80\x20\x20"},
	{with(func(d *Desc) { d.Layer, d.Sync = 3, true }), "\x80\x20\xe0"},
	{with(func(d *Desc) { d.Key = 0 }), "\x80\x10\x00"},
	{with(func(d *Desc) { d.Key = 31 }), "\x80\x10\x1f"},
	{with(func(d *Desc) { d.Layer, d.Key = 2, 17 }), "\x80\x30\x91"},
	{with(func(d *Desc) { d.Layer, d.Sync, d.Key = 0, true, 0 }), "\x80\x30\x20"},
	{with(func(d *Desc) { d.Picture, d.Level = 1, 2 }), "\x80\xc0\x01\x02"},
	{with(func(d *Desc) { d.Level, d.Key = 1, 2 }), "\x80\x50\x01\x02"},
	{Desc{}, "\x80\xf0\x00\x00\x00"}, // in which everything is present, and 0
}

// P4.1: Plain, Check and Text.

func TestPlain(t *testing.T) {
	if d := Plain(); d != (Desc{Picture: -1, Level: -1, Layer: -1, Key: -1}) {
		t.Errorf("Plain: %+v", d)
	}
}

func TestCheck(t *testing.T) {
	for i, c := range encodings {
		if e := c.d.Check(); e != api.OK {
			t.Errorf("%d: Check of %+v returns %d", i, c.d, e)
		}
	}
	for i, c := range []struct {
		d    Desc
		want api.Errno
	}{
		{with(func(d *Desc) { d.Part = -1 }), api.ErrArg},
		{with(func(d *Desc) { d.Part = 8 }), api.ErrArg},
		{with(func(d *Desc) { d.Picture = -2 }), api.ErrArg},
		{with(func(d *Desc) { d.Picture, d.Wide = 32768, true }), api.ErrArg},
		{with(func(d *Desc) { d.Level = -2 }), api.ErrArg},
		{with(func(d *Desc) { d.Level = 256 }), api.ErrArg},
		{with(func(d *Desc) { d.Layer = -2 }), api.ErrArg},
		{with(func(d *Desc) { d.Layer = 4 }), api.ErrArg},
		{with(func(d *Desc) { d.Key = -2 }), api.ErrArg},
		{with(func(d *Desc) { d.Key = 32 }), api.ErrArg},
		{with(func(d *Desc) { d.Key = 1<<63 - 1 }), api.ErrArg},
		{with(func(d *Desc) { d.Part = -1 << 63 }), api.ErrArg},
		{with(func(d *Desc) { d.Wide = true }), api.ErrForm},
		{with(func(d *Desc) { d.Picture = 128 }), api.ErrForm},
		{with(func(d *Desc) { d.Picture = 32767 }), api.ErrForm},
		{with(func(d *Desc) { d.Sync = true }), api.ErrForm},
		{with(func(d *Desc) { d.Sync, d.Key = true, 3 }), api.ErrForm},
		// The first error is returned.
		{with(func(d *Desc) { d.Wide, d.Key = true, 32 }), api.ErrArg},
		{with(func(d *Desc) { d.Picture, d.Level = 128, -2 }), api.ErrArg},
		{with(func(d *Desc) { d.Sync, d.Layer = true, -2 }), api.ErrArg},
		{with(func(d *Desc) { d.Picture = 32768 }), api.ErrArg},
	} {
		if e := c.d.Check(); e != c.want {
			t.Errorf("%d: Check of %+v returns %d, want %d", i, c.d, e, c.want)
		}
	}
}

func TestText(t *testing.T) {
	for _, c := range encodings {
		if s := c.d.Text(); s != c.text {
			t.Errorf("Text of %+v is %x, want %x", c.d, s, c.text)
		}
	}
}

// K6: no descriptor makes a call panic.
func TestTextOfWhatMayNotBe(t *testing.T) {
	for _, n := range []int{-1 << 63, -2, -1, 256, 1 << 40, 1<<63 - 1} {
		for _, set := range []bool{false, true} {
			d := Desc{NonRef: set, Start: set, Part: n, Picture: n, Wide: set, Level: n, Layer: n, Sync: set, Key: n}
			if s := d.Text(); len(s) < 1 || len(s) > 6 {
				t.Errorf("Text of %+v: %x", d, s)
			}
			d.With(n, n)
			Keyframe(d, "\x00")
		}
	}
}

// P4.1: Parse.

func TestParse(t *testing.T) {
	for _, c := range encodings {
		for _, rest := range []string{"", "\x00", "\xff\xff", "more"} {
			d, got, e := Parse(c.text + rest)
			if d != c.d || got != rest || e != api.OK {
				t.Errorf("Parse(%x) returns %+v, %x, %d, want %+v, %x", c.text+rest, d, got, e, c.d, rest)
			}
		}
	}
}

func TestParseIgnoresOtherBits(t *testing.T) {
	for _, c := range []struct {
		text string
		want Desc
	}{
		{"\x48", Plain()},
		{"\x80\x00", Plain()},
		{"\x80\x0f", Plain()},
		{"\xc8\x0f", Plain()},
		{"\xc8\x8f\x05", with(func(d *Desc) { d.Picture = 5 })},
		// Without a layer its bits are ignored, and without a key the key's.
		{"\x80\x10\xff", with(func(d *Desc) { d.Key = 31 })},
		{"\x80\x10\xe0", with(func(d *Desc) { d.Key = 0 })},
		{"\x80\x20\xff", with(func(d *Desc) { d.Layer, d.Sync = 3, true })},
		{"\x80\x20\x1f", with(func(d *Desc) { d.Layer = 0 })},
	} {
		if d, rest, e := Parse(c.text + "x"); d != c.want || rest != "x" || e != api.OK {
			t.Errorf("Parse(%x) returns %+v, %q, %d, want %+v", c.text, d, rest, e, c.want)
		}
	}
}

// A descriptor can be cut nowhere.
func TestParseErrors(t *testing.T) {
	for _, c := range encodings {
		for n := range len(c.text) {
			if d, rest, e := Parse(c.text[:n]); d != (Desc{}) || rest != "" || e != api.ErrEnd {
				t.Errorf("Parse(%x) returns %+v, %q, %d", c.text[:n], d, rest, e)
			}
		}
	}
	// The second byte of a wide number is missing, and nothing else.
	if d, rest, e := Parse("\x80\x80\x85"); d != (Desc{}) || rest != "" || e != api.ErrEnd {
		t.Errorf("Parse returns %+v, %q, %d", d, rest, e)
	}
}

// P4.1: Keyframe and With.

func TestKeyframe(t *testing.T) {
	for i, c := range []struct {
		d    Desc
		rest string
		want bool
	}{
		{Desc{Start: true}, "\x00", true},
		{Desc{Start: true}, "\x10", true},
		{Desc{Start: true}, "\xfe\x01", true},
		{full(), "\x00", false},
		{Desc{Start: true}, "", false},
		{Desc{Start: true}, "\x01", false},
		{Desc{Start: true}, "\xff\x00", false},
		{Desc{Start: true, Part: 1}, "\x00", false},
		{Desc{Start: true, Part: -1}, "\x00", false},
		{Desc{}, "\x00", false},
		{with(func(d *Desc) { d.Start, d.NonRef = true, true }), "\x00", true},
	} {
		if Keyframe(c.d, c.rest) != c.want {
			t.Errorf("%d: Keyframe is not %v", i, c.want)
		}
	}
}

func TestWith(t *testing.T) {
	for _, c := range []struct {
		d              Desc
		picture, level int
		want           Desc
	}{
		{Plain(), 5, 6, Plain()},
		{full(), 5, 6, Desc{NonRef: true, Start: true, Part: 3, Picture: 5, Wide: true, Level: 6, Layer: 2, Sync: true, Key: 9}},
		// A narrow number becomes wide.
		{with(func(d *Desc) { d.Picture = 5 }), 6, 7, with(func(d *Desc) { d.Picture, d.Wide = 6, true })},
		{with(func(d *Desc) { d.Picture = 0 }), 0, 7, with(func(d *Desc) { d.Picture, d.Wide = 0, true })},
		{with(func(d *Desc) { d.Level = 0 }), 6, 7, with(func(d *Desc) { d.Level = 7 })},
		{with(func(d *Desc) { d.Layer, d.Key = 0, 0 }), 6, 7, with(func(d *Desc) { d.Layer, d.Key = 0, 0 })},
		// The numbers are reduced.
		{Desc{}, 32767, 255, Desc{Picture: 32767, Wide: true, Level: 255}},
		{Desc{}, 32768, 256, Desc{Picture: 0, Wide: true, Level: 0}},
		{Desc{}, 32768*3 + 4, 256*5 + 6, Desc{Picture: 4, Wide: true, Level: 6}},
		{Desc{}, -1, -1, Desc{Picture: 32767, Wide: true, Level: 255}},
		{Desc{}, -32768, -256, Desc{Picture: 0, Wide: true, Level: 0}},
		{Desc{}, -32769, -257, Desc{Picture: 32767, Wide: true, Level: 255}},
		{Desc{}, 1<<63 - 1, -1 << 63, Desc{Picture: 32767, Wide: true, Level: 0}},
	} {
		before := c.d
		if d := c.d.With(c.picture, c.level); d != c.want {
			t.Errorf("With(%d, %d) of %+v returns %+v, want %+v", c.picture, c.level, c.d, d, c.want)
		}
		if c.d != before {
			t.Errorf("With has changed %+v", before)
		}
	}
}

// P4.2.

func TestParseInvertsText(t *testing.T) {
	random := rand.New(rand.NewSource(4))
	valid := 0
	for range 20000 {
		d := Desc{NonRef: random.Intn(2) == 0, Start: random.Intn(2) == 0, Part: random.Intn(8),
			Picture: random.Intn(32769) - 1, Wide: random.Intn(2) == 0, Level: random.Intn(257) - 1,
			Layer: random.Intn(5) - 1, Sync: random.Intn(2) == 0, Key: random.Intn(33) - 1}
		switch random.Intn(3) {
		case 0:
			d.Picture = -1
		case 1:
			d.Picture = random.Intn(128)
		}
		if d.Check() != api.OK {
			continue
		}
		valid++
		if x, rest, e := Parse(d.Text() + "rest"); x != d || rest != "rest" || e != api.OK {
			t.Fatalf("Parse of the Text of %+v returns %+v, %q, %d", d, x, rest, e)
		}
	}
	if valid < 5000 {
		t.Errorf("only %d descriptors were valid", valid)
	}
}

// K6: any bytes; what Parse returns is valid, and its Text is no longer.
func FuzzParse(f *testing.F) {
	f.Add(fullText + "rest")
	f.Add("\x80\x80\x85")
	f.Fuzz(func(t *testing.T, s string) {
		d, rest, e := Parse(s)
		if e != api.OK {
			if d != (Desc{}) || rest != "" || e != api.ErrEnd {
				t.Errorf("Parse(%x) returns %+v, %q, %d", s, d, rest, e)
			}
			return
		}
		if d.Check() != api.OK || len(d.Text())+len(rest) > len(s) {
			t.Errorf("Parse(%x) returns %+v, %q", s, d, rest)
		}
		if x, again, _ := Parse(d.Text() + rest); x != d || again != rest {
			t.Errorf("the Text of Parse(%x) is parsed otherwise", s)
		}
	})
}
