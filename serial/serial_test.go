package serial

import "testing"

// short and long: types of one's own are numbers, too.
type short uint16
type long uint32

// distOf is Dist by the document's words: a minus b modulo the modulus, minus the modulus if that is Half or more.
func distOf(a, b, modulus int64) int {
	d := ((a-b)%modulus + modulus) % modulus
	if d >= modulus/2 {
		d -= modulus
	}
	return int(d)
}

// edges16 and edges32 lie around 0, Half, and the greatest number.
var edges16 = []uint16{0, 1, 2, 5, 255, 256, 32766, 32767, 32768, 32769, 65530, 65534, 65535}

var edges32 = []uint32{0, 1, 2, 65535, 65536, 1<<31 - 2, 1<<31 - 1, 1 << 31, 1<<31 + 1, 1<<32 - 2, 1<<32 - 1}

// P1.1: Dist and Ahead.

func TestDistOf16Bits(t *testing.T) {
	for _, b := range edges16 {
		for n := range 1 << 16 {
			a := uint16(n)
			want := distOf(int64(a), int64(b), 1<<16)
			if got := Dist(a, b); got != want {
				t.Fatalf("Dist(%d, %d) = %d, want %d", a, b, got, want)
			}
			if got := Ahead(a, b); got != (want > 0) {
				t.Fatalf("Ahead(%d, %d) = %v", a, b, got)
			}
		}
	}
}

func TestDistOf32Bits(t *testing.T) {
	for _, a := range edges32 {
		for _, b := range edges32 {
			want := distOf(int64(a), int64(b), 1<<32)
			if got := Dist(a, b); got != want {
				t.Errorf("Dist(%d, %d) = %d, want %d", a, b, got, want)
			}
			if got := Ahead(a, b); got != (want > 0) {
				t.Errorf("Ahead(%d, %d) = %v", a, b, got)
			}
		}
	}
}

func TestDistAtHalf(t *testing.T) {
	for _, c := range []struct {
		a, b uint16
		want int
	}{
		{2, 65535, 3}, // the document's example
		{32767, 0, 32767},
		{32768, 0, -32768},
		{0, 32768, -32768},
		{0, 32769, 32767},
	} {
		if got := Dist(c.a, c.b); got != c.want {
			t.Errorf("16 bits: Dist(%d, %d) = %d, want %d", c.a, c.b, got, c.want)
		}
	}
	for _, c := range []struct {
		a, b uint32
		want int
	}{
		{2, 1<<32 - 1, 3},
		{1<<31 - 1, 0, 1<<31 - 1},
		{1 << 31, 0, -1 << 31},
		{0, 1 << 31, -1 << 31},
		{0, 1<<31 + 1, 1<<31 - 1},
		{1 << 16, 0, 1 << 16}, // it wraps around at 32 bits, not at 16
	} {
		if got := Dist(c.a, c.b); got != c.want {
			t.Errorf("32 bits: Dist(%d, %d) = %d, want %d", c.a, c.b, got, c.want)
		}
	}
}

func TestTypesOfOnesOwn(t *testing.T) {
	if got := Dist(short(2), short(65535)); got != 3 {
		t.Errorf("Dist of short = %d, want 3", got)
	}
	if got := Dist(long(2), long(1<<32-1)); got != 3 {
		t.Errorf("Dist of long = %d, want 3", got)
	}
	if got := Add(short(65535), 2); got != 1 {
		t.Errorf("Add of short = %d, want 1", got)
	}
	if got := Near(65530, short(4)); got != 65540 {
		t.Errorf("Near of short = %d, want 65540", got)
	}
	if got := Latest(long(1<<32-1), 3, 1); got != 3 {
		t.Errorf("Latest of long = %d, want 3", got)
	}
}

// P1.1: Add.

func TestAdd(t *testing.T) {
	for _, c := range []struct {
		a    uint16
		by   int
		want uint16
	}{
		{5, 0, 5},
		{5, 3, 8},
		{65535, 1, 0},
		{0, -1, 65535},
		{7, 1 << 16, 7},
		{7, -1 << 16, 7},
		{7, 3<<16 + 1, 8},
		{7, -3<<16 - 8, 65535},
		{1, 1<<63 - 1, 0},
		{1, -1 << 63, 1},
	} {
		if got := Add(c.a, c.by); got != c.want {
			t.Errorf("16 bits: Add(%d, %d) = %d, want %d", c.a, c.by, got, c.want)
		}
	}
	for _, c := range []struct {
		a    uint32
		by   int
		want uint32
	}{
		{5, 3, 8},
		{65535, 1, 65536},
		{1<<32 - 1, 1, 0},
		{0, -1, 1<<32 - 1},
		{7, 1 << 32, 7},
		{7, -5<<32 - 8, 1<<32 - 1},
		{1, 1<<63 - 1, 0},
		{1, -1 << 63, 1},
	} {
		if got := Add(c.a, c.by); got != c.want {
			t.Errorf("32 bits: Add(%d, %d) = %d, want %d", c.a, c.by, got, c.want)
		}
	}
}

// P1.1: Latest.

func TestLatest(t *testing.T) {
	for i, c := range []struct {
		first uint16
		l     []uint16
		want  uint16
	}{
		{7, nil, 7},
		{7, []uint16{}, 7},
		{7, []uint16{7, 7}, 7},
		{7, []uint16{9, 8}, 9},
		{65000, []uint16{64000, 100, 65500, 50}, 100},
		{0, []uint16{32768}, 0},               // neither is ahead
		{0, []uint16{32767, 32768}, 32768},    // each is held against the latest one so far, not against the first
		{0, []uint16{30000, 60000, 1}, 1},     // so it goes round
		{0, []uint16{40000, 30000}, 30000},    // 40000 is behind 0
		{10, []uint16{5, 11, 4, 12, 11}, 12},  // not the last one
		{1, []uint16{65535, 65534, 65533}, 1}, // not the greatest one
	} {
		if got := Latest(c.first, c.l...); got != c.want {
			t.Errorf("%d: Latest(%d, %v) = %d, want %d", i, c.first, c.l, got, c.want)
		}
	}
	if got := Latest(uint32(1<<32-2), 1<<31-2, 5, 1<<32-1); got != 5 {
		t.Errorf("32 bits: Latest = %d, want 5", got)
	}
}

func TestLatestLeavesItsArguments(t *testing.T) {
	l := []uint16{3, 9, 4}
	Latest(1, l...)
	if l[0] != 3 || l[1] != 9 || l[2] != 4 {
		t.Errorf("the arguments are %v now", l)
	}
}

// P1.1: Near.

func TestNear(t *testing.T) {
	for _, c := range []struct {
		at   int64
		a    uint16
		want int64
	}{
		{65530, 4, 65540}, // the document's example
		{65540, 65530, 65530},
		{0, 65535, -1},
		{0, 32767, 32767},
		{0, 32768, -32768},
		{-3, 5, 5},
		{-65536, 65535, -65537},
		{1 << 50, 1, 1<<50 + 1},
		{1 << 50, 65535, 1<<50 - 1},
		{-1 << 50, 65535, -1<<50 - 1},
	} {
		if got := Near(c.at, c.a); got != c.want {
			t.Errorf("16 bits: Near(%d, %d) = %d, want %d", c.at, c.a, got, c.want)
		}
	}
	for _, c := range []struct {
		at   int64
		a    uint32
		want int64
	}{
		{1<<32 - 6, 4, 1<<32 + 4},
		{1<<32 + 4, 1<<32 - 6, 1<<32 - 6},
		{0, 1<<32 - 1, -1},
		{0, 1<<31 - 1, 1<<31 - 1},
		{0, 1 << 31, -1 << 31},
		{-3, 5, 5},
		{1 << 50, 1<<32 - 1, 1<<50 - 1},
		{-1 << 50, 1, -1<<50 + 1},
	} {
		if got := Near(c.at, c.a); got != c.want {
			t.Errorf("32 bits: Near(%d, %d) = %d, want %d", c.at, c.a, got, c.want)
		}
	}
}

func TestNearIsTheNearestThatGoesRoundToIt(t *testing.T) {
	for at := int64(-200_000); at <= 200_000; at += 317 {
		for _, a := range edges16 {
			n := Near(at, a)
			if uint16(n) != a || n-at < -32768 || n-at > 32767 {
				t.Fatalf("Near(%d, %d) = %d", at, a, n)
			}
		}
	}
}

// P1.2.

func TestOneOfTwoIsAhead(t *testing.T) {
	for _, a := range edges16 {
		for n := range 1 << 16 {
			b := uint16(n)
			want := 1
			if a == b || a-b == 1<<15 {
				want = 0
			}
			if got := howManyAhead(a, b); got != want {
				t.Fatalf("of %d and %d, %d are ahead, want %d", a, b, got, want)
			}
		}
	}
	for _, a := range edges32 {
		for _, b := range edges32 {
			want := 1
			if a == b || a-b == 1<<31 {
				want = 0
			}
			if got := howManyAhead(a, b); got != want {
				t.Errorf("of %d and %d, %d are ahead, want %d", a, b, got, want)
			}
		}
	}
}

func howManyAhead[N Number](a, b N) int {
	n := 0
	if Ahead(a, b) {
		n++
	}
	if Ahead(b, a) {
		n++
	}
	return n
}

// P1.3.

func TestDistOfWhatWasAdded(t *testing.T) {
	for _, a := range edges16 {
		for by := -1 << 15; by < 1<<15; by++ {
			if got := Dist(Add(a, by), a); got != by {
				t.Fatalf("Dist(Add(%d, %d), %d) = %d", a, by, a, got)
			}
		}
	}
	for _, a := range edges32 {
		for _, by := range []int{-1 << 31, -1<<31 + 1, -1 << 16, -1, 0, 1, 65535, 1 << 16, 1<<31 - 2, 1<<31 - 1} {
			if got := Dist(Add(a, by), a); got != by {
				t.Errorf("Dist(Add(%d, %d), %d) = %d", a, by, a, got)
			}
		}
	}
}

func TestDistOfMoreThanHalfGoesRound(t *testing.T) {
	if got := Dist(Add(uint16(9), 1<<15), 9); got != -1<<15 {
		t.Errorf("16 bits, Half: %d", got)
	}
	if got := Dist(Add(uint16(9), -1<<15-1), 9); got != 1<<15-1 {
		t.Errorf("16 bits, below -Half: %d", got)
	}
	if got := Dist(Add(uint32(9), 1<<31), 9); got != -1<<31 {
		t.Errorf("32 bits, Half: %d", got)
	}
}
