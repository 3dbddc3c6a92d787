package label

import (
	"math/rand"
	"slices"
	"strings"
	"testing"
	"unicode"
	"unicode/utf8"

	"antiphon/api"
)

// P6.1: Class.

func TestClasses(t *testing.T) {
	if Bad != 0 || Letter != 1 || Digit != 2 || Joint != 3 {
		t.Errorf("the classes are %d, %d, %d, %d", Bad, Letter, Digit, Joint)
	}
}

func TestClass(t *testing.T) {
	for r, want := range map[rune]int{
		'-': Joint, '_': Joint, '.': Joint,
		'a': Letter, 'Z': Letter, 'é': Letter, 'ß': Letter, '字': Letter, 'ǅ': Letter, 'ʰ': Letter, 'ª': Letter, 0x10400: Letter,
		'0': Digit, '9': Digit, '٣': Digit, '９': Digit, 0x1d7ce: Digit,
		// Numbers that are not decimal digits, marks, and everything else.
		'²': Bad, '½': Bad, 'Ⅷ': Bad, '\u0301': Bad, ' ': Bad, '/': Bad, ',': Bad, '+': Bad, '‐': Bad, '–': Bad, '·': Bad, '😀': Bad,
		0: Bad, '\n': Bad, 0x7f: Bad, 0xd800: Bad, 0xdfff: Bad, utf8.RuneError: Bad, utf8.MaxRune: Bad,
		utf8.MaxRune + 1: Bad, -1: Bad, -1 << 31: Bad, 1<<31 - 1: Bad, 'a' - 1<<31: Bad, '-' - 256: Bad, '-' + 256: Letter,
	} {
		if got := Class(r); got != want {
			t.Errorf("Class(%x) is %d, want %d", r, got, want)
		}
	}
}

func TestClassOfAllRunes(t *testing.T) {
	for r := rune(-10); r < utf8.MaxRune+10; r++ {
		want := Bad
		switch {
		case r == '-' || r == '_' || r == '.':
			want = Joint
		case unicode.In(r, unicode.L):
			want = Letter
		case unicode.In(r, unicode.Nd):
			want = Digit
		}
		if got := Class(r); got != want {
			t.Fatalf("Class(%x) is %d, want %d", r, got, want)
		}
	}
}

// P6.1: Check.

func names() []string {
	return []string{
		"a", "Z", "7", "é", "字", "٣", "ab", "a-b", "a_b", "a.b", "a-b_c.d", "7.7", "Ab-7", "é字",
		"abcdefghijklmnop", "a-b-c-d-e-f-g-hi", strings.Repeat("字", 16), strings.Repeat("\U00010400", 16),
	}
}

func TestCheck(t *testing.T) {
	for _, s := range names() {
		if e := Check(s); e != api.OK {
			t.Errorf("Check(%q) returns %d", s, e)
		}
	}
	for _, s := range []string{
		"", "-", "_", ".", "-a", "_a", ".a", "a-", "a_", "a.", "a--b", "a..b", "a-_b", "a._b", "a-b--", "--",
		" ", "a b", "a/b", "a\n", "\x00", "😀", "a😀", "e\u0301",
		"abcdefghijklmnopq", "abcdefghijklmnop-", "a-b-c-d-e-f-g-h-i", strings.Repeat("字", 17), strings.Repeat("a", 1<<20),
		// What is not valid UTF-8: a byte alone, a rune that is cut, one that is too long, a surrogate.
		"\xff", "a\xff", "\xffa", "a\x80b", "\xc3", "a\xe5\xad", "\xc0\xaf", "\xc1\xa1", "\xed\xa0\x80", "\xf4\x90\x80\x80", "\ufffd",
	} {
		if e := Check(s); e != api.ErrName {
			t.Errorf("Check(%q) returns %d", s, e)
		}
	}
}

// Check is held against the definition, for all short texts of some runes.
func TestCheckOfAllShortTexts(t *testing.T) {
	texts := []string{""}
	for range 5 {
		var longer []string
		for _, s := range texts {
			want := api.OK
			if !isName(s) {
				want = api.ErrName
			}
			if e := Check(s); e != want {
				t.Fatalf("Check(%q) returns %d, want %d", s, e, want)
			}
			for _, part := range []string{"a", "字", "7", "-", "_", ".", " ", "\x80"} {
				longer = append(longer, s+part)
			}
		}
		texts = longer
	}
}

// isName is the definition, for texts that are not too long.
func isName(s string) bool {
	joint := func(r rune) bool { return Class(r) == Joint }
	l := []rune(s)
	if len(l) == 0 || !utf8.ValidString(s) || joint(l[0]) || joint(l[len(l)-1]) {
		return false
	}
	for i, r := range l {
		if Class(r) == Bad || i > 0 && joint(r) && joint(l[i-1]) {
			return false
		}
	}
	return true
}

// P6.1: Fold and Same.

func TestFold(t *testing.T) {
	for s, want := range map[string]string{
		"a": "a", "A": "a", "AbC": "abc", "ÄbC": "äbc", "Ab-7_X.y": "ab-7_x.y", "ẞ": "ß", "ß": "ß", "Σ": "σ", "ς": "ς", "字": "字", "٣": "٣",
		"İ": "i", "ǅ": "ǆ", "\u212a": "k", "\U00010400": "\U00010428",
	} {
		if got := Fold(s); got != want {
			t.Errorf("Fold(%q) is %q, want %q", s, got, want)
		}
	}
}

func TestSame(t *testing.T) {
	for _, c := range []struct {
		a, b string
		want bool
	}{
		{"a", "a", true},
		{"a", "A", true},
		{"Ann", "aNN", true},
		{"É", "é", true},
		{"K", "\u212a", true},
		{"a", "b", false},
		{"a", "ab", false},
		{"a-b", "a_b", false},
		{"e", "é", false},
		// They have the same capital letter, but not the same small one.
		{"σ", "ς", false},
		{"ss", "ß", false},
		{"7", "٧", false},
	} {
		if Same(c.a, c.b) != c.want || Same(c.b, c.a) != c.want {
			t.Errorf("Same(%q, %q) is not %v", c.a, c.b, c.want)
		}
	}
}

// P6.1: Short and Len.

func TestShort(t *testing.T) {
	for _, c := range []struct {
		s    string
		n    int
		want string
	}{
		{"abc", 0, ""},
		{"abc", -1, ""},
		{"abc", -1 << 63, ""},
		{"abc", 1, "a"},
		{"abc", 2, "ab"},
		{"abc", 3, "abc"},
		{"abc", 4, "abc"},
		{"abc", 1<<63 - 1, "abc"},
		{"a-b", 1, "a"},
		{"a-b", 2, "a"},
		{"a-b", 3, "a-b"},
		{"a_b.c", 2, "a"},
		{"a_b.c", 4, "a_b"},
		{"a_b.c", 5, "a_b.c"},
		{"é-b", 1, "é"},
		{"é-b", 2, "é"},
		{"字字字", 2, "字字"},
		{"字.字", 3, "字.字"},
	} {
		if got := Short(c.s, c.n); got != c.want {
			t.Errorf("Short(%q, %d) is %q, want %q", c.s, c.n, got, c.want)
		}
	}
}

func TestLen(t *testing.T) {
	for s, want := range map[string]int{"a": 1, "a-b": 3, "é字": 2, "abcdefghijklmnop": 16, strings.Repeat("\U00010400", 16): 16} {
		if got := Len(s); got != want {
			t.Errorf("Len(%q) is %d, want %d", s, got, want)
		}
	}
}

// P6.1: Split.

func TestSplit(t *testing.T) {
	for s, want := range map[string][]string{
		"a":                             {"a"},
		"a/b-c":                         {"a", "b-c"},
		"a/a":                           {"a", "a"},
		"Hall/ann/é字":                   {"Hall", "ann", "é字"},
		strings.Repeat("a/", 999) + "a": slices.Repeat([]string{"a"}, 1000),
		strings.Repeat("字", 16) + "/a":  {strings.Repeat("字", 16), "a"},
	} {
		if l, ok := Split(s); !ok || !slices.Equal(l, want) {
			t.Errorf("Split(%q) returns %q, %v", s, l, ok)
		}
	}
	for _, s := range []string{"", "/", "a/", "/a", "a//b", "a/b-", "-a/b", "a b/c", "a/\xff", "a/b/c/ ", "a\\b", strings.Repeat("a", 17) + "/b"} {
		if l, ok := Split(s); ok || l != nil {
			t.Errorf("Split(%q) returns %q, %v", s, l, ok)
		}
	}
}

// P6.2.

func TestShortIsANameOrEmpty(t *testing.T) {
	random := rand.New(rand.NewSource(6))
	for range 20000 {
		s := anyName(random)
		for n := range 18 {
			short := Short(s, n)
			if short != "" && Check(short) != api.OK {
				t.Fatalf("Short(%q, %d) is %q", s, n, short)
			}
			if !strings.HasPrefix(s, short) || Len(short) > n || Len(short) < min(n, Len(s))-1 {
				t.Fatalf("Short(%q, %d) is %q", s, n, short)
			}
		}
	}
}

// anyName returns a name of any length.
func anyName(random *rand.Rand) string {
	parts := []string{"a", "B", "7", "é", "字", "-", "_", "."}
	for {
		var s string
		for range 1 + random.Intn(16) {
			s += parts[random.Intn(len(parts))]
		}
		if Check(s) == api.OK {
			return s
		}
	}
}

func TestFoldTwice(t *testing.T) {
	for r := rune(0); r <= utf8.MaxRune; r++ {
		s := string(r)
		if Check(s) != api.OK {
			continue
		}
		once := Fold(s)
		if Fold(once) != once || once != string(unicode.ToLower(r)) {
			t.Fatalf("Fold(%q) is %q, and twice %q", s, once, Fold(once))
		}
		if Check(once) != api.OK || !Same(s, once) {
			t.Fatalf("Fold(%q) is %q", s, once)
		}
	}
}

// K6: any text and number.
func FuzzName(f *testing.F) {
	f.Add("a-b", 2)
	f.Add("\xffa-", 1)
	f.Fuzz(func(t *testing.T, s string, n int) {
		short := Short(s, n)
		if !strings.HasPrefix(s, short) {
			t.Errorf("Short(%q, %d) is %q", s, n, short)
		}
		if Check(s) == api.OK && (short != "" && Check(short) != api.OK || Len(s) > api.MaxName || !Same(s, s)) {
			t.Errorf("%q is a name", s)
		}
		if l, ok := Split(s); ok && strings.Join(l, "/") != s {
			t.Errorf("Split(%q) returns %q", s, l)
		}
		if Fold(Fold(s)) != Fold(s) {
			t.Errorf("Fold(%q) is %q", s, Fold(s))
		}
	})
}
