package tokens

import (
	"slices"
	"strings"
	"sync"
	"testing"
	"unicode"
	"unicode/utf8"

	"grapevine/api"
)

// notUTF8 are bytes of each kind that is no UTF-8: alone, cut short, overlong,
// a surrogate, beyond the last rune, and such bytes among letters.
func notUTF8() []string {
	return []string{
		"\xff", "\x80", "\xc3", "\xe4\xb8", "\xf0\x9f\x98", "\xc0\x80", "\xe0\x80\x80",
		"\xed\xa0\x80", "\xf4\x90\x80\x80", "a\xff", "\xffa", "a b\xc3", "a\xc3 b",
		"\xc3" + strings.Repeat("a", 500),
	}
}

// numbered lays words out as Of must: numbered from 0.
func numbered(texts ...string) []api.Word {
	var words []api.Word
	for i, s := range texts {
		words = append(words, api.Word{Text: s, At: i})
	}
	return words
}

func TestMayBounds(t *testing.T) {
	two := "\u00e9" // two bytes
	for _, c := range []struct {
		name string
		s    string
		want bool
	}{
		{"empty", "", true},
		{"ordinary", "To be, OR", true},
		{"a zero byte", "a\x00b", true},
		{"the rune for what is no rune, written out", "\ufffd", true},
		{"the last rune", "\U0010ffff", true},
		{"MaxText bytes", strings.Repeat("a", api.MaxText), true},
		{"a byte more", strings.Repeat("a", api.MaxText+1), false},
		{"MaxText bytes of longer runes", strings.Repeat(two, api.MaxText/2), true},
		{"a byte more behind longer runes", strings.Repeat(two, api.MaxText/2) + "a", false},
		{"fewer runes than MaxText, but more bytes", strings.Repeat(two, api.MaxText/2+1), false},
		{"MaxText bytes, the last one cut short", strings.Repeat("a", api.MaxText-1) + "\xc3", false},
	} {
		if got := May(c.s); got != c.want {
			t.Errorf("P1.1: May of %s: %v", c.name, got)
		}
	}
}

func TestOfWords(t *testing.T) {
	for _, c := range []struct {
		s    string
		want []api.Word
	}{
		{"", nil},
		{" ", nil},
		{"?!,. -_\n\x00", nil},
		{"To be, OR", numbered("to", "be", "or")},
		{"a", numbered("a")},
		{"..a", numbered("a")},
		{"a..", numbered("a")},
		{"a\x00b\nc\td", numbered("a", "b", "c", "d")},
		{"be BE Be", numbered("be", "be", "be")},
		{"x2y 33 4z", numbered("x2y", "33", "4z")},
		{"it's a_b", numbered("it", "s", "a", "b")},
		{"\u00c9T\u00c9-ok", numbered("\u00e9t\u00e9", "ok")},
		{"\u4e16\u754c \u0663\u0664", numbered("\u4e16\u754c", "\u0663\u0664")},
		{"a\u00b2b", numbered("a", "b")},           // a digit raised is no digit
		{"e\u0301a", numbered("e", "a")},           // a mark is no letter
		{"\u2160a\u24b6", numbered("a")},           // lower forms, but no letters
		{"a\ufffdb", numbered("a", "b")},           // valid, and no letter
		{"\u03a3\u03a3", numbered("\u03c3\u03c3")}, // each rune for itself
		{"\U00010400\U0001d7d8", numbered("\U00010428\U0001d7d8")},
		{"\u0130\u212a x\u023a \u1e9e", numbered("ik", "x\u2c65", "\u00df")},
	} {
		if got := Of(c.s); !slices.Equal(got, c.want) {
			t.Errorf("P1.1: Of(%q): %v, not %v", c.s, got, c.want)
		}
	}
}

func TestOfBounds(t *testing.T) {
	full := strings.Repeat("a", api.MaxText)
	if got := Of(full); !slices.Equal(got, numbered(full)) {
		t.Errorf("P1.1: Of MaxText bytes: %v", got)
	}
	if got := Of(full + "a"); len(got) != 0 {
		t.Errorf("P1.1: Of a byte more: %v", got)
	}
	if got := Of(full + " "); len(got) != 0 {
		t.Errorf("P1.1: Of a byte more, that is no letter: %v", got)
	}
	many := Of(strings.Repeat("a ", api.MaxText/2))
	if len(many) != api.MaxText/2 || many[len(many)-1].At != api.MaxText/2-1 {
		t.Errorf("P1.1: Of as many words as may be: %v", many)
	}
	// The bound is the text's: a normed word may have more bytes.
	grown := Of(strings.Repeat("\u023a", api.MaxText/2))
	if !slices.Equal(grown, numbered(strings.Repeat("\u2c65", api.MaxText/2))) {
		t.Errorf("P1.1: Of a word that grows when normed: %v", grown)
	}
}

func TestNorm(t *testing.T) {
	for _, c := range []struct{ s, want string }{
		{"", ""},
		{"To be, OR", "to be, or"},
		{"already low 1", "already low 1"},
		{"X\n\x00", "x\n\x00"},
		{"\u00c9\u0130\u023a", "\u00e9i\u2c65"},
		{"\u212a\u2126\u1e9e", "k\u03c9\u00df"},
		{"\u01c5\u2160\u24b6", "\u01c6\u2170\u24d0"}, // not only upper letters have a lower form
		{"\u03a3\u03a3 ", "\u03c3\u03c3 "},
		{"\u4e16\ufffd\U0010ffff", "\u4e16\ufffd\U0010ffff"},
		{"\U00010400", "\U00010428"},
	} {
		if got := Norm(c.s); got != c.want {
			t.Errorf("P1.1: Norm(%q): %q, not %q", c.s, got, c.want)
		}
	}
}

func TestOne(t *testing.T) {
	for _, c := range []struct {
		s    string
		want bool
	}{
		{"", false}, {"a", true}, {"A", true}, {"a1", true}, {"1", true}, {"a b", false},
		{" a", false}, {"a ", false}, {"-", false}, {"a-", false}, {"_", false}, {"\x00", false},
		{"\u00e9\u4e16\u0663", true}, {"\U00010400\U0001d7d8", true}, {"\u00b2", false},
		{"e\u0301", false}, {"\u2160", false}, {"\ufffd", false}, {"a\ufffd", false},
	} {
		if got := One(c.s); got != c.want {
			t.Errorf("P1.1: One(%q): %v", c.s, got)
		}
	}
}

func TestNormAndOneBeyondMaxText(t *testing.T) {
	for _, many := range []int{api.MaxText, api.MaxText + 1, 1 << 20} {
		upper, lower := strings.Repeat("\u023a", many), strings.Repeat("\u2c65", many)
		if Norm(upper) != lower {
			t.Errorf("P1.1: Norm of %d runes", many)
		}
		if !One(upper) {
			t.Errorf("P1.1: One of %d letters", many)
		}
		if One(upper + ".") {
			t.Errorf("P1.1: One of %d letters and another rune", many)
		}
		if Norm(upper+"\xff") != "" || One(upper+"\xff") {
			t.Errorf("P1.1: %d letters, and a byte that is no UTF-8", many)
		}
	}
}

func TestNotUTF8(t *testing.T) {
	for _, s := range notUTF8() {
		if May(s) {
			t.Errorf("P1.1: May(%q)", s)
		}
		if got := Of(s); len(got) != 0 {
			t.Errorf("P1.1: Of(%q): %v", s, got)
		}
		if got := Norm(s); got != "" {
			t.Errorf("P1.1: Norm(%q): %q", s, got)
		}
		if One(s) {
			t.Errorf("P1.1: One(%q)", s)
		}
	}
}

// TestEachRune holds each rune there is between two letters.
func TestEachRune(t *testing.T) {
	for r := rune(0); r <= unicode.MaxRune; r++ {
		if !utf8.ValidRune(r) {
			continue
		}
		low, isLetter := string(unicode.ToLower(r)), unicode.IsLetter(r) || unicode.IsDigit(r)
		want := numbered("x", "y")
		if isLetter {
			want = numbered("x" + low + "y")
		}
		s := "X" + string(r) + "Y"
		if got := Of(s); !slices.Equal(got, want) {
			t.Fatalf("P1.1: Of(%q): %v, not %v", s, got, want)
		}
		if got := Norm(s); got != "x"+low+"y" {
			t.Fatalf("P1.1: Norm(%q): %q", s, got)
		}
		if One(s) != isLetter || One(string(r)) != isLetter {
			t.Fatalf("P1.1: One(%q)", s)
		}
	}
}

func TestAnswersAreApart(t *testing.T) {
	first, second := Of("To be"), Of("To be")
	first[0].Text = "changed"
	_ = append(first[:1], api.Word{Text: "changed"})
	if !slices.Equal(second, numbered("to", "be")) {
		t.Errorf("R4: another answer was changed: %v", second)
	}
	if got := Of("To be"); !slices.Equal(got, numbered("to", "be")) {
		t.Errorf("R5: a later answer was changed: %v", got)
	}
}

func TestFromSeveralGoroutines(t *testing.T) {
	var all sync.WaitGroup
	for range 8 {
		all.Go(func() {
			for range 100 {
				if !slices.Equal(Of("To be, OR"), numbered("to", "be", "or")) || Norm("To") != "to" || !One("To") || !May("To") {
					t.Error("R5: unlike answers at one time")
				}
			}
		})
	}
	all.Wait()
}
