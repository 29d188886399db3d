package index

import (
	"cmp"
	"math"
	"math/rand/v2"
	"slices"
	"strings"
	"sync"
	"testing"
	"unicode"

	"grapevine/api"
)

// key, rec, stands, some and posts are short forms of a Key, a record, a Post, Keys and a list.
func key(origin, seq int) api.Key { return api.Key{Origin: origin, Seq: seq} }
func rec(k api.Key, text string) api.Record {
	return api.Record{Key: k, Stamp: api.Stamp{Wall: 7, Count: 2}, Text: text}
}
func stands(k api.Key, places ...int) api.Post { return api.Post{Key: k, At: places} }
func some(ks ...api.Key) []api.Key             { return ks }
func posts(ps ...api.Post) []api.Post          { return ps }

// Keys, the lesser one first.
var (
	a        = key(0, 1)
	b        = key(0, 2)
	c        = key(1, 1)
	d        = key(2, 900)
	e        = key(7, 3)
	least    = key(math.MinInt, math.MinInt)
	greatest = key(math.MaxInt, math.MaxInt)
)

// equal tells whether two lists are the same.
func equal(l, m []api.Post) bool {
	return slices.EqualFunc(l, m, func(p, q api.Post) bool { return p.Key == q.Key && slices.Equal(p.At, q.At) })
}

// filled is an index into which records were put, in their order.
func filled(rs ...api.Record) *Index {
	x := New()
	for _, r := range rs {
		x.Put(r)
	}
	return x
}

// wordsOf are the words of a text that may be, told apart from the program's own way.
func wordsOf(text string) []string {
	return strings.FieldsFunc(strings.ToLower(text), func(r rune) bool { return !unicode.In(r, unicode.L, unicode.Nd) })
}

// listOf is where, in records whose Keys rise, those words stand that are asked for.
func listOf(rs []api.Record, asked func(string) bool) []api.Post {
	var l []api.Post
	for _, r := range rs {
		p := api.Post{Key: r.Key}
		for i, w := range wordsOf(r.Text) {
			if asked(w) {
				p.At = append(p.At, i)
			}
		}
		if len(p.At) > 0 {
			l = append(l, p)
		}
	}
	return l
}

// has asks that an index is one of just these records: all that it can be asked, with each beginning of each word.
func has(t *testing.T, name string, x *Index, rs ...api.Record) {
	t.Helper()
	rs = slices.SortedFunc(slices.Values(rs), func(r, s api.Record) int {
		return cmp.Or(cmp.Compare(r.Origin, s.Origin), cmp.Compare(r.Seq, s.Seq))
	})
	var ks []api.Key
	var words []string
	for _, r := range rs {
		ks, words = append(ks, r.Key), append(words, wordsOf(r.Text)...)
	}
	slices.Sort(words)
	words = slices.Compact(words)
	if got := x.Keys(); !slices.Equal(got, ks) {
		t.Errorf("P11.1: %s: Keys are %v, not %v", name, got, ks)
	}
	if got := x.Words(); !slices.Equal(got, words) {
		t.Errorf("P11.1: %s: Words are %q, not %q", name, got, words)
	}
	for _, word := range append(words, "", "x9x") {
		for end := range len(word) + 1 {
			w := word[:end]
			if got, want := x.Word(w), listOf(rs, func(v string) bool { return v == w }); !equal(got, want) {
				t.Errorf("P11.1: %s: Word of %q is %v, not %v", name, w, got, want)
			}
			if got, want := x.Prefix(w), listOf(rs, func(v string) bool { return strings.HasPrefix(v, w) }); !equal(got, want) {
				t.Errorf("P11.1: %s: Prefix of %q is %v, not %v", name, w, got, want)
			}
		}
	}
	slices.Reverse(rs)
	if y := filled(rs...); !Same(x, y) || !Same(y, x) {
		t.Errorf("P11.1: %s: it is not the Same as one of %v", name, rs)
	}
}

func TestOfTheChapter(t *testing.T) {
	x := New()
	has(t, "new", x)
	if code := x.Put(rec(a, "to be to")); code != api.OK {
		t.Errorf("P11.1: Put is %d", code)
	}
	if got := x.Word("to"); !equal(got, posts(stands(a, 0, 2))) {
		t.Errorf("P11.1: Word is %v", got)
	}
	has(t, "the example", x, rec(a, "to be to"))
}

// ordinary are records of several origins, with words in common, and several times in one text.
func ordinary() []api.Record {
	return []api.Record{rec(a, "To be, or not to BE"), rec(b, "not to do: do!"), rec(c, "..."), rec(d, "Über 42 dots; don't"), rec(e, "be be be")}
}

func TestPutInAnyOrder(t *testing.T) {
	rs := ordinary()
	var orders func(n int)
	orders = func(n int) {
		if n == 1 {
			x := New()
			for i, r := range rs {
				if code := x.Put(r); code != api.OK {
					t.Errorf("P11.1: Put of %v is %d", r, code)
				}
				if i == 2 {
					has(t, "three put", x, rs[:3]...)
				}
			}
			has(t, "all put", x, rs...)
		}
		for i := range n {
			rs[i], rs[n-1] = rs[n-1], rs[i]
			orders(n - 1)
			rs[i], rs[n-1] = rs[n-1], rs[i]
		}
	}
	orders(len(rs))
}

func TestLists(t *testing.T) {
	x := filled(ordinary()...)
	for w, want := range map[string][]api.Post{
		"to":   posts(stands(a, 0, 4), stands(b, 1)),
		"be":   posts(stands(a, 1, 5), stands(e, 0, 1, 2)),
		"do":   posts(stands(b, 2, 3)),
		"not":  posts(stands(a, 3), stands(b, 0)),
		"42":   posts(stands(d, 1)),
		"über": posts(stands(d, 0)),
		"don":  posts(stands(d, 3)),
		"t":    posts(stands(d, 4)),
		// Words that stand nowhere, though they nearly do.
		"nowhere": nil, "b": nil, "bee": nil, "o": nil, "tobe": nil, "uber": nil, "4": nil, "dont": nil,
		// Written otherwise than tokens tells it, or no word.
		"To": nil, "BE": nil, "bE": nil, "Über": nil, "ÜBER": nil, " be": nil, "be ": nil, "be,": nil, "not to": nil, "don't": nil, "...": nil, " ": nil, "": nil, "be*": nil, "\xff": nil, "be\x00": nil, "\xc3": nil,
	} {
		if got := x.Word(w); !equal(got, want) {
			t.Errorf("P11.1: Word of %q is %v, not %v", w, got, want)
		}
	}
	for w, want := range map[string][]api.Post{
		"":     posts(stands(a, 0, 1, 2, 3, 4, 5), stands(b, 0, 1, 2, 3), stands(d, 0, 1, 2, 3, 4), stands(e, 0, 1, 2)),
		"t":    posts(stands(a, 0, 4), stands(b, 1), stands(d, 4)),
		"to":   posts(stands(a, 0, 4), stands(b, 1)),
		"b":    posts(stands(a, 1, 5), stands(e, 0, 1, 2)),
		"do":   posts(stands(b, 2, 3), stands(d, 2, 3)),
		"d":    posts(stands(b, 2, 3), stands(d, 2, 3)),
		"o":    posts(stands(a, 2)),
		"dots": posts(stands(d, 2)),
		"4":    posts(stands(d, 1)),
		"42":   posts(stands(d, 1)),
		"ü":    posts(stands(d, 0)),
		// A beginning is one of bytes: the half of a letter is one, too.
		"\xc3": posts(stands(d, 0)),
		// Of no word, though nearly.
		"tox": nil, "e": nil, "ot": nil, "421": nil, "not ": nil, "u": nil,
		// Written otherwise than tokens tells it, or no beginning of a word.
		"T": nil, "Be": nil, "Ü": nil, " ": nil, "not to": nil, "don'": nil, ".": nil, "*": nil, "b*": nil, "\xff": nil, "\x00": nil,
	} {
		if got := x.Prefix(w); !equal(got, want) {
			t.Errorf("P11.1: Prefix of %q is %v, not %v", w, got, want)
		}
	}
}

// TestPlacesOfAPrefixRise: words that begin alike stand by turns in one text, so that no word's places are all ahead of another one's.
func TestPlacesOfAPrefixRise(t *testing.T) {
	x := filled(rec(b, "ab x aa ac aa x ab a aa"), rec(a, "ac ab ac aa"))
	for w, want := range map[string][]api.Post{
		"a":  posts(stands(a, 0, 1, 2, 3), stands(b, 0, 2, 3, 4, 6, 7, 8)),
		"aa": posts(stands(a, 3), stands(b, 2, 4, 8)),
		"ab": posts(stands(a, 1), stands(b, 0, 6)),
		"ac": posts(stands(a, 0, 2), stands(b, 3)),
		"":   posts(stands(a, 0, 1, 2, 3), stands(b, 0, 1, 2, 3, 4, 5, 6, 7, 8)),
	} {
		for range 20 {
			if got := x.Prefix(w); !equal(got, want) {
				t.Fatalf("P11.1: Prefix of %q is %v, not %v", w, got, want)
			}
		}
	}
}

func TestKeysAndWordsRise(t *testing.T) {
	x := filled(rec(key(7, 1), "b a"), rec(key(0, 1023), "z é ab"), rec(key(1, 2), ""), rec(key(0, 10), "ß 10 9"), rec(key(1, 10), "a1"), rec(key(0, 9), "日"), rec(key(7, 1023), "A B Z"), rec(key(1, 1), "?!"))
	for range 20 {
		if got := x.Keys(); !slices.Equal(got, some(key(0, 9), key(0, 10), key(0, 1023), key(1, 1), key(1, 2), key(1, 10), key(7, 1), key(7, 1023))) {
			t.Fatalf("P11.1: Keys are %v", got)
		}
		if got := x.Words(); !slices.Equal(got, []string{"10", "9", "a", "a1", "ab", "b", "z", "ß", "é", "日"}) {
			t.Fatalf("P11.1: Words are %q", got)
		}
	}
}

func TestPutAtTheLimits(t *testing.T) {
	for _, r := range []api.Record{
		{Key: key(0, 1)},
		{Key: key(api.MaxNodes-1, api.MaxSeq), Stamp: api.Stamp{Wall: api.MaxWall, Count: api.MaxCount}, Text: strings.Repeat("a", api.MaxText)},
		rec(a, strings.Repeat("a ", api.MaxText/2)), rec(a, strings.Repeat("日", api.MaxText/3)), rec(a, strings.Repeat(".", api.MaxText)), rec(a, ""), rec(a, "\x00"),
	} {
		x := New()
		if code := x.Put(r); code != api.OK {
			t.Errorf("P11.1: Put of %v is %d", r, code)
		}
		has(t, "at a limit", x, r)
	}
}

// mayNotBe are records that may not be, of which only the first many have a Key of their own that may not be.
func mayNotBe() (rs []api.Record, many int) {
	for _, k := range some(key(-1, 1), key(api.MaxNodes, 1), key(0, 0), key(0, -1), key(0, api.MaxSeq+1), least, greatest, key(0, math.MinInt), key(math.MaxInt, 1)) {
		rs = append(rs, rec(k, "other"))
	}
	many = len(rs)
	for _, s := range []api.Stamp{{Wall: -1}, {Count: -1}, {Wall: api.MaxWall + 1}, {Count: api.MaxCount + 1}, {Wall: math.MinInt}, {Count: math.MaxInt}} {
		rs = append(rs, api.Record{Key: a, Stamp: s, Text: "other"})
	}
	for _, text := range []string{"\xff", "other \xc3", strings.Repeat("a", api.MaxText+1), strings.Repeat(".", api.MaxText+1), strings.Repeat("日", api.MaxText/3) + "a"} {
		rs = append(rs, rec(a, text))
	}
	return rs, many
}

func TestPutOfWhatMayNotBe(t *testing.T) {
	odd, _ := mayNotBe()
	for _, r := range odd {
		x := New()
		if code := x.Put(r); code != api.ErrArg {
			t.Errorf("P11.1: Put of %v is %d", r, code)
		}
		has(t, "what may not be", x)
		x = filled(rec(b, "be"))
		if code := x.Put(r); code != api.ErrArg {
			t.Errorf("P11.1: Put of %v behind another one is %d", r, code)
		}
		has(t, "what may not be, behind another one", x, rec(b, "be"))
	}
}

// TestPutOfWhatMayNotBeAndIsThere: of two errors the one that the chapter names first is answered.
func TestPutOfWhatMayNotBeAndIsThere(t *testing.T) {
	odd, many := mayNotBe()
	x := filled(rec(a, "to be"))
	for _, r := range odd[many:] {
		if code := x.Put(r); code != api.ErrArg {
			t.Errorf("R6: Put of %v, whose Key is there, is %d", r, code)
		}
	}
	has(t, "what may not be, and is there", x, rec(a, "to be"))
}

func TestPutOfWhatIsThere(t *testing.T) {
	x := filled(rec(a, "to be to"), rec(b, "do"), rec(c, "..."))
	for _, r := range []api.Record{
		rec(a, "to be to"), rec(a, "other"), rec(a, "to"), rec(a, ""), rec(a, "to be to do"), {Key: a, Stamp: api.Stamp{Wall: 900}, Text: "to be to"}, {Key: a},
		rec(b, "do"), rec(b, "other"), rec(c, "..."), rec(c, ""), rec(c, "other"), {Key: c},
	} {
		if code := x.Put(r); code != api.ErrOld {
			t.Errorf("P11.1: Put of %v, whose Key is there, is %d", r, code)
		}
		has(t, "a Key that is there", x, rec(a, "to be to"), rec(b, "do"), rec(c, "..."))
	}
}

func TestPutOfNoWords(t *testing.T) {
	for _, text := range []string{"", "...", " ", "\x00", "*", "\"", "€", "①"} {
		x := filled(rec(b, "be"), rec(a, text))
		has(t, "no words", x, rec(b, "be"), rec(a, text))
		if x.Put(rec(a, "be")) != api.ErrOld || len(x.Words()) != 1 {
			t.Errorf("P11.1: a record of %q is not there", text)
		}
		if x.Drop(a) != 1 || x.Drop(a) != 0 {
			t.Errorf("P11.1: Drop of a record of %q", text)
		}
		has(t, "no words, dropped", x, rec(b, "be"))
	}
}

func TestDrop(t *testing.T) {
	rs := ordinary()
	for _, z := range []struct {
		name string
		ks   []api.Key
		want int
		left []api.Record
	}{
		{"no Key", nil, 0, rs},
		{"no Key, of a list", some(), 0, rs},
		{"the first one", some(a), 1, rs[1:]},
		{"the last one", some(e), 1, rs[:4]},
		{"one without words", some(c), 1, []api.Record{rs[0], rs[1], rs[3], rs[4]}},
		{"one named twice", some(b, b), 1, []api.Record{rs[0], rs[2], rs[3], rs[4]}},
		{"one without words named twice", some(c, c, c), 1, []api.Record{rs[0], rs[1], rs[3], rs[4]}},
		{"some, falling", some(e, c, a), 3, []api.Record{rs[1], rs[3]}},
		{"some by turns", some(a, e, a, b, e), 3, rs[2:4]},
		{"one that is not there", some(key(0, 3)), 0, rs},
		{"some that are not there", some(key(1, 2), key(2, 1), key(3, 3)), 0, rs},
		{"the same numbers of other origins", some(key(1, 900), key(2, 1), key(6, 3)), 0, rs},
		{"Keys of no record", some(least, greatest, key(0, 0), key(-1, 1), key(8, 1), key(0, 1024)), 0, rs},
		{"one among others that are not there", some(least, key(0, 3), d, key(7, 7)), 1, []api.Record{rs[0], rs[1], rs[2], rs[4]}},
		{"all", some(a, b, c, d, e), 5, nil},
		{"all twice, with others", some(e, a, greatest, d, b, c, c, b, d, a, e, key(3, 3)), 5, nil},
	} {
		x := filled(rs...)
		if got := x.Drop(z.ks...); got != z.want {
			t.Errorf("P11.1: Drop, %s: %d", z.name, got)
		}
		has(t, "Drop, "+z.name, x, z.left...)
		if got := x.Drop(z.ks...); got != 0 {
			t.Errorf("P11.1: Drop again, %s: %d", z.name, got)
		}
		has(t, "Drop again, "+z.name, x, z.left...)
	}
	if x := New(); x.Drop() != 0 || x.Drop(a, b) != 0 {
		t.Error("P11.1: Drop of a new one")
	}
}

func TestPutAgain(t *testing.T) {
	x := filled(rec(a, "to be"), rec(b, "be to"))
	for _, text := range []string{"other be", "", "to be", "be be to be", "..."} {
		if x.Drop(a) != 1 {
			t.Errorf("P11.1: Drop ahead of %q", text)
		}
		has(t, "dropped", x, rec(b, "be to"))
		if code := x.Put(rec(a, text)); code != api.OK {
			t.Errorf("P11.1: Put again, of %q, is %d", text, code)
		}
		has(t, "put again", x, rec(a, text), rec(b, "be to"))
	}
}

// TestNoWordIsLeft: a word of several texts is there as long as one of them is.
func TestNoWordIsLeft(t *testing.T) {
	x := filled(rec(a, "to be to"), rec(b, "to"), rec(c, "to do"))
	for _, z := range []struct {
		k     api.Key
		words []string
	}{{a, []string{"do", "to"}}, {c, []string{"to"}}, {b, nil}} {
		if x.Drop(z.k); !slices.Equal(x.Words(), z.words) {
			t.Errorf("P11.1: Words behind a Drop of %v: %q", z.k, x.Words())
		}
	}
	if !Same(x, New()) || len(x.Prefix("")) != 0 || len(x.Keys()) != 0 {
		t.Error("P11.1: all dropped")
	}
}

func TestSame(t *testing.T) {
	other := api.Record{Key: a, Stamp: api.Stamp{Wall: 99, Count: 9}, Text: "TO... be"}
	dropped := filled(rec(c, "be"), rec(a, "to be"), rec(b, ""))
	dropped.Drop(c)
	again := filled(rec(a, "other words"), rec(b, "other"))
	again.Drop(a, b)
	again.Put(rec(b, ""))
	again.Put(rec(a, "to be"))
	emptied := filled(rec(a, "to be"))
	emptied.Drop(a)
	refused := filled(rec(a, "to be"), rec(a, "be to"), rec(b, ""), rec(key(9, 9), "be"))
	ab := filled(rec(a, "to be"), rec(b, ""))
	for _, z := range []struct {
		name string
		x, y *Index
		want bool
	}{
		{"new ones", New(), New(), true},
		{"itself", ab, ab, true},
		{"in another order", ab, filled(rec(b, ""), rec(a, "to be")), true},
		{"with another one dropped", ab, dropped, true},
		{"with others dropped, and put again", ab, again, true},
		{"with others refused", ab, refused, true},
		{"emptied", New(), emptied, true},
		// No stamp is kept, and of a text its words alone.
		{"another stamp, other letters", ab, filled(other, rec(b, "!?")), true},
		{"a Key more", ab, filled(rec(a, "to be"), rec(b, ""), rec(c, "do")), false},
		{"a Key without words more", ab, filled(rec(a, "to be"), rec(b, ""), rec(c, "")), false},
		{"a Key without words less", ab, filled(rec(a, "to be")), false},
		{"another Key without words", ab, filled(rec(a, "to be"), rec(c, "")), false},
		{"a Key without words, and none", New(), filled(rec(a, "")), false},
		{"another Key with the words", ab, filled(rec(c, "to be"), rec(b, "")), false},
		{"the words at the other Key", ab, filled(rec(b, "to be"), rec(a, "")), false},
		{"a word more", ab, filled(rec(a, "to be or"), rec(b, "")), false},
		{"a word less", ab, filled(rec(a, "to"), rec(b, "")), false},
		{"another word", ab, filled(rec(a, "to bee"), rec(b, "")), false},
		{"a word at a Key that had none", ab, filled(rec(a, "to be"), rec(b, "be")), false},
		{"words in another order", ab, filled(rec(a, "be to"), rec(b, "")), false},
		{"a word once more", ab, filled(rec(a, "to be be"), rec(b, "")), false},
		{"one place", filled(rec(a, "to be to")), filled(rec(a, "to be be")), false},
		{"the same words and Keys, by turns", filled(rec(a, "to"), rec(b, "be")), filled(rec(a, "be"), rec(b, "to")), false},
		{"no index", ab, nil, false},
		{"no index, and a new one", New(), nil, false},
		{"no index, twice", nil, nil, false},
	} {
		if Same(z.x, z.y) != z.want || Same(z.y, z.x) != z.want {
			t.Errorf("P11.1: Same, %s: not %v", z.name, z.want)
		}
	}
}

func TestNoIndex(t *testing.T) {
	var x *Index
	for _, r := range []api.Record{rec(a, "a"), {}, rec(a, "\xff")} {
		if code := x.Put(r); code != api.ErrNil {
			t.Errorf("R3: Put of %v is %d", r, code)
		}
	}
	if x.Drop() != 0 || x.Drop(a) != 0 || len(x.Word("a")) != 0 || len(x.Word("")) != 0 || len(x.Prefix("")) != 0 || len(x.Prefix("a")) != 0 || len(x.Keys()) != 0 || len(x.Words()) != 0 {
		t.Error("R3: calls on no index")
	}
}

// TestDropKeepsNothing: the Keys that are handed in stay as they are, the room behind them too, and are no part of the index.
func TestDropKeepsNothing(t *testing.T) {
	x := filled(ordinary()...)
	room := some(e, b, key(3, 3), a, b, c, d)
	was := slices.Clone(room)
	x.Drop(room[:2]...)
	if !slices.Equal(room, was) {
		t.Errorf("R4: Drop changed %v to %v", was, room)
	}
	for i := range room {
		room[i] = c
	}
	rs := ordinary()
	has(t, "changed Keys", x, rs[0], rs[2], rs[3])
}

// TestAnswersShareNothing changes all of what is answered, with the room behind it, and asks what that changed.
func TestAnswersShareNothing(t *testing.T) {
	rs := append(ordinary(), rec(key(3, 3), "a ab abc a ab abc a"))
	x := filled(rs...)
	for _, w := range []string{"", "a", "ab", "b", "be", "to", "do", "d", "ü", "nowhere"} {
		answers := map[string][]api.Post{"Word": x.Word(w), "Word again": x.Word(w), "Prefix": x.Prefix(w), "Prefix again": x.Prefix(w)}
		wants := map[string][]api.Post{"Word": x.Word(w), "Prefix": x.Prefix(w)}
		for name, l := range answers {
			if want := wants[strings.TrimSuffix(name, " again")]; !equal(l, want) {
				t.Errorf("R4: another answer changed what %s of %q answered: %v", name, w, l)
			}
			inOneAnswer(t, name, l)
			for i := range l[:cap(l)] {
				l[:cap(l)][i] = stands(key(-9, -9), -9)
			}
		}
		has(t, "changed lists", x, rs...)
	}
	ks, words := x.Keys(), x.Words()
	otherKs, otherWords := x.Keys(), x.Words()
	for i := range ks[:cap(ks)] {
		ks[:cap(ks)][i] = key(-9, -9)
	}
	for i := range words[:cap(words)] {
		words[:cap(words)][i] = "changed"
	}
	if !slices.Equal(otherKs, x.Keys()) || !slices.Equal(otherWords, x.Words()) {
		t.Error("R4: another answer changed Keys or Words")
	}
	has(t, "changed Keys and Words", x, rs...)
}

// inOneAnswer asks that no two Posts of an answer share places: it changes one after another, with the room behind it.
func inOneAnswer(t *testing.T, name string, l []api.Post) {
	t.Helper()
	for i, p := range l {
		at := p.At[:cap(p.At)]
		for j := range at {
			at[j] = -9
		}
		for _, q := range l[i+1:] {
			if slices.Contains(q.At, -9) {
				t.Fatalf("R4: in what %s answers, places of %v changed those of %v", name, p.Key, q.Key)
			}
		}
	}
}

// TestIndexesAreApart: what is done to one changes no other one.
func TestIndexesAreApart(t *testing.T) {
	x, y := New(), New()
	x.Put(rec(a, "to be"))
	has(t, "the other one", y)
	y.Put(rec(a, "to do"))
	x.Drop(a)
	has(t, "the one", x)
	has(t, "the other one, filled", y, rec(a, "to do"))
}

// TestAnyCalls holds an index to which anything is done against the records that it must have.
func TestAnyCalls(t *testing.T) {
	r := rand.New(rand.NewPCG(11, 1))
	words := []string{"a", "ab", "abc", "b", "ba", "Über", "é", "10", "A"}
	x := New()
	must := map[api.Key]api.Record{}
	put, old, dropped := 0, 0, 0
	for range 600 {
		ks := some(key(r.IntN(3), 1+r.IntN(5)), key(r.IntN(3), 1+r.IntN(5)), key(r.IntN(9), r.IntN(5)))[:r.IntN(4)]
		if r.IntN(3) == 0 {
			want := 0
			for _, k := range ks {
				if _, there := must[k]; there {
					want++
				}
				delete(must, k)
			}
			if got := x.Drop(ks...); got != want {
				t.Fatalf("P11.1: Drop of %v is %d, not %d", ks, got, want)
			}
			dropped += want
		}
		for _, k := range ks {
			var text strings.Builder
			for range r.IntN(8) {
				text.WriteString(words[r.IntN(len(words))] + []string{" ", ", ", "-"}[r.IntN(3)])
			}
			_, there := must[k]
			want := api.OK
			switch {
			case k.Origin >= api.MaxNodes || k.Seq < 1:
				want = api.ErrArg
			case there:
				want = api.ErrOld
				old++
			default:
				must[k] = rec(k, text.String())
				put++
			}
			if code := x.Put(rec(k, text.String())); code != want {
				t.Fatalf("P11.1: Put of %v is %d, not %d", k, code, want)
			}
		}
		var rs []api.Record
		for _, s := range must {
			rs = append(rs, s)
		}
		if has(t, "any calls", x, rs...); t.Failed() {
			t.FailNow()
		}
	}
	if put < 150 || old < 150 || dropped < 150 {
		t.Errorf("%d put, %d there already, %d dropped", put, old, dropped)
	}
}

// TestOfSize asks for what ends within moments: all records that there may be, each of as many words as it may have, put and dropped from behind.
func TestOfSize(t *testing.T) {
	x, y := New(), New()
	text := strings.Repeat("a b ", api.MaxText/4)
	var ks []api.Key
	for origin := range api.MaxNodes {
		for seq := range api.MaxSeq {
			k := key(api.MaxNodes-1-origin, api.MaxSeq-seq)
			ks = append(ks, k)
			own := string(rune('a'+k.Origin)) + string(rune(0x4e00+k.Seq)) + " "
			if x.Put(rec(k, text)) != api.OK || y.Put(rec(k, strings.Repeat(own, api.MaxText/len(own)))) != api.OK {
				t.Fatalf("P11.1: Put of %v", k)
			}
		}
	}
	for range 20 {
		if l := x.Word("b"); len(l) != len(ks) || len(l[0].At) != api.MaxText/4 || !slices.IsSortedFunc(l, func(p, q api.Post) int { return cmp.Or(p.Origin-q.Origin, p.Seq-q.Seq) }) {
			t.Fatalf("P11.1: Word, of many: %d", len(l))
		}
		if l := x.Prefix(""); len(l) != len(ks) || len(l[0].At) != api.MaxText/2 || len(y.Prefix("c")) != api.MaxSeq || len(y.Prefix("c"+string(rune(0x4e00+9)))) != 1 {
			t.Fatalf("P11.1: Prefix, of many: %d", len(l))
		}
		if len(x.Keys()) != len(ks) || len(y.Words()) != len(ks) || !Same(x, x) || Same(x, y) {
			t.Fatal("P11.1: Keys, Words, Same, of many")
		}
	}
	for _, k := range ks {
		if x.Drop(k) != 1 {
			t.Fatalf("P11.1: Drop of %v", k)
		}
	}
	if y.Drop(ks...) != len(ks) || !Same(x, y) || !Same(x, New()) {
		t.Error("P11.1: Drop, of many")
	}
}

func TestManyAtOneTime(t *testing.T) {
	x, y := filled(ordinary()...), filled(ordinary()...)
	y.Drop(a)
	var all sync.WaitGroup
	for range 8 {
		all.Go(func() {
			own := filled(ordinary()...)
			for range 100 {
				if !Same(x, x) || Same(x, y) || !Same(own, x) || own.Drop(a) != 1 || !Same(own, y) || own.Put(ordinary()[0]) != api.OK {
					t.Error("R5: plain functions at one time")
				}
			}
		})
	}
	all.Wait()
}
