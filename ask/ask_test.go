package ask

import (
	"math"
	"math/rand/v2"
	"regexp"
	"slices"
	"strconv"
	"strings"
	"sync"
	"testing"
	"unicode"
	"unicode/utf8"

	"grapevine/api"
)

// one, starred, quoted, filter, all, some and no are short forms of the kinds of Asks.
func one(w string) api.Ask                { return api.Ask{Kind: api.AskWord, Words: []string{w}} }
func starred(w string) api.Ask            { return api.Ask{Kind: api.AskPrefix, Words: []string{w}} }
func quoted(ws ...string) api.Ask         { return api.Ask{Kind: api.AskPhrase, Words: ws} }
func filter(kind, n int) api.Ask          { return api.Ask{Kind: kind, N: n} }
func over(kind int, l ...api.Ask) api.Ask { return api.Ask{Kind: kind, Subs: l} }
func all(l ...api.Ask) api.Ask            { return over(api.AskAnd, l...) }
func some(l ...api.Ask) api.Ask           { return over(api.AskOr, l...) }
func no(l ...api.Ask) api.Ask             { return over(api.AskNot, l...) }

// place is what a query's After has.
func place(wall, count, origin, seq int) api.Record {
	return api.Record{Key: api.Key{Origin: origin, Seq: seq}, Stamp: api.Stamp{Wall: wall, Count: count}}
}

// times is so many of one Ask.
func times(many int, a api.Ask) []api.Ask {
	return slices.Repeat([]api.Ask{a}, many)
}

// nots is a within so many AskNots.
func nots(many int, a api.Ask) api.Ask {
	for range many {
		a = no(a)
	}
	return a
}

// far are numbers that are beyond every limit.
func far() []int {
	return []int{math.MinInt, math.MinInt + 1, math.MinInt32, -2, -1, 1<<40 + 1, 1 << 62, math.MaxInt - 1, math.MaxInt}
}

// sameQuery tells whether two queries are one.
func sameQuery(a, b api.Query) bool {
	return alike(a.Ask, b.Ask) && a.Limit == b.Limit && a.After == b.After
}

// alike is Same, told by all that stands in both.
func alike(a, b api.Ask) bool {
	return told(a) == told(b)
}

// told is all that stands in an Ask, as text.
func told(a api.Ask) string {
	s := "<" + strconv.Itoa(a.Kind) + " " + strconv.Itoa(a.N) + " " + strconv.Itoa(len(a.Words))
	for _, w := range a.Words {
		s += " " + strconv.Quote(w)
	}
	s += " " + strconv.Itoa(len(a.Subs))
	for _, sub := range a.Subs {
		s += told(sub)
	}
	return s + ">"
}

// parts are all parts of an Ask, and how deep each one lies (from 1), found by a list instead of by calls in one another.
func parts(a api.Ask) ([]api.Ask, []int) {
	as, deep := []api.Ask{a}, []int{1}
	for i := 0; i < len(as); i++ {
		for _, sub := range as[i].Subs {
			as, deep = append(as, sub), append(deep, deep[i]+1)
		}
	}
	return as, deep
}

// counted is Terms and Deep of an Ask.
func counted(a api.Ask) (int, int) {
	as, deep := parts(a)
	terms := 0
	for _, x := range as {
		if len(x.Subs) == 0 {
			terms += max(1, len(x.Words))
		}
	}
	return terms, slices.Max(deep)
}

// aWord is what is one word.
var aWord = regexp.MustCompile(`^[\p{L}\p{Nd}]+$`)

// mayBe is May, part by part.
func mayBe(a api.Ask) bool {
	terms, deep := counted(a)
	as, _ := parts(a)
	return terms <= 16 && deep <= 6 && !slices.ContainsFunc(as, func(x api.Ask) bool { return !mayStand(x) })
}

// mayStand tells of a part whether its own fields may be.
func mayStand(a api.Ask) bool {
	// By kind: the greatest N, the fewest and the most words, the fewest and the most Subs.
	limits := [][5]int{{}, {0, 1, 1, 0, 0}, {0, 1, 1, 0, 0}, {0, 1, 16, 0, 0}, {7, 0, 0, 0, 0}, {1 << 40, 0, 0, 0, 0}, {1 << 40, 0, 0, 0, 0}, {0, 0, 0, 2, math.MaxInt}, {0, 0, 0, 2, math.MaxInt}, {0, 0, 0, 1, 1}}
	if a.Kind < 1 || a.Kind > 9 {
		return false
	}
	l := limits[a.Kind]
	for _, w := range a.Words {
		if !utf8.ValidString(w) || !aWord.MatchString(w) || strings.Map(unicode.ToLower, w) != w || len(w) > 40 {
			return false
		}
	}
	return a.N >= 0 && a.N <= l[0] && len(a.Words) >= l[1] && len(a.Words) <= l[2] && len(a.Subs) >= l[3] && len(a.Subs) <= l[4]
}

// mayBeAsked tells of a query whether it may be.
func mayBeAsked(q api.Query) bool {
	p := q.After
	behind := p == place(0, 0, 0, 0) || p == place(p.Wall, p.Count, p.Origin, p.Seq) &&
		p.Wall >= 0 && p.Wall <= 1<<40 && p.Count >= 0 && p.Count <= 65535 && p.Origin >= 0 && p.Origin <= 7 && p.Seq >= 1 && p.Seq <= 1023
	return mayBe(q.Ask) && q.Limit >= 1 && q.Limit <= 50 && behind
}

// anItem is an item at the beginning of a text; what is behind the question is one, too.
var anItem = regexp.MustCompile(`^(?:"[\p{L}\p{Nd}]+(?: [\p{L}\p{Nd}]+)*"|[\p{L}\p{Nd}]+\*?|(?:from|since|until|limit|after):[0-9.]+|[()])(?: |$)`)

// aNumber is a number's text.
var aNumber = regexp.MustCompile(`^(0|[1-9][0-9]{0,12})$`)

// readOut is Read, another way: items by what they look like, then cut at the operators that no bracket is about.
func readOut(s string) (api.Query, bool) {
	if len(s) > 200 || !utf8.ValidString(s) || s == "" || strings.HasSuffix(s, " ") {
		return api.Query{}, false
	}
	var items []string
	for left := s; left != ""; {
		item := anItem.FindString(left)
		if item == "" {
			return api.Query{}, false
		}
		left = left[len(item):]
		items = append(items, strings.TrimSuffix(item, " "))
	}
	q := api.Query{Limit: 50}
	ok := true
	if last := items[len(items)-1]; strings.HasPrefix(last, "after:") {
		q.After, ok = readPlace(last[6:])
		items = items[:len(items)-1]
	}
	if n := len(items); ok && n > 0 && strings.HasPrefix(items[n-1], "limit:") {
		q.Limit, ok = readNumber(items[n-1][6:])
		items = items[:n-1]
	}
	if !ok {
		return api.Query{}, false
	}
	q.Ask, ok = readItems(items)
	if !ok || !mayBeAsked(q) {
		return api.Query{}, false
	}
	return q, true
}

// readNumber is the number of a text.
func readNumber(s string) (int, bool) {
	if !aNumber.MatchString(s) {
		return 0, false
	}
	n, err := strconv.Atoi(s)
	return n, err == nil
}

// readPlace is what a query's After is, of its text.
func readPlace(s string) (api.Record, bool) {
	var ns []int
	sum := 0
	for part := range strings.SplitSeq(s, ".") {
		n, ok := readNumber(part)
		if !ok {
			return api.Record{}, false
		}
		ns, sum = append(ns, n), sum+n
	}
	if len(ns) != 4 || sum == 0 {
		return api.Record{}, false
	}
	return place(ns[0], ns[1], ns[2], ns[3]), true
}

// cut are items, cut at an operator that no bracket is about; false, if brackets don't match.
func cut(items []string, operator string) ([][]string, bool) {
	pieces, open := [][]string{nil}, 0
	for _, item := range items {
		switch item {
		case "(":
			open++
		case ")":
			open--
		}
		if open < 0 {
			return nil, false
		}
		if item == operator && open == 0 {
			pieces = append(pieces, nil)
			continue
		}
		last := len(pieces) - 1
		pieces[last] = append(pieces[last], item)
	}
	return pieces, open == 0
}

// readItems is the Ask of items.
func readItems(items []string) (api.Ask, bool) {
	for _, x := range []struct {
		operator string
		kind     int
	}{{"OR", api.AskOr}, {"AND", api.AskAnd}} {
		pieces, ok := cut(items, x.operator)
		if !ok {
			return api.Ask{}, false
		}
		if len(pieces) == 1 {
			continue
		}
		var subs []api.Ask
		for _, piece := range pieces {
			sub, ok := readItems(piece)
			if !ok {
				return api.Ask{}, false
			}
			subs = append(subs, sub)
		}
		return over(x.kind, subs...), true
	}
	if len(items) > 1 && items[0] == "NOT" {
		sub, ok := readItems(items[1:])
		return no(sub), ok
	}
	if n := len(items); n > 2 && items[0] == "(" && items[n-1] == ")" {
		return readItems(items[1 : n-1])
	}
	if len(items) != 1 {
		return api.Ask{}, false
	}
	return readItem(items[0])
}

// readItem is the Ask of one item.
func readItem(item string) (api.Ask, bool) {
	lower := strings.Map(unicode.ToLower, item)
	before, n, is := strings.Cut(item, ":")
	switch {
	case is:
		kind := map[string]int{"from": 4, "since": 5, "until": 6}[before]
		number, ok := readNumber(n)
		return filter(kind, number), ok
	case item[0] == '"':
		return quoted(strings.Fields(strings.Trim(lower, `"`))...), true
	case slices.Contains([]string{"AND", "OR", "NOT", "(", ")"}, strings.Trim(item, "*")):
		return api.Ask{}, false
	case strings.HasSuffix(item, "*"):
		return starred(strings.Trim(lower, "*")), true
	}
	return one(lower), true
}

// writeOut is Write's text, another way: brackets by how much kinds bind.
func writeOut(q api.Query) string {
	s := written(q.Ask) + " limit:" + strconv.Itoa(q.Limit)
	if p := q.After; p.Seq != 0 {
		s += " after:"
		for i, n := range []int{p.Wall, p.Count, p.Origin, p.Seq} {
			s += strings.Repeat(".", min(i, 1)) + strconv.Itoa(n)
		}
	}
	return s
}

// binds tells how much a kind binds.
func binds(kind int) int {
	switch kind {
	case api.AskOr:
		return 1
	case api.AskAnd:
		return 2
	}
	return 3
}

// written is the text of an Ask that may be.
func written(a api.Ask) string {
	s := ""
	for i, sub := range a.Subs {
		part := written(sub)
		if len(sub.Subs) > 1 && binds(sub.Kind) <= binds(a.Kind) {
			part = "( " + part + " )"
		}
		switch {
		case a.Kind == api.AskNot:
			s = "NOT "
		case i > 0 && a.Kind == api.AskAnd:
			s += " AND "
		case i > 0:
			s += " OR "
		}
		s += part
	}
	switch a.Kind {
	case api.AskWord:
		s = a.Words[0]
	case api.AskPrefix:
		s = a.Words[0] + "*"
	case api.AskPhrase:
		s = `"` + strings.Join(a.Words, " ") + `"`
	case api.AskFrom:
		s = "from:" + strconv.Itoa(a.N)
	case api.AskSince:
		s = "since:" + strconv.Itoa(a.N)
	case api.AskUntil:
		s = "until:" + strconv.Itoa(a.N)
	}
	return s
}

// asks asks May, Terms, Deep of an Ask.
func asks(t *testing.T, a api.Ask, may bool) {
	t.Helper()
	terms, deep := counted(a)
	if May(a) != may || mayBe(a) != may {
		t.Errorf("P14.1: May of %s: %v", told(a), !may)
	}
	if n := Terms(a); n != terms {
		t.Errorf("P14.1: Terms of %s: %d, not %d", told(a), n, terms)
	}
	if n := Deep(a); n != deep {
		t.Errorf("P14.1: Deep of %s: %d, not %d", told(a), n, deep)
	}
}

func TestMayOfWords(t *testing.T) {
	long, longer := strings.Repeat("x", 40), strings.Repeat("x", 41)
	for _, w := range []string{"a", "42", "to", "été", "and", "or", "not", "from", "ß", "٣", "語", long, strings.Repeat("é", 20)} {
		asks(t, one(w), true)
		asks(t, starred(w), true)
		asks(t, quoted(w), true)
		asks(t, quoted("a", w, "b"), true)
		asks(t, some(one("a"), no(starred(w))), true)
	}
	for _, w := range []string{"", " ", "a b", " a", "a ", "a*", "*", `"a"`, "a-b", "from:1", "(", "A", "To", "AND", "OR", "NOT", "aB", "É", "Ⱥ", "\u212a", "\xff", "a\xff", "e\u0301", "_", longer, longer + "x", strings.Repeat("é", 21), strings.Repeat("x", 200), "a\x00"} {
		asks(t, one(w), false)
		asks(t, starred(w), false)
		asks(t, quoted(w), false)
		asks(t, quoted("a", w), false)
		asks(t, quoted(w, "a"), false)
		asks(t, some(one("a"), no(starred(w))), false)
	}
}

func TestMayOfEachKind(t *testing.T) {
	// Each kind, and some that there are not, with each N, so many words, so many Subs.
	kinds := append(far(), 0, 1, 2, 3, 4, 5, 6, 7, 8, 9, 10, 11)
	ns := append(far(), 0, 1, 6, 7, 8, 9, 1<<40-1, 1<<40)
	words := strings.Fields(strings.Repeat("a bc ", 9))
	subs := times(18, one("a"))
	for _, kind := range kinds {
		for _, n := range ns {
			for many := range 18 {
				for some := range 4 {
					a := api.Ask{Kind: kind, N: n, Words: words[:many], Subs: subs[:some]}
					if May(a) != mayBe(a) {
						t.Fatalf("P14.1: May of %s: %v", told(a), May(a))
					}
				}
			}
		}
	}
	for _, a := range []api.Ask{one("a"), starred("a"), quoted("a"), quoted(words[:16]...), filter(4, 0), filter(4, 7), filter(5, 0), filter(5, 1<<40), filter(6, 0), filter(6, 1<<40), no(one("a")), all(subs[:2]...), all(subs[:3]...), all(subs[:16]...), some(subs[:2]...), some(subs[:16]...)} {
		asks(t, a, true)
		// Empty lists are as none.
		b := a
		b.Words, b.Subs = append([]string{}, a.Words...), append([]api.Ask{}, a.Subs...)
		asks(t, b, true)
	}
	for _, a := range []api.Ask{{}, {Kind: 1}, {Kind: 2}, {Kind: 3}, {Kind: 7}, {Kind: 8}, {Kind: 9}, filter(4, 8), filter(4, -1), filter(5, -1), filter(6, -1), filter(5, 1<<40+1), filter(6, 1<<40+1), quoted(words[:17]...), no(subs[:2]...), all(subs[0]), some(subs[0]), all(subs[:17]...), some(subs[:17]...)} {
		asks(t, a, false)
	}
}

func TestMayOfFieldsOfOthers(t *testing.T) {
	// What is another kind's is looked for in each kind.
	a := one("a")
	for _, x := range []api.Ask{a, starred("a"), quoted("a", "b"), filter(4, 1), filter(5, 1), filter(6, 1), no(a), all(a, a), some(a, a)} {
		asks(t, x, true)
		leaf, joined := len(x.Subs) == 0, len(x.Subs) > 0
		if number := leaf && len(x.Words) == 0; !number {
			y := x
			y.N = 1
			asks(t, y, false)
			y.N = -1
			asks(t, y, false)
			y.N = math.MaxInt
			asks(t, y, false)
		}
		if worded := len(x.Words) > 0; !worded {
			y := x
			y.Words = []string{"a"}
			asks(t, y, false)
			y.Words = []string{""}
			asks(t, y, false)
		}
		if !joined {
			for many := 1; many < 4; many++ {
				y := x
				y.Subs = times(many, a)
				asks(t, y, false)
			}
		}
	}
}

func TestMayOfSubs(t *testing.T) {
	a := one("a")
	for _, bad := range []api.Ask{{}, one("A"), one(""), quoted(), filter(4, 8), filter(5, -1), all(a), some(), no(), no(a, a), {Kind: 10}, {Kind: 1, N: 1, Words: []string{"a"}}} {
		asks(t, bad, false)
		for _, x := range []api.Ask{no(bad), all(bad, a), all(a, bad), all(a, a, bad), some(bad, a), some(a, bad), some(a, all(a, no(bad)), a), no(no(no(bad))), all(some(a, a), some(a, bad))} {
			asks(t, x, false)
		}
	}
	for _, good := range []api.Ask{a, starred("a"), quoted("a", "b"), filter(4, 7), all(a, a), some(a, a), no(a)} {
		for _, x := range []api.Ask{no(good), all(good, a), all(a, good), some(good, good), some(a, all(a, no(good)), a), no(no(no(good)))} {
			asks(t, x, true)
		}
	}
}

func TestMayOfTermsAndDeep(t *testing.T) {
	a := one("a")
	eight := strings.Fields(strings.Repeat("a ", 8))
	for _, x := range []struct {
		a           api.Ask
		may         bool
		terms, deep int
	}{
		{a, true, 1, 1},
		{filter(5, 3), true, 1, 1},
		{all(times(16, a)...), true, 16, 2},
		{all(times(17, a)...), false, 17, 2},
		{some(times(16, filter(4, 1))...), true, 16, 2},
		{some(times(17, filter(4, 1))...), false, 17, 2},
		{all(quoted(eight...), quoted(eight...)), true, 16, 2},
		{all(quoted(eight...), quoted(eight...), a), false, 17, 2},
		{some(all(times(8, a)...), no(some(times(8, a)...))), true, 16, 4},
		{some(all(times(8, a)...), no(some(times(9, a)...))), false, 17, 4},
		{nots(5, a), true, 1, 6},
		{nots(6, a), false, 1, 7},
		{nots(7, a), false, 1, 8},
		{all(a, nots(4, a)), true, 2, 6},
		{all(a, nots(5, a)), false, 2, 7},
		{all(nots(5, a), a), false, 2, 7},
		{some(nots(4, quoted("a", "b")), nots(4, a), a), true, 4, 6},
		{nots(4, all(a, a)), true, 2, 6},
		{nots(5, all(a, a)), false, 2, 7},
	} {
		asks(t, x.a, x.may)
		if n, m := Terms(x.a), Deep(x.a); n != x.terms || m != x.deep {
			t.Errorf("P14.1: Terms, Deep of %s: %d, %d", told(x.a), n, m)
		}
	}
}

func TestTermsAndDeepOfWhatMayNotBe(t *testing.T) {
	a := one("a")
	for _, x := range []struct {
		a           api.Ask
		terms, deep int
	}{
		{api.Ask{}, 1, 1},
		{quoted(), 1, 1},
		{quoted("", "", ""), 3, 1},
		{api.Ask{Kind: 4, N: 3, Words: []string{"a", "b"}}, 2, 1},
		{api.Ask{Kind: 7}, 1, 1},
		{api.Ask{Kind: 7, Words: []string{"a", "b", "c"}}, 3, 1},
		// Words beside Subs do not count.
		{api.Ask{Kind: 1, Words: []string{"a", "b", "c"}, Subs: []api.Ask{a}}, 1, 2},
		{api.Ask{Kind: 3, Words: []string{"a"}, Subs: []api.Ask{a, {}, quoted("a", "b")}}, 4, 2},
		{no(a, a, a), 3, 2},
		{all(), 1, 1},
		{all(api.Ask{}, no(api.Ask{}, all(some()))), 3, 4},
		{over(-5, over(77, quoted(slices.Repeat([]string{"A"}, 100)...)), api.Ask{}), 101, 3},
		{nots(1000, a), 1, 1001},
		{nots(500, all(append(times(300, quoted("a", "b")), nots(100, a))...)), 601, 602},
	} {
		if n, m := Terms(x.a), Deep(x.a); n != x.terms || m != x.deep {
			t.Errorf("P14.1: Terms, Deep of %.200s: %d, %d, not %d, %d", told(x.a), n, m, x.terms, x.deep)
		}
		if May(x.a) {
			t.Errorf("P14.1: May of %.200s", told(x.a))
		}
	}
}

func TestSame(t *testing.T) {
	a, b := one("a"), one("b")
	list := []api.Ask{{}, a, b, one(""), starred("a"), quoted("a"), quoted("a", "b"), quoted("b", "a"), quoted("a", "b", "a"), quoted("a", "a", "b"), quoted("ab"), quoted("a", "", "b"), quoted(""), quoted("", ""),
		filter(4, 0), filter(4, 1), filter(5, 1), filter(6, 1), filter(4, -1), filter(4, math.MinInt), filter(4, math.MaxInt), filter(10, 1), filter(-1, 1),
		no(a), no(b), no(no(a)), no(), no(a, a), all(a, b), all(b, a), all(a, b, a), all(a, a, b), all(a), all(a, a), some(a, b), some(b, a), all(a, no(b)), all(no(a), b), all(a, some(a, b)), all(a, some(b, a)), all(all(a, a), a), all(a, all(a, a)), all(a, api.Ask{}), all(api.Ask{}, a), all(api.Ask{}),
		{Kind: 1, N: 1, Words: []string{"a"}}, {Kind: 1, Words: []string{"a"}, Subs: []api.Ask{a}}, {Kind: 1, Words: []string{"a"}, Subs: []api.Ask{b}}, {Words: []string{"a"}}, {Subs: []api.Ask{a}}, {Kind: 7, N: 1, Subs: []api.Ask{a, b}}, {Kind: 7, Words: []string{"a"}, Subs: []api.Ask{a, b}}, nots(40, a), nots(41, a), nots(40, b)}
	for i, x := range list {
		for j, y := range list {
			if Same(x, y) != (i == j) || (told(x) == told(y)) != (i == j) {
				t.Errorf("P14.1: Same of %s and %s: %v", told(x), told(y), Same(x, y))
			}
		}
		if y := copied(x, 3); !Same(x, y) || !Same(y, x) {
			t.Errorf("P14.1: Same of %s and a copy of it", told(x))
		}
	}
	// An empty list is as none.
	empty := api.Ask{Kind: 4, N: 1, Words: []string{}, Subs: []api.Ask{}}
	if !Same(empty, filter(4, 1)) || !Same(filter(4, 1), empty) || !Same(no(empty), no(filter(4, 1))) {
		t.Error("P14.1: Same of empty lists and none")
	}
}

// reads asks that Read answers this query of s, and that Write's text is read as it again.
func reads(t *testing.T, s string, want api.Query) {
	t.Helper()
	q, e := Read(s)
	if !sameQuery(q, want) || e != api.OK {
		t.Errorf("P14.2: Read(%q): %s, %d, %v, error %d", s, told(q.Ask), q.Limit, q.After, e)
		return
	}
	if out, ok := readOut(s); !ok || !sameQuery(out, want) {
		t.Errorf("P14.2: %q was told to be read as %s", s, told(out.Ask))
	}
	writes(t, want)
}

// writes asks that a query that may be has its text, if that is not too long, and that Read reads that as the query.
func writes(t *testing.T, q api.Query) {
	t.Helper()
	want, code := writeOut(q), api.OK
	if len(want) > 200 {
		want, code = "", api.ErrArg
	}
	s, e := Write(q)
	if s != want || e != code {
		t.Errorf("P14.2: Write: %q, %d, not %q", s, e, want)
	}
	if e != api.OK {
		return
	}
	if back, e := Read(s); !sameQuery(back, q) || e != api.OK {
		t.Errorf("P14.2: Read(%q): %s, %d, %v, error %d", s, told(back.Ask), back.Limit, back.After, e)
	}
}

// refuses asks that Read answers ErrQuery of s, and nothing beside it.
func refuses(t *testing.T, s string) {
	t.Helper()
	if q, e := Read(s); !sameQuery(q, api.Query{}) || e != api.ErrQuery {
		t.Errorf("P14.2: Read(%q): %s, %d, %v, error %d", s, told(q.Ask), q.Limit, q.After, e)
	}
	if _, ok := readOut(s); ok {
		t.Errorf("P14.2: %q was told to be no text", s)
	}
}

func TestReadTheExample(t *testing.T) {
	reads(t, `a AND NOT b OR "c d"`, api.Query{Ask: some(all(one("a"), no(one("b"))), quoted("c", "d")), Limit: 50})
	reads(t, `"to be" AND NOT from:2 limit:3`, api.Query{Ask: all(quoted("to", "be"), no(filter(4, 2))), Limit: 3})
}

func TestRead(t *testing.T) {
	a, b, c := one("a"), one("b"), one("c")
	long := strings.Repeat("x", 40)
	for s, want := range map[string]api.Ask{
		// Words, prefixes, phrases; normed.
		"a": a, "A": a, "42": one("42"), "To": one("to"), "ÉTÉ": one("été"), "\u212a": one("k"), "Ⱥb": one("ⱥb"), "語": one("語"), "٣": one("٣"), long: one(long), strings.Repeat("X", 40): one(long),
		strings.Repeat("\u212a", 40): one(strings.Repeat("k", 40)), strings.Repeat("Ⱥ", 13): one(strings.Repeat("ⱥ", 13)),
		"a*": starred("a"), "TO*": starred("to"), "É*": starred("é"), "4*": starred("4"), long + "*": starred(long), "and*": starred("and"), "ANDy*": starred("andy"), "nOT*": starred("not"),
		`"a"`: quoted("a"), `"To be"`: quoted("to", "be"), `"a b c d"`: quoted("a", "b", "c", "d"), `"É 42"`: quoted("é", "42"), `"` + long + ` ` + long + `"`: quoted(long, long), `"a a"`: quoted("a", "a"),
		`"a b c d e f g h i j k l m n o p"`: quoted(strings.Fields("a b c d e f g h i j k l m n o p")...),
		// Filters.
		"from:0": filter(4, 0), "from:7": filter(4, 7), "since:0": filter(5, 0), "since:7": filter(5, 7), "since:1099511627776": filter(5, 1<<40), "until:0": filter(6, 0), "until:1099511627776": filter(6, 1<<40), "until:1000000000000": filter(6, 1000000000000), "since:10": filter(5, 10),
		// Operators, and what is none.
		"NOT a": no(a), "NOT NOT a": no(no(a)), "NOT NOT NOT a": no(no(no(a))), "NOT a*": no(starred("a")), "NOT from:1": no(filter(4, 1)), `NOT "a b"`: no(quoted("a", "b")),
		"a AND b": all(a, b), "a AND b AND c": all(a, b, c), "b AND a": all(b, a), "a AND a": all(a, a), "a OR b": some(a, b), "a OR b OR c": some(a, b, c),
		"a OR b AND c": some(a, all(b, c)), "a AND b OR c": some(all(a, b), c), "a AND b OR b AND c": some(all(a, b), all(b, c)), "a OR b AND c OR a": some(a, all(b, c), a),
		"NOT a AND b": all(no(a), b), "NOT a OR b": some(no(a), b), "a AND NOT NOT b": all(a, no(no(b))), "a OR NOT b AND c": some(a, all(no(b), c)),
		"and": one("and"), "or": one("or"), "not": one("not"), "And": one("and"), "aNd": one("and"), "Or": one("or"), "oR": one("or"), "Not": one("not"), "NOt": one("not"), "ANDA": one("anda"), "NOTa": one("nota"), "ORR": one("orr"), "and AND and": all(one("and"), one("and")), "or OR or": some(one("or"), one("or")), "NOT not": no(one("not")),
		`"AND"`: quoted("and"), `"OR"`: quoted("or"), `"NOT"`: quoted("not"), `"a AND b"`: quoted("a", "and", "b"), `"NOT a OR"`: quoted("not", "a", "or"), `"AND OR" AND "NOT"`: all(quoted("and", "or"), quoted("not")),
		"from": one("from"), "since AND until": all(one("since"), one("until")), "limit OR after": some(one("limit"), one("after")), "from*": starred("from"), "FROM": one("from"), `"from"`: quoted("from"), `"limit 5"`: quoted("limit", "5"),
		// Brackets.
		"( a )": a, "( ( a ) )": a, "( ( ( ( ( ( ( ( a ) ) ) ) ) ) ) )": a, "( NOT a )": no(a), "NOT ( a )": no(a), `( "a b" )`: quoted("a", "b"), "( a ) AND ( b )": all(a, b), "( a OR b )": some(a, b),
		"( a OR b ) AND c": all(some(a, b), c), "a AND ( b OR c )": all(a, some(b, c)), "a AND ( b AND c )": all(a, all(b, c)), "( a AND b ) AND c": all(all(a, b), c), "( a AND b AND c )": all(a, b, c), "a OR ( b OR c )": some(a, some(b, c)), "( a OR b ) OR c": some(some(a, b), c), "a OR ( b AND c )": some(a, all(b, c)), "( a AND b ) OR c": some(all(a, b), c),
		"NOT ( a OR b )": no(some(a, b)), "NOT ( a AND b )": no(all(a, b)), "NOT ( NOT a )": no(no(a)), "NOT ( a OR b ) AND c": all(no(some(a, b)), c), "( ( a OR b ) AND c ) OR a": some(all(some(a, b), c), a), "( ( a AND b ) AND ( b AND c ) )": all(all(a, b), all(b, c)), "( ( a AND b ) )": all(a, b), "a AND ( ( b AND c ) )": all(a, all(b, c)),
		// At the limits.
		strings.Repeat("NOT ", 5) + "a": nots(5, a), "( a AND " + strings.Repeat("NOT ", 4) + "a )": all(a, nots(4, a)), "a" + strings.Repeat(" AND a", 15): all(times(16, a)...), "a" + strings.Repeat(" OR a", 15): some(times(16, a)...),
		`"a b c d e f g h" AND "a b c d e f g h"`: all(quoted(strings.Fields("a b c d e f g h")...), quoted(strings.Fields("a b c d e f g h")...)),
	} {
		reads(t, s, api.Query{Ask: want, Limit: 50})
		for many := 1; many <= 50; many += 49 {
			with := s + " limit:" + strconv.Itoa(many)
			reads(t, with, api.Query{Ask: want, Limit: many})
			reads(t, with+" after:5.1.2.9", api.Query{Ask: want, Limit: many, After: place(5, 1, 2, 9)})
		}
		reads(t, s+" after:0.0.0.1", api.Query{Ask: want, Limit: 50, After: place(0, 0, 0, 1)})
	}
}

func TestReadOfLimitAndAfter(t *testing.T) {
	a := one("a")
	for many := 1; many <= 50; many++ {
		reads(t, "a limit:"+strconv.Itoa(many), api.Query{Ask: a, Limit: many})
	}
	for s, want := range map[string]api.Record{
		"5.1.2.9": place(5, 1, 2, 9), "0.0.0.1": place(0, 0, 0, 1), "0.0.0.1023": place(0, 0, 0, 1023), "0.0.7.1": place(0, 0, 7, 1), "0.65535.0.1": place(0, 65535, 0, 1), "1099511627776.0.0.1": place(1<<40, 0, 0, 1), "1099511627776.65535.7.1023": place(1<<40, 65535, 7, 1023),
	} {
		reads(t, "a after:"+s, api.Query{Ask: a, Limit: 50, After: want})
		reads(t, "a limit:50 after:"+s, api.Query{Ask: a, Limit: 50, After: want})
		reads(t, "( a ) limit:1 after:"+s, api.Query{Ask: a, Limit: 1, After: want})
	}
	for _, s := range []string{
		"limit:", "limit:0", "limit:51", "limit:07", "limit:007", "limit:00", "limit:-1", "limit:+5", "limit:x", "limit:5x", "limit:5.", "limit:5.0", "limit: 5", "limit:1099511627776", "limit:9999999999999", "limit:10000000000000", "limit:18446744073709551617", "LIMIT:5", "Limit:5", "limit:٣", "limit:5*", `limit:"5"`, `"limit:5"`, "limit 5", "limit:5 limit:5", "limit:5 limit:6", "limit:5 b", "limit:5 AND b", "limit:5 )", "limit:5 ", " limit:5", "limit:5 after:5.1.2.9 b", "limit:5 after:5.1.2.9 ", "after:5.1.2.9 limit:5", "after:5.1.2.9 after:5.1.2.9", "limit:5 after:5.1.2.9 limit:5", "limit:5 limit:5 after:5.1.2.9", "limit:5 after:5.1.2.9 after:5.1.2.9", "after:5.1.2.9 b", "after:5.1.2.9 OR b", "after:5.1.2.9 ", " after:5.1.2.9",
		"after:", "after:5", "after:5.1", "after:5.1.2", "after:5.1.2.9.1", "after:5.1.2.9.0", "after:5.1.2.9.", "after:.5.1.2.9", "after:5.1..9", "after:5..1.2.9", "after:...", "after:....", "after:.", "after:5,1,2,9", "after:5 1 2 9", "after: 5.1.2.9", "after:5.1.2.9x", "after:x.1.2.9", "after:5.1.2.-9", "after:+5.1.2.9", "after:-5.1.2.9", "after:05.1.2.9", "after:5.01.2.9", "after:5.1.02.9", "after:5.1.2.09", "after:00.0.0.1", "after:0.0.0.0", "after:5.1.2.0", "after:0.0.1.0", "after:0.1.0.0", "after:1.0.0.0", "after:5.1.8.9", "after:5.1.2.1024", "after:5.65536.2.9", "after:1099511627777.1.2.9", "after:9999999999999.1.2.9", "after:10000000000000.1.2.9", "after:18446744073709551617.1.2.9", "after:5.1.2.18446744073709551617", "After:5.1.2.9", "AFTER:5.1.2.9", "after:5.1.2.٣", "after 5.1.2.9", "limit:5after:5.1.2.9", "limit:0 after:5.1.2.9", "limit:51 after:5.1.2.9",
		"limit:5 after:0.0.0.0", "limit:5  after:5.1.2.9",
	} {
		refuses(t, "a "+s)
		refuses(t, "( a OR b ) "+s)
		refuses(t, "( a "+s+" )")
		refuses(t, s+" AND a")
		refuses(t, "NOT "+s)
	}
	for _, s := range []string{"a limit", "a after", "a limit after", "a AND limit:5", "a AND after:5.1.2.9", "limit:5", "after:5.1.2.9", "limit:5 after:5.1.2.9", "limit:5 a", "( a limit:5 )", "( a limit:5 ) limit:5", "( a after:5.1.2.9 )", "a limit:5 AND b limit:5", "NOT limit:5", "( limit:5 )", "() limit:5", "a  limit:5", "a\tlimit:5", "alimit:5"} {
		refuses(t, s)
	}
}

func TestReadOfWhatIsNone(t *testing.T) {
	for _, s := range []string{
		"", " ", "  ", "a ", " a", "a  ", "  a", "a  b", "a b", "a b c", "a  AND b", "a AND  b", "a AND b ", " a AND b", "a\tb", "a\nb", "a\n", "\na", "a\u00a0AND\u00a0b", "a\u3000b", "\t", "\n",
		"AND", "OR", "NOT", "a AND", "a OR", "a NOT", "AND a", "OR a", "a AND OR b", "a OR AND b", "a AND AND b", "a OR OR b", "a NOT b", "NOT AND a", "NOT OR", "NOT NOT", "a AND NOT", "NOT a b", "a NOT AND b", "AND AND AND", "OR OR OR", "AND OR NOT", "a AND ", "NOT ",
		"(", ")", "( )", "()", "( a", "a )", "a (", ") a", ") a (", ") (", "( ( a )", "( a ) )", "(a)", "(a )", "( a)", "((", "( (", ") )", "( ) a", "a ( )", "( a ) b", "a ( b )", "( a ) ( b )", "( a b )", "( a AND )", "( AND a )", "( a AND b", "a AND b )", "a AND ( b", "a AND ) b", "NOT ( )", "NOT ( a", "( NOT )", "a AND ( )", "( a ) AND", "( a OR b ) AND ( c", "[ a ]", "( a  )", "(  a )",
		"a-b", "a_b", "a.b", "a,", "a:b", "a:", ":", ":1", "-a", "e\u0301", "a!", "a'b", "a\x00", "\x00", "'a'",
		"*", "**", "*a", "a**", "a *", "* a", "a*b", "*a*", "AND*", "OR*", "NOT*", "NOT* a", "a AND*", "a*AND b", "(*", "from*:1", "from:*", "a-*",
		`"`, `""`, `"""`, `""""`, `" "`, `"a`, `a"`, `"a b`, `a b"`, `" a"`, `"a "`, `"a  b"`, `"a"b`, `a"b"`, `"a""b"`, `"a" "b"`, `"a" b`, `"a-b"`, `"a*"`, `"a"*`, `"a b"*`, `"( a )"`, `"a" AND`, `"a" "`, `"a" AND "`, `"a AND b`, `"a" AND "b`, `"a"b" c"`, `"a b"c d"`, `"a	b"`, "\"a\u00a0b\"", `"from:1"`, `a AND ""`, `NOT ""`, `"\"a"`, `'a b'`, `"a")`, `("a")`, `""a""`, `"AND`, `OR"`, `"a" OR"b"`, `"a"OR "b"`, `"a" limit:5"`,
		"from:", "from: 1", "from:8", "from:01", "from:00", "from:x", "from:-1", "from:+1", "from:1.0", "from:1 ", "from :1", "From:1", "FROM:1", "from:1:2", "from::1", "from:1x", "from:x1", "from:٣", "from:1*", `from:"1"`, `"from:1`, "from:1099511627776", "from:9999999999999", "from:10000000000000", "from:18446744073709551616", "from:18446744073709551617", "from:9223372036854775808", "from:1e1", "from:0x1", "from:1_0", "a from:1", "from:1 from:2", "from:1 a",
		"since:", "since:01", "since:-1", "since:+1", "since:1099511627777", "since:9999999999999", "since:12345678901234", "since:00000000000001", "since:01099511627776", "since:18446744073709551616", "Since:1", "until:", "until:01", "until:-1", "until:+1", "until:1099511627777", "until:12345678901234", "until:0000000000000", "until:18446744073709551617", "Until:1", "UNTIL:1", "before:1", "to:1", "limit:", "after:",
		"\xff", "a\xff", "\xffa", "a AND \xff", "\"\xff\"", "\"a \xff\"", "a\xff*", "\xc3", "\xc3\x28", "\xed\xa0\x80", "\xc0\x80", "from:\xff", "\ufffd", "a limit:\xff", "a limit:5\xff", "a\xff limit:5", "\xff a", "a \xff",
		strings.Repeat("NOT ", 6) + "a", "a AND " + strings.Repeat("NOT ", 5) + "a", "a" + strings.Repeat(" AND a", 16), "a" + strings.Repeat(" OR a", 16), `"a b c d e f g h i j k l m n o p q"`, `"a b c d e f g h" AND "a b c d e f g h" AND a`,
		strings.Repeat("x", 41), strings.Repeat("x", 41) + "*", `"` + strings.Repeat("x", 41) + `"`, strings.Repeat("x", 200), strings.Repeat("x", 201), strings.Repeat("Ⱥ", 20), strings.Repeat("\u212a", 41),
		strings.Repeat(" ", 200), strings.Repeat("(", 200), strings.Repeat("( ", 100), strings.Repeat(") ", 100), strings.Repeat("NOT ", 50), strings.Repeat(`"`, 200), strings.Repeat("AND ", 50), strings.Repeat("*", 200), strings.Repeat("a ", 100), strings.Repeat("\xff", 200), "from:" + strings.Repeat("9", 195), "a after:" + strings.Repeat(".", 190), "a after:" + strings.Repeat("1.", 90) + "1",
	} {
		refuses(t, s)
	}
}

func TestReadOfLetters(t *testing.T) {
	// Each letter by itself: it is read as it is normed, unless norming that would change it once more.
	for r := rune(0); r <= unicode.MaxRune; r++ {
		if !unicode.IsLetter(r) && !unicode.IsDigit(r) {
			continue
		}
		lower := unicode.ToLower(r)
		want, code := api.Query{Ask: one(string(lower)), Limit: 50}, api.OK
		if unicode.ToLower(lower) != lower || !unicode.IsLetter(lower) && !unicode.IsDigit(lower) {
			want, code = api.Query{}, api.ErrQuery
		}
		if q, e := Read(string(r)); e != code || !Same(q.Ask, want.Ask) || q.Limit != want.Limit {
			t.Fatalf("P14.2: Read of %U: %v, %d", r, q, e)
		}
	}
}

func TestReadOfMaxQuery(t *testing.T) {
	x := strings.Repeat("x", 40)
	for many := 20; many <= 26; many++ {
		y := strings.Repeat("y", many)
		s := strings.Join([]string{x, x, x, x, y}, " OR ")
		q := api.Query{Ask: some(one(x), one(x), one(x), one(x), one(y)), Limit: 50}
		if len(s) <= 200 {
			reads(t, s, q)
		} else {
			refuses(t, s)
		}
	}
	// What is too long may be many other things, too.
	for _, s := range []string{strings.Repeat("( ", 99) + "a" + strings.Repeat(" )", 99), strings.Repeat("a", 201), strings.Repeat("a ", 1<<16), strings.Repeat(" ", 1<<20), strings.Repeat("(", 1<<20), strings.Repeat("( ", 1<<20), strings.Repeat("NOT ", 1<<20) + "a"} {
		refuses(t, s)
	}
	for deep := 40; deep <= 60; deep++ {
		s := strings.Repeat("( ", deep) + "a" + strings.Repeat(" )", deep)
		if len(s) <= 200 {
			reads(t, s, api.Query{Ask: one("a"), Limit: 50})
		} else {
			refuses(t, s)
		}
	}
}

func TestWrite(t *testing.T) {
	a, b, c := one("a"), starred("b"), quoted("c", "d")
	for want, q := range map[string]api.Query{
		"a limit:50":                                         {Ask: a, Limit: 50},
		"a limit:1 after:5.1.0.9":                            {Ask: a, Limit: 1, After: place(5, 1, 0, 9)},
		"a limit:2 after:0.0.0.1":                            {Ask: a, Limit: 2, After: place(0, 0, 0, 1)},
		"a limit:2 after:1099511627776.65535.7.1023":         {Ask: a, Limit: 2, After: place(1<<40, 65535, 7, 1023)},
		"b* limit:10":                                        {Ask: b, Limit: 10},
		`"c d" limit:3`:                                      {Ask: c, Limit: 3},
		`"and" limit:3`:                                      {Ask: quoted("and"), Limit: 3},
		"and limit:3":                                        {Ask: one("and"), Limit: 3},
		"from:0 limit:3":                                     {Ask: filter(4, 0), Limit: 3},
		"since:10 limit:3":                                   {Ask: filter(5, 10), Limit: 3},
		"until:1099511627776 limit:3":                        {Ask: filter(6, 1<<40), Limit: 3},
		"NOT a limit:3":                                      {Ask: no(a), Limit: 3},
		"NOT NOT NOT a limit:3":                              {Ask: nots(3, a), Limit: 3},
		`NOT "c d" limit:3`:                                  {Ask: no(c), Limit: 3},
		`a AND b* AND "c d" limit:3`:                         {Ask: all(a, b, c), Limit: 3},
		`a OR b* OR "c d" limit:3`:                           {Ask: some(a, b, c), Limit: 3},
		"a AND b* OR a limit:3":                              {Ask: some(all(a, b), a), Limit: 3},
		"a OR b* AND a limit:3":                              {Ask: some(a, all(b, a)), Limit: 3},
		"( a OR b* ) AND a limit:3":                          {Ask: all(some(a, b), a), Limit: 3},
		"a AND ( b* AND a ) limit:3":                         {Ask: all(a, all(b, a)), Limit: 3},
		"a OR ( b* OR a ) limit:3":                           {Ask: some(a, some(b, a)), Limit: 3},
		"( a OR a ) OR ( b* OR a ) limit:3":                  {Ask: some(some(a, a), some(b, a)), Limit: 3},
		"NOT ( a AND b* ) limit:3":                           {Ask: no(all(a, b)), Limit: 3},
		"NOT ( a OR b* ) limit:3":                            {Ask: no(some(a, b)), Limit: 3},
		"NOT NOT ( a OR b* ) limit:3":                        {Ask: no(no(some(a, b))), Limit: 3},
		"a AND NOT b* limit:3":                               {Ask: all(a, no(b)), Limit: 3},
		"NOT a OR NOT b* limit:3":                            {Ask: some(no(a), no(b)), Limit: 3},
		"a AND NOT ( a AND b* OR a ) limit:3":                {Ask: all(a, no(some(all(a, b), a))), Limit: 3},
		"( a AND b* OR a ) AND ( a AND ( a OR a ) ) limit:3": {Ask: all(some(all(a, b), a), all(a, some(a, a))), Limit: 3},
	} {
		if s, e := Write(q); s != want || e != api.OK {
			t.Errorf("P14.2: Write: %q, %d, not %q", s, e, want)
		}
		writes(t, q)
	}
}

func TestWriteOfWhatMayNotBe(t *testing.T) {
	a := one("a")
	refused := func(q api.Query) {
		t.Helper()
		if s, e := Write(q); s != "" || e != api.ErrArg {
			t.Errorf("P14.2: Write of %.200s, %d, %v: %q, %d", told(q.Ask), q.Limit, q.After, s, e)
		}
		if mayBeAsked(q) && len(writeOut(q)) <= 200 {
			t.Errorf("P14.2: %s, %d, %v was told to be none", told(q.Ask), q.Limit, q.After)
		}
	}
	refused(api.Query{})
	for _, n := range append(far(), 0, 51, 52, 1000) {
		refused(api.Query{Ask: a, Limit: n})
		refused(api.Query{Ask: a, Limit: n, After: place(5, 1, 2, 9)})
	}
	for _, bad := range []api.Ask{{}, one(""), one("A"), one("AND"), one("a b"), one("a*"), starred("a*"), quoted(), quoted("a b"), quoted(strings.Fields(strings.Repeat("a ", 17))...), one(strings.Repeat("x", 41)), filter(4, 8), filter(4, -1), filter(5, 1<<40+1), filter(10, 1), {Kind: 4, N: 1, Words: []string{"a"}}, all(a), some(), no(), no(a, a), nots(6, a), all(times(17, a)...), all(a, one("B"))} {
		refused(api.Query{Ask: bad, Limit: 1})
		refused(api.Query{Ask: bad, Limit: 1, After: place(5, 1, 2, 9)})
	}
	bads := []api.Record{place(5, 1, 2, 0), place(5, 1, 2, -1), place(5, 1, 2, 1024), place(5, 1, -1, 9), place(5, 1, 8, 9), place(5, -1, 2, 9), place(5, 65536, 2, 9), place(-1, 1, 2, 9), place(1<<40+1, 1, 2, 9), place(1, 0, 0, 0), place(0, 1, 0, 0), place(0, 0, 1, 0), {Text: "x"}, {Text: "\xff"}}
	for _, n := range far() {
		bads = append(bads, place(n, 1, 2, 9), place(5, n, 2, 9), place(5, 1, n, 9), place(5, 1, 2, n))
	}
	for _, text := range []string{"x", " ", "\xff", strings.Repeat("x", 120), strings.Repeat("x", 121)} {
		r := place(5, 1, 2, 9)
		r.Text = text
		bads = append(bads, r)
	}
	for _, bad := range bads {
		refused(api.Query{Ask: a, Limit: 1, After: bad})
		refused(api.Query{Ask: a, Limit: 50, After: bad})
	}
	// A text of MaxQuery bytes, and of one more: by a word, by the limit, by the place.
	x := one(strings.Repeat("x", 40))
	four := []api.Ask{x, x, x, x}
	for many := 1; many <= 40; many++ {
		y := one(strings.Repeat("y", many))
		for _, q := range []api.Query{{Ask: some(append(four, y)...), Limit: 5}, {Ask: some(append(four, y)...), Limit: 50}, {Ask: all(x, x, x, no(some(y, one("z")))), Limit: 1, After: place(12345, 1, 2, 9)}} {
			writes(t, q)
			if len(writeOut(q)) > 200 {
				refused(q)
			}
		}
	}
	// It is read, as no limit is told; with one told it would be too long.
	s := strings.Join([]string{x.Words[0], x.Words[0], x.Words[0], x.Words[0], strings.Repeat("y", 24)}, " OR ")
	if q, e := Read(s); len(s) != 200 || e != api.OK {
		t.Errorf("P14.2: Read(%q): %d", s, e)
	} else {
		refused(q)
	}
}

// drawer draws questions and texts.
type drawer struct{ *rand.Rand }

// word is a word as it's normed.
func (d drawer) word() string {
	words := []string{"a", "b", "to", "be", "and", "or", "not", "from", "limit", "été", "42", "0", "語", "ⱥ", "xxxxxxxxxx"}
	return words[d.IntN(len(words))]
}

// ask is an Ask of at most so many terms, so deep, that may be.
func (d drawer) ask(terms, deep int) api.Ask {
	kind := 1 + d.IntN(9)
	if kind >= api.AskAnd && (deep == 1 || terms < 2) {
		kind -= 6
	}
	switch kind {
	case api.AskWord, api.AskPrefix:
		return api.Ask{Kind: kind, Words: []string{d.word()}}
	case api.AskPhrase:
		var ws []string
		for range 1 + d.IntN(min(terms, 4)) {
			ws = append(ws, d.word())
		}
		return api.Ask{Kind: kind, Words: ws}
	case api.AskFrom:
		return filter(kind, d.IntN(8))
	case api.AskSince, api.AskUntil:
		return filter(kind, []int{0, 9, 10, 12345, 1<<40 - 1, 1 << 40}[d.IntN(6)])
	case api.AskNot:
		return no(d.ask(terms, deep-1))
	}
	many := 2 + d.IntN(min(terms, 4)-1)
	a := api.Ask{Kind: kind}
	for range many {
		a.Subs = append(a.Subs, d.ask(terms/many, deep-1))
	}
	return a
}

// query is a query that may be.
func (d drawer) query() api.Query {
	q := api.Query{Ask: d.ask(1+d.IntN(16), 1+d.IntN(6)), Limit: 1 + d.IntN(50)}
	if d.IntN(3) == 0 {
		q.After = place(d.IntN(1<<40+1), d.IntN(65536), d.IntN(8), 1+d.IntN(1023))
	}
	return q
}

// text is a text that is often a question's.
func (d drawer) text(deep int) string {
	words := []string{"a", "B", "a*", "É*", `"a b"`, `"NOT A"`, "from:3", "since:7", "until:0", "and", "42"}
	if deep == 0 {
		return words[d.IntN(len(words))]
	}
	switch d.IntN(6) {
	case 0:
		return "( " + d.text(deep-1) + " )"
	case 1:
		return "NOT " + d.text(deep-1)
	case 2, 3:
		return d.text(deep-1) + " AND " + d.text(deep-1)
	case 4:
		return d.text(deep-1) + " OR " + d.text(deep-1)
	}
	return words[d.IntN(len(words))]
}

// end is a text's end.
func (d drawer) end() string {
	return []string{"", "", "", " limit:7", " after:5.1.2.9", " limit:50 after:0.0.0.1", " limit:0"}[d.IntN(7)]
}

// spoilt is s with an item or a byte taken out, put in, or changed.
func (d drawer) spoilt(s string) string {
	bits := []string{" ", "(", ")", "*", `"`, "AND", "OR", "NOT", " AND ", " OR ", "NOT ", "( ", " )", "a", "B", "0", "1", ":", ".", "-", "\xff", "é", "from:", " limit:3", " after:1.1.1.1", "( )"}
	bit := bits[d.IntN(len(bits))]
	at := d.IntN(len(s) + 1)
	behind := min(len(s), at+d.IntN(3))
	switch d.IntN(4) {
	case 0:
		return s[:at] + s[behind:]
	case 1:
		return s[:at] + bit + s[behind:]
	case 2:
		items := strings.Split(s, " ")
		i, j := d.IntN(len(items)), d.IntN(len(items))
		items[i], items[j] = items[j], items[i]
		return strings.Join(items, " ")
	}
	items := strings.Split(s, " ")
	return strings.Join(slices.Insert(items, d.IntN(len(items)+1), strings.Trim(bit, " ")), " ")
}

func TestDrawnQueries(t *testing.T) {
	d := drawer{rand.New(rand.NewPCG(14, 1))}
	short := 0
	for range 20000 {
		q := d.query()
		if !mayBeAsked(q) || !May(q.Ask) {
			t.Fatalf("P14.1: May of %s: false", told(q.Ask))
		}
		writes(t, q)
		if len(writeOut(q)) <= 200 {
			short++
		}
		terms, deep := counted(q.Ask)
		if Terms(q.Ask) != terms || Deep(q.Ask) != deep {
			t.Fatalf("P14.1: Terms, Deep of %s", told(q.Ask))
		}
		other := d.query()
		if Same(q.Ask, other.Ask) != alike(q.Ask, other.Ask) || !Same(q.Ask, copied(q.Ask, 1)) {
			t.Fatalf("P14.1: Same of %s, %s", told(q.Ask), told(other.Ask))
		}
		if t.Failed() {
			return
		}
	}
	if short < 10000 {
		t.Errorf("just %d texts are short enough", short)
	}
}

func TestDrawnTexts(t *testing.T) {
	d := drawer{rand.New(rand.NewPCG(14, 2))}
	good, bad := 0, 0
	for range 40000 {
		s := d.text(d.IntN(5)) + d.end()
		for range d.IntN(3) {
			s = d.spoilt(s)
		}
		want, ok := readOut(s)
		q, e := Read(s)
		if ok != (e == api.OK) || !ok && e != api.ErrQuery || !sameQuery(q, want) {
			t.Fatalf("P14.2: Read(%q): %s, %d, %v, error %d, not %s, %d, %v", s, told(q.Ask), q.Limit, q.After, e, told(want.Ask), want.Limit, want.After)
		}
		if !ok {
			bad++
			continue
		}
		good++
		writes(t, q)
	}
	if good < 5000 || bad < 5000 {
		t.Errorf("%d texts are good, %d are bad", good, bad)
	}
}

// copied is a copy of an Ask, of which each list has so much spare room, with something in it.
func copied(a api.Ask, spare int) api.Ask {
	b := a
	b.Words = append([]string{}, a.Words...)
	b.Subs = []api.Ask{}
	for _, sub := range a.Subs {
		b.Subs = append(b.Subs, copied(sub, spare))
	}
	for range spare {
		b.Words, b.Subs = append(b.Words, "SPARE"), append(b.Subs, api.Ask{Kind: 77, Words: []string{"SPARE"}})
	}
	b.Words, b.Subs = b.Words[:len(a.Words)], b.Subs[:len(a.Subs)]
	return b
}

// roomy is all that stands in an Ask, its spare room too.
func roomy(a api.Ask) string {
	s := "<" + strconv.Itoa(a.Kind) + " " + strconv.Itoa(a.N) + " " + strconv.Itoa(len(a.Words))
	for _, w := range a.Words[:cap(a.Words)] {
		s += " " + strconv.Quote(w)
	}
	s += " " + strconv.Itoa(len(a.Subs))
	for _, sub := range a.Subs[:cap(a.Subs)] {
		s += roomy(sub)
	}
	return s + ">"
}

// trampled fills all lists of an Ask, and their spare room, with a mark; it ends with the lists nearest to the root.
func trampled(a api.Ask, mark string) {
	for i := range a.Words[:cap(a.Words)] {
		a.Words[:cap(a.Words)][i] = mark
	}
	for _, sub := range a.Subs {
		trampled(sub, mark)
	}
	for i := range a.Subs[:cap(a.Subs)] {
		a.Subs[:cap(a.Subs)][i] = one(mark)
	}
}

func TestNothingHandedInIsChanged(t *testing.T) {
	d := drawer{rand.New(rand.NewPCG(14, 3))}
	for i := range 500 {
		q := d.query()
		if i%3 == 0 {
			q.Ask = no(q.Ask, one("NOT NORMED"), all(q.Ask))
		}
		q.Ask = copied(q.Ask, i%4)
		before := roomy(q.Ask)
		s, e := Write(q)
		May(q.Ask)
		Terms(q.Ask)
		Deep(q.Ask)
		Same(q.Ask, q.Ask)
		Same(q.Ask, copied(q.Ask, 2))
		if roomy(q.Ask) != before {
			t.Fatalf("R4: %s was changed", before)
		}
		// What was written and read is not the query's memory.
		back, _ := Read(s)
		trampled(back.Ask, "mark")
		if roomy(q.Ask) != before {
			t.Fatalf("R4: what Read answers shares memory with %s", before)
		}
		trampled(q.Ask, "mark")
		if e == api.OK && s == "" {
			t.Fatal("R4: Write")
		}
	}
}

// lists are all lists of words of an Ask, and all of its lists of Subs.
func lists(a api.Ask) ([][]string, [][]api.Ask) {
	as, _ := parts(a)
	var words [][]string
	var subs [][]api.Ask
	for _, x := range as {
		words, subs = append(words, x.Words), append(subs, x.Subs)
	}
	return words, subs
}

func TestAnswersShareNoMemory(t *testing.T) {
	for _, s := range []string{"a", "a*", `"a b c"`, "a AND a", `"a b" AND "a b" AND "a b"`, "NOT ( a OR b OR c ) AND ( a OR b OR c )", "a OR b OR c OR d OR e", "( a AND b AND c ) AND ( a AND b AND c )", "NOT NOT NOT a", `"a b c d e" OR NOT "a b c d e"`} {
		one, _ := Read(s)
		other, _ := Read(s)
		before := told(other.Ask)
		trampled(one.Ask, "mark")
		if told(other.Ask) != before {
			t.Errorf("R4: two answers of Read(%q) share memory", s)
		}
		again, e := Read(s)
		if told(again.Ask) != before || e != api.OK {
			t.Errorf("R5: Read(%q), once more: %s", s, told(again.Ask))
		}
		// Within one answer: each list is marked by its number, in its spare room too.
		words, subs := lists(other.Ask)
		for i, l := range words {
			for j := range l[:cap(l)] {
				l[:cap(l)][j] = strconv.Itoa(i)
			}
		}
		for i, l := range subs {
			for j := range l[:cap(l)] {
				l[:cap(l)][j].N = i
			}
		}
		for i, l := range words {
			if slices.ContainsFunc(l, func(w string) bool { return w != strconv.Itoa(i) }) {
				t.Errorf("R4: two lists of words of Read(%q) share memory", s)
			}
		}
		for i, l := range subs {
			if slices.ContainsFunc(l, func(a api.Ask) bool { return a.N != i }) {
				t.Errorf("R4: two lists of Subs of Read(%q) share memory", s)
			}
		}
	}
}

func TestAtOneTime(t *testing.T) {
	q := api.Query{Ask: copied(some(all(one("a"), no(starred("b"))), quoted("c", "d"), filter(4, 3), filter(6, 9)), 3), Limit: 7, After: place(5, 1, 2, 9)}
	s := writeOut(q)
	var g sync.WaitGroup
	for range 8 {
		g.Go(func() {
			for range 200 {
				back, e := Read(s)
				if text, code := Write(q); text != s || code != api.OK || e != api.OK || !Same(back.Ask, q.Ask) || !May(q.Ask) || Terms(q.Ask) != 6 || Deep(q.Ask) != 4 {
					t.Error("R5: other answers at one time")
				}
				trampled(back.Ask, "mark")
			}
		})
	}
	g.Wait()
}

func TestSize(t *testing.T) {
	// Of 2^16 parts, and nested 1,000 deep: wide, deep, and both.
	wide := all(times(1<<16-1, one("a"))...)
	many := quoted(slices.Repeat([]string{"a"}, 1<<16)...)
	deep := nots(999, one("a"))
	both := one("a")
	for range 999 {
		both = all(append(times(64, one("a")), both)...)
	}
	for _, x := range []struct {
		a           api.Ask
		terms, deep int
	}{{wide, 1<<16 - 1, 2}, {many, 1 << 16, 1}, {deep, 1, 1000}, {both, 999*64 + 1, 1000}, {no(one(strings.Repeat("x", 1<<20))), 1, 2}} {
		for range 20 {
			if May(x.a) || Terms(x.a) != x.terms || Deep(x.a) != x.deep || !Same(x.a, x.a) || Same(x.a, no(x.a)) {
				t.Errorf("P14.1: of %d terms, %d deep: %v, %d, %d", x.terms, x.deep, May(x.a), Terms(x.a), Deep(x.a))
			}
			if s, e := Write(api.Query{Ask: x.a, Limit: 1}); s != "" || e != api.ErrArg {
				t.Errorf("P14.2: Write of %d terms, %d deep: %q, %d", x.terms, x.deep, s, e)
			}
		}
	}
}
