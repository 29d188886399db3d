package ask

import (
	"strings"

	"grapevine/api"
	"grapevine/tokens"
)

// maxDigits is how many digits a number in a question's text may have.
const maxDigits = 13

// Read answers the query whose text s is.
func Read(s string) (api.Query, api.Errno) {
	if len(s) > api.MaxQuery {
		return api.Query{}, api.ErrQuery
	}
	r := reader{source: source{text: s}}
	q := r.query()
	if r.bad || !r.ended() || !mayQuery(q) {
		return api.Query{}, api.ErrQuery
	}
	return q, api.OK
}

// source is a text, and the place where its next item begins.
type source struct {
	text string
	at   int
}

// ended tells whether all items were taken. Behind a blank one more comes always, if only an empty one: no blank ends a text.
func (s *source) ended() bool {
	return s.at > len(s.text)
}

// next answers the item that comes next, without taking it; an empty one behind the last.
func (s *source) next() string {
	if s.ended() {
		return ""
	}
	left := s.text[s.at:]
	return left[:itemEnd(left)]
}

// take answers the item that comes next, and goes behind it and its blank.
func (s *source) take() string {
	item := s.next()
	s.at += len(item) + len(blank)
	return item
}

// skip takes the next item if it is this one, and tells whether it is.
func (s *source) skip(item string) bool {
	if s.next() != item {
		return false
	}
	s.take()
	return true
}

// named takes the next item if it begins with a name: what is behind that.
func (s *source) named(name string) (string, bool) {
	rest, is := strings.CutPrefix(s.next(), name)
	if is {
		s.take()
	}
	return rest, is
}

// itemEnd answers where the item that a text begins with ends: at a blank, but not at one between quotes.
func itemEnd(text string) int {
	quoted := 0
	if inside, is := strings.CutPrefix(text, quote); is {
		// What is never closed goes to the end: it is no item then, wherever it ends.
		quoted = len(quote) + upTo(inside, quote)
	}
	return quoted + upTo(text[quoted:], blank)
}

// upTo answers where mark stands in a text first; its end, if it does not.
func upTo(text, mark string) int {
	if at := strings.Index(text, mark); at >= 0 {
		return at
	}
	return len(text)
}

// reader reads a question's text. It goes on behind what is none, and remembers that it was there.
type reader struct {
	source
	bad bool
}

// must remembers if what makes a question's text does not hold.
func (r *reader) must(holds bool) {
	r.bad = r.bad || !holds
}

// query reads the whole text.
func (r *reader) query() api.Query {
	q := api.Query{Ask: r.anyOf(), Limit: api.MaxLimit}
	if rest, told := r.named(limit); told {
		q.Limit = r.number(rest)
	}
	if rest, told := r.named(after); told {
		q.After = r.place(rest)
	}
	return q
}

// anyOf reads alls with OR between.
func (r *reader) anyOf() api.Ask {
	return r.joined(api.AskOr, or, r.allOf)
}

// allOf reads ones with AND between.
func (r *reader) allOf() api.Ask {
	return r.joined(api.AskAnd, and, r.one)
}

// joined reads parts as long as the operator stands between them: one of this kind of them all, but of one part that itself.
func (r *reader) joined(kind int, operator string, part func() api.Ask) api.Ask {
	parts := []api.Ask{part()}
	for r.skip(operator) {
		parts = append(parts, part())
	}
	if len(parts) == 1 {
		return parts[0]
	}
	return api.Ask{Kind: kind, Subs: parts}
}

// one reads what stands between operators.
func (r *reader) one() api.Ask {
	switch item := r.take(); item {
	case not:
		return api.Ask{Kind: api.AskNot, Subs: []api.Ask{r.one()}}
	case open:
		inside := r.anyOf()
		r.must(r.skip(shut))
		return inside
	default:
		return r.leaf(item)
	}
}

// leaf reads an item that is a question by itself.
func (r *reader) leaf(item string) api.Ask {
	for _, filter := range filters {
		if rest, is := strings.CutPrefix(item, filter.name); is {
			return api.Ask{Kind: filter.kind, N: r.number(rest)}
		}
	}
	if rest, is := strings.CutPrefix(item, quote); is {
		inside, closed := strings.CutSuffix(rest, quote)
		r.must(closed)
		return api.Ask{Kind: api.AskPhrase, Words: r.words(strings.Split(inside, blank)...)}
	}
	word, starred := strings.CutSuffix(item, star)
	r.must(word != and && word != or && word != not)
	if starred {
		return api.Ask{Kind: api.AskPrefix, Words: r.words(word)}
	}
	return api.Ask{Kind: api.AskWord, Words: r.words(word)}
}

// words reads words, each of which must be one: normed.
func (r *reader) words(texts ...string) []string {
	words := make([]string, len(texts))
	for i, text := range texts {
		r.must(tokens.One(text))
		words[i] = tokens.Norm(text)
	}
	return words
}

// place reads the stamp and the key behind which hits are wanted. All zeros would be no such place, but that there is none.
func (r *reader) place(text string) api.Record {
	parts := strings.Split(text, dot)
	if len(parts) != 4 {
		r.must(false)
		return api.Record{}
	}
	p := api.Record{
		Stamp: api.Stamp{Wall: r.number(parts[0]), Count: r.number(parts[1])},
		Key:   api.Key{Origin: r.number(parts[2]), Seq: r.number(parts[3])},
	}
	r.must(p != api.Record{})
	return p
}

// number reads digits, of which there are neither too many nor a needless 0 ahead.
func (r *reader) number(text string) int {
	r.must(within(len(text), 1, maxDigits) && (text == "0" || text[0] != '0'))
	n := 0
	for _, digit := range []byte(text) {
		r.must('0' <= digit && digit <= '9')
		n = n*10 + int(digit-'0')
	}
	return n
}
