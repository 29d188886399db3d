package ask

import (
	"strconv"
	"strings"

	"grapevine/api"
)

// Write answers the text of a query.
func Write(q api.Query) (string, api.Errno) {
	if !mayQuery(q) {
		return "", api.ErrArg
	}
	text := strings.Join(queryItems(q), blank)
	if len(text) > api.MaxQuery {
		return "", api.ErrArg
	}
	return text, api.OK
}

// queryItems answers what stands in a query's text, blanks between.
func queryItems(q api.Query) []string {
	items := []string{askText(q.Ask), limit + strconv.Itoa(q.Limit)}
	if p := q.After; p != (api.Record{}) {
		items = append(items, after+numbers(p.Wall, p.Count, p.Origin, p.Seq))
	}
	return items
}

// numbers answers the text of numbers, dots between.
func numbers(ns ...int) string {
	texts := make([]string, len(ns))
	for i, n := range ns {
		texts[i] = strconv.Itoa(n)
	}
	return strings.Join(texts, dot)
}

// askText answers the text of a question that may be.
func askText(a api.Ask) string {
	switch a.Kind {
	case api.AskWord:
		return a.Words[0]
	case api.AskPrefix:
		return a.Words[0] + star
	case api.AskPhrase:
		return quote + strings.Join(a.Words, blank) + quote
	case api.AskNot:
		return not + blank + subText(a.Subs[0], a.Kind)
	case api.AskAnd:
		return joinedText(a, and)
	case api.AskOr:
		return joinedText(a, or)
	}
	return filterText(a)
}

// joinedText answers the text of all Subs of a question, an operator between.
func joinedText(a api.Ask, operator string) string {
	texts := make([]string, len(a.Subs))
	for i, sub := range a.Subs {
		texts[i] = subText(sub, a.Kind)
	}
	return strings.Join(texts, blank+operator+blank)
}

// subText answers the text of a Sub of a question of this kind: in brackets where it would be read otherwise without.
func subText(sub api.Ask, above int) string {
	if bracketed(sub.Kind, above) {
		return open + blank + askText(sub) + blank + shut
	}
	return askText(sub)
}

// bracketed tells whether a Sub of a kind stands in brackets, of a question of the kind above. Of an AskOr an AskAnd doesn't: AND binds its ones more.
func bracketed(kind, above int) bool {
	switch kind {
	case api.AskOr:
		return true
	case api.AskAnd:
		return above != api.AskOr
	}
	return false
}

// filterText answers the text of a filter.
func filterText(a api.Ask) string {
	text := strconv.Itoa(a.N)
	for _, filter := range filters {
		if filter.kind == a.Kind {
			text = filter.name + text
		}
	}
	return text
}
