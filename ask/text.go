package ask

import "grapevine/api"

// What a question's text is made of, beside its words and numbers.
const (
	blank = " "
	quote = `"`
	star  = "*"
	dot   = "."
	open  = "("
	shut  = ")"
	and   = "AND"
	or    = "OR"
	not   = "NOT"
	limit = "limit:"
	after = "after:"
)

// filters are the kinds that are a name and a number behind it.
var filters = [...]struct {
	name string
	kind int
}{
	{"from:", api.AskFrom},
	{"since:", api.AskSince},
	{"until:", api.AskUntil},
}
