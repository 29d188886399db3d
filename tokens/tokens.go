// Package tokens finds the words of texts. Its chapter: shared/doc/01-tokens.md.
package tokens

import (
	"strings"
	"unicode"
	"unicode/utf8"

	"grapevine/api"
)

// May tells whether a text may be: at most MaxText bytes, and UTF-8.
func May(s string) bool {
	return len(s) <= api.MaxText && utf8.ValidString(s)
}

// Of answers the words of a text that may be, numbered from 0; none of others.
func Of(s string) []api.Word {
	if !May(s) {
		return nil
	}
	var words []api.Word
	begin, inside := 0, false
	for i, r := range s {
		if letter(r) == inside {
			continue
		}
		if inside {
			words = behind(words, s[begin:i])
		}
		begin, inside = i, !inside
	}
	if inside {
		words = behind(words, s[begin:])
	}
	return words
}

// Norm answers s in lower case, rune by rune; the empty text of what is no UTF-8.
func Norm(s string) string {
	// Ranging over bytes that are no UTF-8 would put runes there that s has not.
	if !utf8.ValidString(s) {
		return ""
	}
	var b strings.Builder
	for _, r := range s {
		b.WriteRune(unicode.ToLower(r))
	}
	return b.String()
}

// One tells whether s is one word: UTF-8, not empty, and all letters.
func One(s string) bool {
	if s == "" || !utf8.ValidString(s) {
		return false
	}
	for _, r := range s {
		if !letter(r) {
			return false
		}
	}
	return true
}

// letter tells whether a rune belongs to words: digits do, too.
func letter(r rune) bool {
	return unicode.IsLetter(r) || unicode.IsDigit(r)
}

// behind puts a run of letters behind the words ahead of it, normed and numbered.
func behind(words []api.Word, run string) []api.Word {
	return append(words, api.Word{Text: Norm(run), At: len(words)})
}
