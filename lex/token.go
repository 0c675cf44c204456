package lex

import (
	"strconv"
	"strings"

	"facetroom/api"
)

// signs has the longer ones ahead: where two may be, the longer one is to be found.
var signs = [...]string{
	"<<", ">>", "<=", ">=", "==", "!=", "&&", "||",
	"(", ")", "{", "}", "[", "]", ";", ",", "=", "<", ">", "+", "-", "*", "/", "%", "!",
}

// token is the one with which src begins, as if it stood at 0.
func (m marks) token(src string) (api.Token, api.Errno) {
	text := ahead(src, m.part) // letters right behind a number too, for they make it wrong
	switch {
	case text == "":
		return sign(src)
	case m.digit(rune(text[0])):
		return number(text)
	}
	return word(text)
}

func sign(src string) (api.Token, api.Errno) {
	for _, text := range signs {
		if strings.HasPrefix(src, text) {
			return made(api.TokSign, text), api.OK
		}
	}
	return api.Token{}, api.ErrSign
}

// number is that of a text that begins with a digit, and has letters and digits alone.
func number(text string) (api.Token, api.Errno) {
	if text[0] == '0' && text != "0" {
		return api.Token{}, api.ErrNumber
	}
	if _, err := strconv.ParseInt(text, 10, 64); err != nil { // by a letter, or beyond 2^63 - 1
		return api.Token{}, api.ErrNumber
	}
	return made(api.TokNumber, text), api.OK
}

func word(text string) (api.Token, api.Errno) {
	if len(text) > api.MaxName {
		return api.Token{}, api.ErrLong
	}
	return made(api.TokWord, text), api.OK
}

// made has a text of its own, for no piece of the program's is kept.
func made(kind uint8, text string) api.Token {
	return api.Token{Kind: kind, Text: strings.Clone(text)}
}
