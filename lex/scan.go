package lex

import (
	"strconv"
	"strings"

	"sacristy/api"
)

// scan is the tokens of s; or what is wrong, and where a token ought to begin there.
func scan(s string) (l []api.Token, at int, err error) {
	if len(s) > api.MaxText {
		return nil, 0, api.ErrLong
	}
	together := func(belongs func(byte) bool) string {
		end := at
		for end < len(s) && belongs(s[end]) {
			end++
		}
		return s[at:end]
	}
next:
	at += len(together(blank))
	if at == len(s) {
		return append(l, api.Token{Kind: api.TkEnd, At: at}), at, nil
	}
	var piece string
	var token func(piece string) (api.Token, error)
	switch {
	case letter(s[at]):
		piece, token = together(letterOrDigit), named
	case digit(s[at]):
		piece, token = together(digit), number
	default:
		piece, token = longestSign(s[at:]), sign
	}
	t, err := token(piece)
	if err != nil {
		return nil, at, err
	}
	t.At = at
	l = append(l, t)
	at += len(piece)
	goto next
}

// named is the name, or the word, that a piece of letters and digits is.
func named(piece string) (api.Token, error) {
	if len(piece) > api.MaxName {
		return api.Token{}, api.ErrLong
	}
	kind := api.TkName
	if isWord(piece) {
		kind = api.TkWord
	}
	return api.Token{Kind: kind, Text: strings.Clone(piece)}, nil // a clone, as a token is not to keep the whole text
}

// number is the number that a piece of digits is.
func number(piece string) (api.Token, error) {
	v, err := strconv.ParseUint(piece, 10, 64)
	if err != nil || digitsOf(v) != piece {
		return api.Token{}, api.ErrForm
	}
	return api.Token{Kind: api.TkNum, Num: v}, nil
}

// sign is the sign that a piece is; no sign is empty.
func sign(piece string) (api.Token, error) {
	if piece == "" {
		return api.Token{}, api.ErrForm
	}
	return api.Token{Kind: api.TkSign, Text: piece}, nil
}
