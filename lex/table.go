package lex

import "strings"

// words has the pieces of letters that are no names.
var words = [...]string{
	"let", "secret", "buf", "if", "else", "while", "for", "view",
	"edit", "move", "open", "call", "seal", "fn", "return", "num",
}

// signs has all signs.
var signs = [...]string{
	"(", ")", "{", "}", "[", "]", ",", ";", "=", "#", "..",
	"+", "-", "*", "*^", "/", "%", "&", "|", "^",
	"<<", ">>", ">>>", "<", "<$",
}

func isWord(piece string) bool {
	for _, w := range words {
		if w == piece {
			return true
		}
	}
	return false
}

// longestSign is the longest sign with which s begins; "", if there is none.
func longestSign(s string) string {
	longest := ""
	for _, x := range signs {
		if len(x) > len(longest) && strings.HasPrefix(s, x) {
			longest = x
		}
	}
	return longest
}

func letter(b byte) bool { return b >= 'a' && b <= 'z' || b == '_' }

func digit(b byte) bool { return b >= '0' && b <= '9' }

func letterOrDigit(b byte) bool { return letter(b) || digit(b) }

func blank(b byte) bool { return b == ' ' || b == '\n' }
