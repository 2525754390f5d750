package lex_test

import (
	"math/big"
	"regexp"
	"strings"

	"sacristy/api"
)

// pieces are what the chapter names, as expressions, in no order: the longest one that stands at a place is taken.
var pieces = func() *regexp.Regexp {
	quoted := []string{`[a-z_][a-z_0-9]*`, `[0-9]+`, `[ \n]+`}
	for _, s := range allSigns() {
		quoted = append(quoted, regexp.QuoteMeta(s))
	}
	r := regexp.MustCompile(`^(?:` + strings.Join(quoted, "|") + `)`)
	r.Longest()
	return r
}()

func allSigns() []string {
	return strings.Fields("( ) { } [ ] , ; = # .. + - * *^ / % & | ^ << >> >>> < <$")
}

func allWords() []string {
	return strings.Fields("let secret buf if else while for view edit move open call seal fn return num")
}

// model is what the chapter has of s: its tokens, or a fault.
func model(s string) (l []api.Token, f api.Fault) {
	if len(s) > 16384 {
		return nil, api.Fault{At: 0, Err: 5}
	}
	for at := 0; at < len(s); {
		p := pieces.FindString(s[at:])
		if p == "" {
			return nil, api.Fault{At: at, Err: 7}
		}
		if strings.Trim(p, " \n") != "" {
			t, e := tokenOf(p)
			if e != api.OK {
				return nil, api.Fault{At: at, Err: e}
			}
			t.At = at
			l = append(l, t)
		}
		at += len(p)
	}
	return append(l, api.Token{Kind: 5, At: len(s)}), api.Fault{}
}

// tokenOf is the token of a piece that is not blank, at 0.
func tokenOf(p string) (api.Token, api.Errno) {
	switch {
	case p[0] >= '0' && p[0] <= '9':
		n, _ := new(big.Int).SetString(p, 10)
		if n.String() != p || n.BitLen() > 64 {
			return api.Token{}, 7
		}
		return api.Token{Kind: 3, Num: n.Uint64()}, 0
	case p[0] != '_' && (p[0] < 'a' || p[0] > 'z'):
		return api.Token{Kind: 4, Text: p}, 0
	case len(p) > 16:
		return api.Token{}, 5
	case strings.Contains(" "+strings.Join(allWords(), " ")+" ", " "+p+" "):
		return api.Token{Kind: 2, Text: p}, 0
	}
	return api.Token{Kind: 1, Text: p}, 0
}

// chance gives scattered numbers, the same ones each time.
type chance uint64

// below is one below n.
func (c *chance) below(n int) int {
	*c = *c*6364136223846793005 + 1442695040888963407
	return int(uint64(*c) >> 33 % uint64(n))
}

// piece is a piece of a token: of each kind, at the edges, too.
func (c *chance) piece() string {
	switch c.below(5) {
	case 0:
		return allSigns()[c.below(len(allSigns()))]
	case 1:
		return allWords()[c.below(len(allWords()))]
	case 2:
		n := new(big.Int).Lsh(big.NewInt(1), uint(c.below(65)))
		return n.Sub(n, big.NewInt(1)).String()
	}
	b := []byte{"abcxyz_"[c.below(7)]}
	for range c.below(16) {
		b = append(b, "abcletxyz_0189"[c.below(14)])
	}
	return string(b)
}

// blanks is so many of them, or one more.
func (c *chance) blanks(n int) string {
	var b []byte
	for range n + c.below(2) {
		b = append(b, " \n"[c.below(2)])
	}
	return string(b)
}
