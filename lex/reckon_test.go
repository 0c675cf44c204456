package lex_test

import (
	"math/big"
	"regexp"
	"slices"
	"strconv"
	"strings"
	"testing"

	"facetroom/api"
	"facetroom/lex"
)

// patterns is another's reckoning of what a text begins with: blanks, letters and digits, or a sign, the longest that there is.
func patterns() *regexp.Regexp {
	signs := allSigns()
	for i := range signs {
		signs[i] = regexp.QuoteMeta(signs[i])
	}
	x := regexp.MustCompile(`^(?:([\x20\x09\x0a\x0d]+)|([a-zA-Z_][a-zA-Z0-9_]*)|([0-9][a-zA-Z0-9_]*)|(` + strings.Join(signs, "|") + `))`)
	x.Longest()
	return x
}

var pattern = patterns()

func allSigns() []string {
	return strings.Fields("<< >> <= >= == != && || ( ) { } [ ] ; , = < > + - * / % !")
}

func allKeywords() []string {
	return strings.Fields("var array proc main skip input assume assert if else while call true false")
}

// rightNumber is another's reckoning of whether a number may be.
func rightNumber(s string) bool {
	n, ok := new(big.Int).SetString(s, 10)
	most := new(big.Int).Sub(new(big.Int).Lsh(big.NewInt(1), 63), big.NewInt(1))
	return ok && !strings.Contains(s, "_") && n.String() == s && n.Cmp(most) <= 0
}

// answer is what Tokens answers.
type answer struct {
	l  []api.Token
	at int
	e  api.Errno
}

// reckoned is what Tokens has to answer.
func reckoned(src string) answer {
	if len(src) > 4096 {
		return answer{e: api.ErrText}
	}
	var l []api.Token
	for at := 0; at < len(src); {
		m := pattern.FindStringSubmatch(src[at:])
		switch {
		case m == nil:
			return answer{at: at, e: api.ErrSign}
		case m[2] != "" && len(m[2]) > 16:
			return answer{at: at, e: api.ErrLong}
		case m[2] != "":
			l = append(l, api.Token{Kind: 1, Text: m[2], At: at})
		case m[3] != "" && !rightNumber(m[3]):
			return answer{at: at, e: api.ErrNumber}
		case m[3] != "":
			l = append(l, api.Token{Kind: 2, Text: m[3], At: at})
		case m[4] != "":
			l = append(l, api.Token{Kind: 3, Text: m[4], At: at})
		}
		at += len(m[0])
	}
	return answer{l: l}
}

// isName and isKeyword are what Name and Keyword have to answer.
func isName(s string) bool {
	return len(s) <= 16 && pattern.FindStringSubmatch(s) != nil && pattern.FindStringSubmatch(s)[2] == s && s != "" && !isKeyword(s)
}

func isKeyword(s string) bool { return slices.Contains(allKeywords(), s) }

func ask(src string) answer {
	l, at, e := lex.Tokens(src)
	return answer{l, at, e}
}

func cut(s string) string {
	if len(s) > 80 {
		return strconv.Quote(s[:80]) + ".. (" + strconv.Itoa(len(s)) + " bytes)"
	}
	return strconv.Quote(s)
}

func (a answer) String() string {
	var s strings.Builder
	for _, x := range a.l {
		s.WriteString(strconv.Itoa(int(x.Kind)) + " " + strconv.Quote(x.Text) + " at " + strconv.Itoa(x.At) + ", ")
		if s.Len() > 400 {
			s.WriteString("..")
			break
		}
	}
	return s.String() + "(" + strconv.Itoa(len(a.l)) + " tokens), at " + strconv.Itoa(a.at) + ", error " + strconv.Itoa(int(a.e))
}

// answers holds what is answered of a text against what is wanted.
func answers(t *testing.T, src string, want answer) {
	t.Helper()
	if got := ask(src); !slices.Equal(got.l, want.l) || got.at != want.at || got.e != want.e {
		t.Errorf("Tokens %s: %v; want %v", cut(src), got, want)
	}
}

// reckons holds all calls of a text against another's reckoning.
func reckons(t *testing.T, src string) {
	t.Helper()
	answers(t, src, reckoned(src))
	if got := lex.Name(src); got != isName(src) {
		t.Errorf("Name %s: %v", cut(src), got)
	}
	if got := lex.Keyword(src); got != isKeyword(src) {
		t.Errorf("Keyword %s: %v", cut(src), got)
	}
}

// fails holds a text against an error: no tokens are beside it.
func fails(t *testing.T, src string, at int, e api.Errno) {
	t.Helper()
	answers(t, src, answer{at: at, e: e})
}

// has holds a text against its tokens' texts alone: kinds by how they begin, and places by where they are found, one behind the other.
func has(t *testing.T, src string, texts ...string) {
	t.Helper()
	var l []api.Token
	at := 0
	for _, s := range texts {
		at += strings.Index(src[at:], s)
		l = append(l, api.Token{Kind: kindOf(s), Text: s, At: at})
		at += len(s)
	}
	answers(t, src, answer{l: l})
}

// kindOf is the kind of a token's text, by its first byte.
func kindOf(s string) uint8 {
	switch c := s[0]; {
	case '0' <= c && c <= '9':
		return 2
	case 'a' <= c && c <= 'z', 'A' <= c && c <= 'Z', c == '_':
		return 1
	}
	return 3
}

// shuffled is the next one of a row of numbers, each time the same, below n.
func shuffled(x *uint64, n int) int {
	*x += 0x9e3779b97f4a7c15
	z := *x
	z = (z ^ z>>30) * 0xbf58476d1ce4e5b9
	z = (z ^ z>>27) * 0x94d049bb133111eb
	return int((z ^ z>>31) % uint64(n))
}

func oneOf(x *uint64, l []string) string { return l[shuffled(x, len(l))] }

func someWords() []string {
	return append(allKeywords(), strings.Fields("x y Z _ __ _1 a1 a1b2 IF While varx va r2d2 abcdefghijklmnop _______________9 zA9_")...)
}

func someNumbers() []string {
	return strings.Fields("0 1 2 7 9 10 11 64 100 909 4096 65536 9223372036854775806 9223372036854775807 1000000000000000000 999999999999999999")
}

func someTokens() []string {
	return slices.Concat(someWords(), someNumbers(), allSigns())
}

func someBlanks() []string {
	return []string{" ", "\t", "\n", "\r", "  ", "\r\n", "\n\n\t", " \t\n\r ", "\r\r", "          "}
}
