package lex_test

import (
	"slices"
	"strings"
	"testing"
	"unsafe"

	"facetroom/api"
	"facetroom/lex"
)

// texts are such as have tokens, of each kind in any order.
func texts() []string {
	l := []string{"", " ", " \n\t\r", "x", "0", "<=", "x<=2", " while(a1 <=-2&&!b[x]){y=y<<3;}\n", "<<=<=>==!=!&&||", strings.Repeat("( ", 2048), strings.Repeat("abcdefghijklmno\n", 256)}
	x := uint64(3)
	for range 500 {
		var src strings.Builder
		for last, left := "", shuffled(&x, 80); left > 0; left-- {
			text := oneOf(&x, someTokens())
			if needsBlank(last, text) || shuffled(&x, 4) == 0 {
				src.WriteString(oneOf(&x, someBlanks()))
			}
			src.WriteString(text)
			last = text
		}
		l = append(l, src.String())
	}
	return l
}

func sure(t *testing.T, src string) []api.Token {
	t.Helper()
	got := ask(src)
	if got.e != api.OK || got.at != 0 {
		t.Fatalf("Tokens %s: %v", cut(src), got)
	}
	return got.l
}

// P8.3: tokens are apart, and rise; each one's text stands at its place, and between them are blanks alone.
func TestApart(t *testing.T) {
	for _, src := range texts() {
		end := 0
		for _, x := range sure(t, src) {
			if x.Text == "" || x.At < end || !strings.HasPrefix(src[x.At:], x.Text) {
				t.Fatalf("%s: %q at %d, behind %d", cut(src), x.Text, x.At, end)
			}
			if rest := strings.Trim(src[end:x.At], " \t\n\r"); rest != "" {
				t.Errorf("%s: %q ahead of %q", cut(src), rest, x.Text)
			}
			end = x.At + len(x.Text)
		}
		if rest := strings.Trim(src[end:], " \t\n\r"); rest != "" {
			t.Errorf("%s: %q at the end", cut(src), rest)
		}
	}
}

// P8.3: a token's text, by itself, is just that token.
func TestByItself(t *testing.T) {
	for _, src := range texts() {
		for _, x := range sure(t, src) {
			answers(t, x.Text, answer{l: []api.Token{{Kind: x.Kind, Text: x.Text}}})
			if isWord := x.Kind == api.TokWord; isWord != (lex.Name(x.Text) != lex.Keyword(x.Text)) {
				t.Errorf("%q, of kind %d: Name %v, Keyword %v", x.Text, x.Kind, lex.Name(x.Text), lex.Keyword(x.Text))
			}
		}
	}
}

// P8.3: blanks more, ahead of a token, between two, and at the end, change nothing but places.
func TestMoreBlanks(t *testing.T) {
	x := uint64(5)
	for _, src := range texts() {
		if len(src) > 1000 {
			src = src[:1000]
		}
		was := sure(t, src)
		var more strings.Builder
		var want []api.Token
		end := 0
		for _, token := range was {
			more.WriteString(src[end:token.At])
			for range shuffled(&x, 3) {
				more.WriteString(oneOf(&x, someBlanks()))
			}
			want = append(want, api.Token{Kind: token.Kind, Text: token.Text, At: more.Len()})
			more.WriteString(token.Text)
			end = token.At + len(token.Text)
		}
		more.WriteString(oneOf(&x, someBlanks()) + src[end:])
		answers(t, more.String(), answer{l: want})
		for _, blank := range someBlanks() {
			spread := make([]string, len(was))
			for i, token := range was {
				spread[i] = token.Text
			}
			all := strings.Join(spread, blank)
			if len(all) <= api.MaxText {
				has(t, all, spread...)
			}
		}
	}
}

// P8.3: a blank where a token ends turns nothing else; one within a token parts it, or leaves what is none.
func TestBlankWithin(t *testing.T) {
	for _, s := range someTokens() {
		for i := 1; i < len(s); i++ {
			reckons(t, s[:i]+" "+s[i:])
			if got := ask(s[:i] + " " + s[i:]); got.e == api.OK && len(got.l) != 2 {
				t.Errorf("%q, parted at %d: %v", s, i, got)
			}
		}
	}
}

// Asked again the answer is the same, in new memory: what is written on one is not seen in another, nor in what is asked next.
func TestNewMemory(t *testing.T) {
	for _, src := range texts() {
		first, second := sure(t, src), sure(t, src)
		was := slices.Clone(first)
		room := second[:cap(second)]
		for i := range room {
			room[i] = api.Token{Kind: 99, Text: "spoilt", At: -1}
		}
		if !slices.Equal(first, was) {
			t.Fatalf("%s: two answers share memory", cut(src))
		}
		answers(t, src, answer{l: was})
	}
}

// What is handed in is not kept: texts of tokens stay, whatever becomes of the bytes that the program stood in.
func TestTextIsNotKept(t *testing.T) {
	for _, src := range texts() {
		if src == "" {
			continue
		}
		b := []byte(src)
		got := ask(unsafe.String(&b[0], len(b)))
		for i := range b {
			b[i] = '?'
		}
		if want := reckoned(src); !slices.Equal(got.l, want.l) {
			t.Fatalf("Tokens %s: %v, the text changed; want %v", cut(src), got, want)
		}
	}
}
