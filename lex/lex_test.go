package lex_test

import (
	"strings"
	"testing"

	"facetroom/api"
	"facetroom/lex"
)

// The table of the chapter's examples.
func TestExamples(t *testing.T) {
	fails(t, "a1<=07", 4, api.ErrNumber)
	answers(t, "x<=2", answer{l: []api.Token{{Kind: api.TokWord, Text: "x", At: 0}, {Kind: api.TokSign, Text: "<=", At: 1}, {Kind: api.TokNumber, Text: "2", At: 3}}})
	fails(t, "#", 0, api.ErrSign)
	if lex.Name("if") {
		t.Error("Name if: true")
	}
}

// P8.1: programs, laid out in several ways.
func TestPrograms(t *testing.T) {
	has(t, "var x,y;main{}", "var", "x", ",", "y", ";", "main", "{", "}")
	has(t, "\tarray a[16] ;\r\n\r\nmain { a[ x+1 ] = -3 ; }\n", "array", "a", "[", "16", "]", ";", "main", "{", "a", "[", "x", "+", "1", "]", "=", "-", "3", ";", "}")
	has(t, "proc p(a,b){call p(a*b/2%c);}", "proc", "p", "(", "a", ",", "b", ")", "{", "call", "p", "(", "a", "*", "b", "/", "2", "%", "c", ")", ";", "}")
	has(t, "if([x<y||!true]&&x!=0){skip;}else{input x;}", "if", "(", "[", "x", "<", "y", "||", "!", "true", "]", "&&", "x", "!=", "0", ")", "{", "skip", ";", "}", "else", "{", "input", "x", ";", "}")
	has(t, "while(x>=y<<1){assume(x>y>>2);assert(false==x);}", "while", "(", "x", ">=", "y", "<<", "1", ")", "{", "assume", "(", "x", ">", "y", ">>", "2", ")", ";", "assert", "(", "false", "==", "x", ")", ";", "}")
}

// P8.1: all short texts of bytes of every kind, beside another's reckoning.
func TestShortTexts(t *testing.T) {
	var all func(src, of string, left int)
	all = func(src, of string, left int) {
		reckons(t, src)
		if left == 0 {
			return
		}
		for i := range len(of) {
			all(src+of[i:i+1], of, left-1)
		}
	}
	all("", "aZ_019 \n<>=!&|(;+-#\x00\xc3\xa9", 4)
	all("", "<>=!&|", 6)
	all("", "x0_9 ", 6)
	all("", "if ", 6)
}

// P8.1: tokens in any order, with blanks of each kind wherever they may be, and without them where none is needed.
func TestMixedTexts(t *testing.T) {
	x := uint64(8)
	for range 4000 {
		var src strings.Builder
		var l []api.Token
		blanks := func() { src.WriteString(oneOf(&x, someBlanks())) }
		if shuffled(&x, 2) == 0 {
			blanks()
		}
		for last, left := "", shuffled(&x, 60); left > 0; left-- {
			text := oneOf(&x, someTokens())
			if needsBlank(last, text) || shuffled(&x, 3) == 0 {
				blanks()
			}
			l = append(l, api.Token{Kind: kindOf(text), Text: text, At: src.Len()})
			src.WriteString(text)
			last = text
		}
		if shuffled(&x, 2) == 0 {
			blanks()
		}
		answers(t, src.String(), answer{l: l})
		answers(t, src.String(), reckoned(src.String()))
	}
}

// needsBlank tells whether two tokens, one right behind the other, would be others.
func needsBlank(a, b string) bool {
	if a == "" {
		return false
	}
	if kindOf(a) != api.TokSign && kindOf(b) != api.TokSign {
		return true
	}
	return isSign(a + b[:1])
}

func isSign(s string) bool {
	for _, x := range allSigns() {
		if x == s {
			return true
		}
	}
	return false
}

// P8.1: each keyword, each sign, and other words and numbers, alone, with blanks around, and with every byte behind and ahead.
func TestEachToken(t *testing.T) {
	for _, text := range someTokens() {
		answers(t, text, answer{l: []api.Token{{Kind: kindOf(text), Text: text}}})
		for _, blank := range someBlanks() {
			has(t, blank+text, text)
			has(t, text+blank, text)
			has(t, blank+text+blank, text)
		}
		for c := range 256 {
			b := string([]byte{byte(c)})
			reckons(t, text+b)
			reckons(t, b+text)
			reckons(t, b+text+b)
		}
	}
}

// P8.1: each two tokens, and each two and three signs, one right behind the other.
func TestPairs(t *testing.T) {
	for _, a := range someTokens() {
		for _, b := range someTokens() {
			reckons(t, a+b)
			if !needsBlank(a, b) {
				has(t, a+b, a, b)
			}
			has(t, a+" "+b, a, b)
		}
	}
	for _, a := range allSigns() {
		for _, b := range allSigns() {
			for _, c := range allSigns() {
				reckons(t, a+b+c)
			}
		}
	}
}

// P8.1: the longer sign, if both may be.
func TestLongerSigns(t *testing.T) {
	for src, want := range map[string]string{
		"<": "<", "<=": "<=", "<<": "<<", "<<=": "<< =", "<=>": "<= >", "<<<": "<< <", "<<<<": "<< <<", "<==": "<= =", "<>": "< >", "<!": "< !", "<-": "< -",
		">": ">", ">=": ">=", ">>": ">>", ">>=": ">> =", ">>>": ">> >", ">==": ">= =", "><": "> <", "=>": "= >", "=<": "= <",
		"=": "=", "==": "==", "===": "== =", "====": "== ==", "=!": "= !", "=!=": "= !=", "=-": "= -",
		"!": "!", "!=": "!=", "!==": "!= =", "!===": "!= ==", "!!": "! !", "!!=": "! !=", "!<": "! <",
		"&&": "&&", "&&&&": "&& &&", "||": "||", "||||": "|| ||", "&&||": "&& ||", "||&&": "|| &&", "&&!": "&& !", "||!=": "|| !=",
		"+=": "+ =", "++": "+ +", "--": "- -", "->": "- >", "-=": "- =", "**": "* *", "//": "/ /", "/*": "/ *", "*=": "* =", "/=": "/ =", "%=": "% =", "%%": "% %",
		"()": "( )", "([{": "( [ {", "}])": "} ] )", "[]": "[ ]", "{}": "{ }", ";;": "; ;", ",,": ", ,",
	} {
		has(t, src, strings.Fields(want)...)
	}
	for _, c := range []struct {
		src string
		at  int
	}{{"&", 0}, {"|", 0}, {"&&&", 2}, {"|||", 2}, {"&|", 0}, {"|&", 0}, {"& &", 0}, {"| |", 0}, {"&&|", 2}, {"||&", 2}, {"&=", 0}, {"|=", 0}, {"&&&&&", 4}, {"x&y", 1}, {"x&&y&z", 4}, {"1|", 1}} {
		fails(t, c.src, c.at, api.ErrSign)
	}
}

// P8.2: of every keyword those that are near, of every length of words, and of what is none.
func TestKeywordsAndNames(t *testing.T) {
	for _, word := range allKeywords() {
		if !lex.Keyword(word) || lex.Name(word) {
			t.Errorf("%q: Keyword %v, Name %v", word, lex.Keyword(word), lex.Name(word))
		}
		near := []string{word + word, word + "_", "_" + word, word + "1", strings.ToUpper(word), strings.ToUpper(word[:1]) + word[1:], word[:len(word)-1] + strings.ToUpper(word[len(word)-1:]), word[1:], word[:len(word)-1], word + "s", "x" + word}
		for _, s := range near {
			if lex.Keyword(s) || !lex.Name(s) {
				t.Errorf("%q: Keyword %v, Name %v", s, lex.Keyword(s), lex.Name(s))
			}
			has(t, s, s)
		}
		for _, s := range []string{" " + word, word + " ", word + "\n", "\x00" + word, word + "\x00", word + ";", "1" + word, word + "é"} {
			if lex.Keyword(s) || lex.Name(s) {
				t.Errorf("%q: Keyword %v, Name %v", s, lex.Keyword(s), lex.Name(s))
			}
		}
	}
	for _, s := range allSigns() {
		if lex.Keyword(s) || lex.Name(s) {
			t.Errorf("%q: Keyword %v, Name %v", s, lex.Keyword(s), lex.Name(s))
		}
	}
}

// P8.2: any texts: none, blanks, signs, bytes above 127, and very long ones.
func TestNamesOfAnyText(t *testing.T) {
	for s, want := range map[string]bool{
		"": false, " ": false, "\n": false, "x": true, "_": true, "A": true, "z9": true, "9z": false, "9": false, "0": false,
		"a b": false, " a": false, "a ": false, "a\t": false, "\ra": false, "a,b": false, "a;": false, "-a": false, "!a": false, "a[": false, "a.b": false, "a-b": false, "a\x00": false, "\x00": false,
		"é": false, "aé": false, "éa": false, "a\xe9": false, "\xff": false, "\xc3": false, "\uff41": false, "\u0430": false, "\u212a": false, "\u017f": false, "\u0663": false, "a\u0663": false, "x²": false, "\u212a1": false, "if\u017f": false, "\u00a0": false, "x\u00a0": false, "\ufffd": false, "a\ufffd": false,
		"abcdefghijklmnop": true, "abcdefghijklmnopq": false, "________________": true, "_________________": false, "A123456789012345": true, "A1234567890123456": false,
	} {
		if got := lex.Name(s); got != want {
			t.Errorf("Name %s: %v", cut(s), got)
		}
		if lex.Keyword(s) {
			t.Errorf("Keyword %s: true", cut(s))
		}
	}
	for _, piece := range []string{"a", "_", "9", " ", "x ", "if", "while", "true ", "(", "é", "\x00", "\xff"} {
		for _, times := range []int{2, 8, 15, 16, 17, 18, 64, 1000, 4095, 4096, 4097, 100000} {
			s := strings.Repeat(piece, times)
			for _, s := range []string{s, "a" + s, s + "a", "if" + s, s + "if"} {
				if got := lex.Name(s); got != isName(s) {
					t.Errorf("Name %s: %v", cut(s), got)
				}
				if got := lex.Keyword(s); got != isKeyword(s) {
					t.Errorf("Keyword %s: %v", cut(s), got)
				}
			}
		}
	}
}
