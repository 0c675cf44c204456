package parse_test

import (
	"strconv"
	"strings"
	"testing"

	"facetroom/api"
	"facetroom/lex"
	"facetroom/parse"
)

// grammar is the chapter's; ^ is ahead of what opens something, which all behind it in its line, up to a |, is within.
const grammar = `
program  { "var" name { "," name } ";" | "array" sized { "," sized } ";" } { proc } "main" block
sized    name "[" number "]"
proc     "proc" name "(" [ name { "," name } ] ")" block
block    ^"{" { stmt } "}"
stmt     "skip" ";"
         "input" name ";"
         "assume" "(" cond ")" ";"
         "assert" "(" cond ")" ";"
         "if" "(" cond ")" block [ "else" block ]
         "while" "(" cond ")" block
         "call" name "(" [ expr { "," expr } ] ")" ";"
         name "=" expr ";"
         name index "=" expr ";"
cond     all { "||" all }
all      not { "&&" not }
not      ^"!" not | "true" | "false" | ^"[" cond "]" | expr compare expr
compare  "<" | "<=" | ">" | ">=" | "==" | "!="
expr     sum { ( "<<" | ">>" ) sum }
sum      times { ( "+" | "-" ) times }
times    sign { ( "*" | "/" | "%" ) sign }
sign     ^"-" sign | number | name | name index | ^"(" expr ")"
index    ^"[" expr "]"
`

// sym is a part of a rule: another rule, or what has to stand there.
type sym struct {
	rule, text string
	opens      bool
}

type rules map[string][][]sym

var theRules = readRules()

func readRules() rules {
	g, rule := rules{}, ""
	for line := range strings.Lines(strings.TrimSpace(grammar)) {
		l := strings.Fields(line)
		if line[0] != ' ' {
			rule, l = l[0], l[1:]
		}
		alts, _ := g.read(l)
		g[rule] = append(g[rule], alts...)
	}
	return g
}

// read are the ways that a rule goes, up to what closes them, and what is behind that; braces and brackets become rules of their own.
func (g rules) read(l []string) (alts [][]sym, rest []string) {
	alts = [][]sym{nil}
	for len(l) > 0 {
		x := l[0]
		l = l[1:]
		switch x {
		case "}", "]", ")":
			return alts, l
		case "|":
			alts = append(alts, nil)
			continue
		}
		s := oneSym(x)
		if x == "{" || x == "[" || x == "(" {
			s = sym{rule: "part " + strconv.Itoa(len(g))}
			g[s.rule] = nil // so that no part within it has its name
			g[s.rule], l = g.read(l)
			for i := range g[s.rule] {
				if x == "{" {
					g[s.rule][i] = append(g[s.rule][i], s)
				}
			}
			if x != "(" {
				g[s.rule] = append(g[s.rule], nil)
			}
		}
		alts[len(alts)-1] = append(alts[len(alts)-1], s)
	}
	return alts, nil
}

func oneSym(x string) sym {
	bare, opens := strings.CutPrefix(x, "^")
	text := strings.Trim(bare, `"`)
	if text == bare && text != "name" && text != "number" {
		return sym{rule: text}
	}
	return sym{text: text, opens: opens}
}

// stack is what has still to come, each with how much is open around it; nil is the program's end.
type stack struct {
	sym
	deep int
	rest *stack
}

func push(alt []sym, deep int, rest *stack) *stack {
	if len(alt) == 0 {
		return rest
	}
	behind := deep
	if alt[0].opens {
		behind++
	}
	return &stack{alt[0], deep, push(alt[1:], behind, rest)}
}

// tops are all ways to go on with a stack, to what may stand next.
func (g rules) tops(s *stack) []*stack {
	if s == nil || s.rule == "" {
		return []*stack{s}
	}
	var l []*stack
	for _, alt := range g[s.rule] {
		l = append(l, g.tops(push(alt, s.deep, s.rest))...)
	}
	return l
}

func begin() []*stack { return theRules.tops(push([]sym{{rule: "program"}}, 0, nil)) }

func (s *stack) takes(x api.Token) bool {
	switch {
	case s == nil:
		return false
	case s.text == "name":
		return lex.Name(x.Text)
	case s.text == "number":
		return x.Kind == api.TokNumber
	}
	return s.text == x.Text
}

// after are all ways to go on behind a token, and what is wrong if there is none.
func after(l []*stack, x api.Token) (on []*stack, e api.Errno) {
	e = api.ErrSyntax
	for _, s := range l {
		switch {
		case !s.takes(x):
		case s.opens && s.deep == 24:
			e = api.ErrDeep
		default:
			on = append(on, theRules.tops(s.rest)...)
		}
	}
	if on != nil {
		e = api.OK
	}
	return on, e
}

// done tells whether a program may end there.
func done(l []*stack) bool {
	for _, s := range l {
		if s == nil {
			return true
		}
	}
	return false
}

// verdict is what Parse answers beside the tree.
type verdict struct {
	at int
	e  api.Errno
}

// reckoned is another's reckoning of it: all ways that the grammar leaves are gone at once.
func reckoned(src string) verdict {
	tokens, at, e := lex.Tokens(src)
	if e != api.OK {
		return verdict{at, e}
	}
	l := begin()
	for _, x := range tokens {
		on, e := after(l, x)
		if e != api.OK {
			return verdict{x.At, e}
		}
		l = on
	}
	if !done(l) {
		return verdict{len(src), api.ErrSyntax}
	}
	return verdict{}
}

// judges holds what is answered against what is wanted: beside an error there is no tree.
func judges(t *testing.T, src string, want verdict) {
	t.Helper()
	tree, at, e := parse.Parse(src)
	if got := (verdict{at, e}); got != want {
		t.Errorf("Parse %s: %v; want %v", cut(src), got, want)
	}
	if e != api.OK && told(tree) != "{}" {
		t.Errorf("Parse %s: beside error %d: %s", cut(src), e, told(tree))
	}
}

func reckons(t *testing.T, src string) {
	t.Helper()
	judges(t, src, reckoned(src))
}

func cut(s string) string {
	if len(s) > 300 {
		return strconv.Quote(s[:300]) + ".. (" + strconv.Itoa(len(s)) + " bytes)"
	}
	return strconv.Quote(s)
}

// shuffled is the next one of a row of numbers, each time the same, below n.
func shuffled(x *uint64, n int) int {
	*x += 0x9e3779b97f4a7c15
	z := *x
	z = (z ^ z>>30) * 0xbf58476d1ce4e5b9
	z = (z ^ z>>27) * 0x94d049bb133111eb
	return int((z ^ z>>31) % uint64(n))
}

func oneOf[T any](x *uint64, l []T) T { return l[shuffled(x, len(l))] }

// allTokens are texts of tokens of each kind, and all keywords and signs.
func allTokens() []string {
	return strings.Fields("x 7 var array proc main skip input assume assert if else while call true false << >> <= >= == != && || ( ) { } [ ] ; , = < > + - * / % !")
}

func someBlanks() []string {
	return []string{" ", "\t", "\n", "\r", "  ", "\r\n", "\n\n\t", " \t\n\r "}
}
