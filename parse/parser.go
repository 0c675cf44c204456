package parse

import (
	"strconv"

	"facetroom/api"
	"facetroom/lex"
)

// parser is what is under way: the tokens that are left, where the text ends, and how much is open.
type parser struct {
	left  []api.Token
	end   int
	deep  int
	stmts map[string]func(*parser) api.Stmt
}

// next is the token that comes; at the text's end one without a kind and a text.
func (p *parser) next() api.Token {
	if len(p.left) == 0 {
		return api.Token{At: p.end}
	}
	return p.left[0]
}

// take goes on to the token behind next.
func (p *parser) take() {
	p.left = p.left[1:]
}

func (p *parser) refuse() {
	panic(misplaced{p.next().At})
}

// need takes a sign, or a keyword, that has to stand there.
func (p *parser) need(text string) {
	if p.next().Text != text {
		p.refuse()
	}
	p.take()
}

// may tells whether a sign, or a keyword, stands there, and takes it.
func (p *parser) may(text string) bool {
	if p.next().Text != text {
		return false
	}
	p.take()
	return true
}

func (p *parser) name() api.Token {
	x := p.next()
	if !lex.Name(x.Text) {
		p.refuse()
	}
	p.take()
	return x
}

func (p *parser) number() int {
	x := p.next()
	if x.Kind != api.TokNumber {
		p.refuse()
	}
	p.take()
	n, _ := strconv.Atoi(x.Text) // lex lets no greater ones through
	return n
}

// finish refuses what stands behind the program.
func (p *parser) finish() {
	if len(p.left) > 0 {
		p.refuse()
	}
}

// maker is a sign that stands between two things, and the kind of what it makes of them.
type maker struct {
	sign string
	kind uint8
}

// made takes the sign of a level that stands there, and tells what kind it makes; 0, if there is none.
func (p *parser) made(level ...maker) uint8 {
	for _, m := range level {
		if p.may(m.sign) {
			return m.kind
		}
	}
	return 0
}
