package parse

import "facetroom/api"

// stmtsByWord are the statements that begin with a keyword, from behind it on.
func stmtsByWord() map[string]func(*parser) api.Stmt {
	return map[string]func(*parser) api.Stmt{
		"skip":   (*parser).skip,
		"input":  (*parser).input,
		"assume": (*parser).assume,
		"assert": (*parser).assert,
		"if":     (*parser).choice,
		"while":  (*parser).loop,
		"call":   (*parser).call,
	}
}

// block are the statements within braces.
func (p *parser) block() []api.Stmt {
	return enclosed(p, "{", p.stmtsToEnd, "}")
}

func (p *parser) stmtsToEnd() []api.Stmt {
	var l []api.Stmt
	for p.next().Text != "}" {
		l = append(l, p.stmt())
	}
	return l
}

func (p *parser) stmt() api.Stmt {
	first := p.next()
	behind, ok := p.stmts[first.Text]
	if !ok {
		return p.change()
	}
	p.take()
	s := behind(p)
	s.At = first.At
	return s
}

// change is a set, or a store.
func (p *parser) change() api.Stmt {
	name := p.name()
	s := api.Stmt{Kind: api.StSet, Name: name.Text, At: name.At}
	if p.next().Text == "[" {
		s.Kind = api.StStore
		s.Args = append(s.Args, p.index())
	}
	p.need("=")
	s.Args = append(s.Args, p.expr())
	p.need(";")
	return s
}

func (p *parser) skip() api.Stmt {
	p.need(";")
	return api.Stmt{Kind: api.StSkip}
}

func (p *parser) input() api.Stmt {
	name := p.name()
	p.need(";")
	return api.Stmt{Kind: api.StInput, Name: name.Text}
}

func (p *parser) assume() api.Stmt {
	c := p.asked()
	p.need(";")
	return api.Stmt{Kind: api.StAssume, Cond: c}
}

func (p *parser) assert() api.Stmt {
	c := p.asked()
	p.need(";")
	return api.Stmt{Kind: api.StAssert, Cond: c}
}

func (p *parser) choice() api.Stmt {
	s := api.Stmt{Kind: api.StIf, Cond: p.asked()}
	s.Body = p.block()
	if p.may("else") {
		s.Else = p.block()
	}
	return s
}

func (p *parser) loop() api.Stmt {
	s := api.Stmt{Kind: api.StWhile, Cond: p.asked()}
	s.Body = p.block()
	return s
}

func (p *parser) call() api.Stmt {
	name := p.name()
	args := given(p, p.expr)
	p.need(";")
	return api.Stmt{Kind: api.StCall, Name: name.Text, Args: args}
}

// asked is a statement's condition, whose parentheses open nothing.
func (p *parser) asked() []api.Cond {
	p.need("(")
	c := p.cond()
	p.need(")")
	return []api.Cond{c}
}
