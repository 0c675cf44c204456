package parse

import "facetroom/api"

func (p *parser) expr() api.Expr {
	return chain(p, p.sum, pairOfExprs, maker{"<<", api.ExShl}, maker{">>", api.ExShr})
}

func (p *parser) sum() api.Expr {
	return chain(p, p.times, pairOfExprs, maker{"+", api.ExAdd}, maker{"-", api.ExSub})
}

func (p *parser) times() api.Expr {
	return chain(p, p.signed, pairOfExprs, maker{"*", api.ExMul}, maker{"/", api.ExDiv}, maker{"%", api.ExMod})
}

func pairOfExprs(kind uint8, at int, a, b api.Expr) api.Expr {
	return api.Expr{Kind: kind, Args: []api.Expr{a, b}, At: at}
}

// signed is what the document's grammar calls sign.
func (p *parser) signed() api.Expr {
	first := p.next()
	switch {
	case first.Text == "-":
		x := within(p, "-", p.signed)
		return api.Expr{Kind: api.ExNeg, Args: []api.Expr{x}, At: first.At}
	case first.Text == "(":
		return enclosed(p, "(", p.expr, ")")
	case first.Kind == api.TokNumber:
		return api.Expr{Kind: api.ExNumber, N: p.number(), At: first.At}
	}
	return p.read()
}

// read is a variable, or a load.
func (p *parser) read() api.Expr {
	name := p.name()
	x := api.Expr{Kind: api.ExVar, Name: name.Text, At: name.At}
	if p.next().Text == "[" {
		x.Kind = api.ExLoad
		x.Args = []api.Expr{p.index()}
	}
	return x
}

// index is that of a load, or a store.
func (p *parser) index() api.Expr {
	return enclosed(p, "[", p.expr, "]")
}
