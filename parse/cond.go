package parse

import "facetroom/api"

func (p *parser) cond() api.Cond {
	return chain(p, p.all, pairOfConds, maker{"||", api.CoOr})
}

func (p *parser) all() api.Cond {
	return chain(p, p.not, pairOfConds, maker{"&&", api.CoAnd})
}

func pairOfConds(kind uint8, at int, a, b api.Cond) api.Cond {
	return api.Cond{Kind: kind, Of: []api.Cond{a, b}, At: at}
}

func (p *parser) not() api.Cond {
	first := p.next()
	switch first.Text {
	case "!":
		c := within(p, "!", p.not)
		return api.Cond{Kind: api.CoNot, Of: []api.Cond{c}, At: first.At}
	case "true":
		p.take()
		return api.Cond{Kind: api.CoTrue, At: first.At}
	case "false":
		p.take()
		return api.Cond{Kind: api.CoFalse, At: first.At}
	case "[":
		return enclosed(p, "[", p.cond, "]")
	}
	return p.comparison()
}

func (p *parser) comparison() api.Cond {
	a := p.expr()
	at := p.next().At
	kind := p.made(maker{"<", api.CoLt}, maker{"<=", api.CoLe}, maker{">", api.CoGt}, maker{">=", api.CoGe}, maker{"==", api.CoEq}, maker{"!=", api.CoNe})
	if kind == 0 {
		p.refuse()
	}
	b := p.expr()
	return api.Cond{Kind: kind, Args: []api.Expr{a, b}, At: at}
}
