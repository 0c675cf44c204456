package parse

import "facetroom/api"

func (p *parser) program() api.Tree {
	t := p.declared()
	for p.may("proc") {
		t.Procs = append(t.Procs, p.proc())
	}
	p.need("main")
	t.Main = p.block()
	p.finish()
	return t
}

// declared is a tree of scalars and arrays alone, which stand in any order.
func (p *parser) declared() api.Tree {
	var t api.Tree
declared:
	for {
		switch {
		case p.may("var"):
			t.Vars = append(t.Vars, listed(p, p.scalar)...)
		case p.may("array"):
			t.Arrays = append(t.Arrays, listed(p, p.sized)...)
		default:
			break declared
		}
		p.need(";")
	}
	return t
}

func (p *parser) scalar() api.Var {
	name := p.name()
	return api.Var{Name: name.Text, At: name.At}
}

func (p *parser) sized() api.Array {
	name := p.name()
	p.need("[")
	size := p.number()
	p.need("]")
	return api.Array{Name: name.Text, Size: size, At: name.At}
}

// proc is a procedure, from its name on.
func (p *parser) proc() api.Proc {
	name := p.name()
	params := given(p, p.scalar)
	body := p.block()
	return api.Proc{Name: name.Text, Params: params, Body: body, At: name.At}
}
