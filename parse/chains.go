package parse

import "facetroom/api"

// join makes one thing of two, by a sign between them, whose place it has.
type join[T any] func(kind uint8, at int, a, b T) T

// chain is a thing, or several with signs of one level between, made from the left.
func chain[T any](p *parser, part func() T, pair join[T], level ...maker) T {
	all := part()
	for {
		at := p.next().At
		kind := p.made(level...)
		if kind == 0 {
			return all
		}
		all = pair(kind, at, all, part())
	}
}

// listed are one thing or more, with commas between.
func listed[T any](p *parser, part func() T) []T {
	l := []T{part()}
	for p.may(",") {
		l = append(l, part())
	}
	return l
}

// given are things within parentheses, with commas between, or none.
func given[T any](p *parser, part func() T) []T {
	p.need("(")
	if p.may(")") {
		return nil
	}
	l := listed(p, part)
	p.need(")")
	return l
}

// within is a thing that a sign opens, and that is deeper by one.
func within[T any](p *parser, open string, part func() T) T {
	at := p.next().At
	p.need(open)
	if p.deep == api.MaxDeep {
		panic(tooDeep{at})
	}
	p.deep++
	x := part()
	p.deep--
	return x
}

// enclosed is likewise one that another sign closes.
func enclosed[T any](p *parser, open string, part func() T, end string) T {
	x := within(p, open, part)
	p.need(end)
	return x
}
