package parse_test

import (
	"math"
	"strconv"
	"strings"

	"facetroom/api"
)

// grower makes any tree first, then writes its text, and puts into the tree where its parts come to stand.
type grower struct {
	x     uint64
	src   strings.Builder
	last  string
	spare int // of a hundred places how many have blanks, parentheses or brackets that none needs
	deep  int
	over  int // where too much is open first; -1, if nowhere
}

func (g *grower) below(n int) int { return shuffled(&g.x, n) }
func (g *grower) spares() bool    { return g.below(100) < g.spare }
func (g *grower) name() string    { return oneOf(&g.x, names()) }
func (g *grower) compare() uint8  { return api.CoLt + uint8(g.below(6)) }
func (g *grower) binary() uint8   { return api.ExAdd + uint8(g.below(7)) }
func names() []string             { return strings.Fields("x y a1 _ If mains abcdefghijklmnop tru Z9") }
func numbers() []int              { return []int{0, 1, 2, 9, 10, 63, 64, 4096, math.MaxInt32 + 1, math.MaxInt64} }
func many[T any](n int, f func() T) []T {
	var l []T
	for range n {
		l = append(l, f())
	}
	return l
}

func (g *grower) expr(high int) api.Expr {
	sub := func() api.Expr { return g.expr(high - 1 - g.below(2)) }
	switch k := g.below(10); {
	case high <= 0 && k < 4:
		return api.Expr{Kind: api.ExNumber, N: oneOf(&g.x, numbers())}
	case high <= 0:
		return api.Expr{Kind: api.ExVar, Name: g.name()}
	case k < 2:
		return api.Expr{Kind: api.ExLoad, Name: g.name(), Args: many(1, sub)}
	case k < 4:
		return api.Expr{Kind: api.ExNeg, Args: many(1, sub)}
	}
	return api.Expr{Kind: g.binary(), Args: many(2, sub)}
}

func (g *grower) cond(high int) api.Cond {
	sub := func() api.Cond { return g.cond(high - 1 - g.below(2)) }
	switch k := g.below(10); {
	case high <= 0 && k < 2:
		return api.Cond{Kind: api.CoTrue + uint8(k)}
	case high <= 0:
		return api.Cond{Kind: g.compare(), Args: many(2, func() api.Expr { return g.expr(g.below(3)) })}
	case k < 3:
		return api.Cond{Kind: api.CoNot, Of: many(1, sub)}
	}
	return api.Cond{Kind: api.CoAnd + uint8(g.below(2)), Of: many(2, sub)}
}

func (g *grower) stmt(high int) api.Stmt {
	expr := func() api.Expr { return g.expr(g.below(4)) }
	cond := func() api.Cond { return g.cond(g.below(4)) }
	body := func() []api.Stmt { return many(g.below(3), func() api.Stmt { return g.stmt(high - 1) }) }
	s := api.Stmt{Kind: 1 + uint8(g.below(9))}
	switch s.Kind {
	case api.StSet:
		s.Name, s.Args = g.name(), many(1, expr)
	case api.StStore:
		s.Name, s.Args = g.name(), many(2, expr)
	case api.StInput:
		s.Name = g.name()
	case api.StAssume, api.StAssert:
		s.Cond = many(1, cond)
	case api.StIf:
		s.Cond = many(1, cond)
		if high > 0 {
			s.Body, s.Else = body(), body()
		}
	case api.StWhile:
		s.Cond = many(1, cond)
		if high > 0 {
			s.Body = body()
		}
	case api.StCall:
		s.Name, s.Args = g.name(), many(g.below(4), expr)
	}
	return s
}

func (g *grower) tree() api.Tree {
	scalar := func() api.Var { return api.Var{Name: g.name()} }
	stmt := func() api.Stmt { return g.stmt(g.below(4)) }
	return api.Tree{
		Vars:   many(g.below(4), scalar),
		Arrays: many(g.below(3), func() api.Array { return api.Array{Name: g.name(), Size: oneOf(&g.x, numbers())} }),
		Procs: many(g.below(3), func() api.Proc {
			return api.Proc{Name: g.name(), Params: many(g.below(4), scalar), Body: many(g.below(3), stmt)}
		}),
		Main: many(g.below(5), stmt),
	}
}

// put writes a token, and tells where it begins.
func (g *grower) put(text string) int {
	wordy := func(c byte) bool { return c == '_' || '0' <= c && c <= '9' || 'a' <= c|0x20 && c|0x20 <= 'z' }
	if g.spares() || g.last != "" && wordy(g.last[len(g.last)-1]) && wordy(text[0]) {
		g.src.WriteString(oneOf(&g.x, someBlanks()))
	}
	at := g.src.Len()
	g.src.WriteString(text)
	g.last = text
	return at
}

func (g *grower) within(open string, f func(), end string) int {
	at := g.put(open)
	if g.deep >= 24 && g.over < 0 {
		g.over = at
	}
	g.deep++
	f()
	g.deep--
	if end != "" {
		g.put(end)
	}
	return at
}

// putList writes things with commas between.
func putList[T any](g *grower, l []T, f func(x *T)) {
	for i := range l {
		if i > 0 {
			g.put(",")
		}
		f(&l[i])
	}
}

// putExpr writes an expression where none of a lower level may stand bare: of << 1, of + 2, of * 3, of all else 4.
func (g *grower) putExpr(x *api.Expr, least int) {
	level := 4
	switch x.Kind {
	case api.ExShl, api.ExShr:
		level = 1
	case api.ExAdd, api.ExSub:
		level = 2
	case api.ExMul, api.ExDiv, api.ExMod:
		level = 3
	}
	if level < least || g.spares() && g.spares() {
		g.within("(", func() { g.putExpr(x, 1) }, ")")
		return
	}
	switch x.Kind {
	case api.ExNumber:
		x.At = g.put(strconv.Itoa(x.N))
	case api.ExVar:
		x.At = g.put(x.Name)
	case api.ExLoad:
		x.At = g.put(x.Name)
		g.putIndex(&x.Args[0])
	case api.ExNeg:
		x.At = g.within("-", func() { g.putExpr(&x.Args[0], 4) }, "")
	default:
		g.putExpr(&x.Args[0], level)
		x.At = g.put(signOfExpr(x.Kind))
		g.putExpr(&x.Args[1], level+1)
	}
}

func (g *grower) putIndex(x *api.Expr) {
	g.within("[", func() { g.putExpr(x, 1) }, "]")
}

// putCond likewise: of || 1, of && 2, of all else 3.
func (g *grower) putCond(x *api.Cond, least int) {
	level := 3
	switch x.Kind {
	case api.CoOr:
		level = 1
	case api.CoAnd:
		level = 2
	}
	if level < least || g.spares() && g.spares() {
		g.within("[", func() { g.putCond(x, 1) }, "]")
		return
	}
	switch x.Kind {
	case api.CoTrue, api.CoFalse:
		x.At = g.put(signOfCond(x.Kind))
	case api.CoNot:
		x.At = g.within("!", func() { g.putCond(&x.Of[0], 3) }, "")
	case api.CoAnd, api.CoOr:
		g.putCond(&x.Of[0], level)
		x.At = g.put(signOfCond(x.Kind))
		g.putCond(&x.Of[1], level+1)
	default:
		g.putExpr(&x.Args[0], 1)
		x.At = g.put(signOfCond(x.Kind))
		g.putExpr(&x.Args[1], 1)
	}
}

func (g *grower) putAsked(word string, x *api.Cond) int {
	at := g.put(word)
	g.put("(")
	g.putCond(x, 1)
	g.put(")")
	return at
}

func (g *grower) putBlock(l []api.Stmt) {
	g.within("{", func() {
		for i := range l {
			g.putStmt(&l[i])
		}
	}, "}")
}

func (g *grower) putStmt(s *api.Stmt) {
	switch s.Kind {
	case api.StSkip:
		s.At = g.put("skip")
	case api.StSet:
		s.At = g.put(s.Name)
		g.put("=")
		g.putExpr(&s.Args[0], 1)
	case api.StStore:
		s.At = g.put(s.Name)
		g.putIndex(&s.Args[0])
		g.put("=")
		g.putExpr(&s.Args[1], 1)
	case api.StInput:
		s.At = g.put("input")
		g.put(s.Name)
	case api.StAssume:
		s.At = g.putAsked("assume", &s.Cond[0])
	case api.StAssert:
		s.At = g.putAsked("assert", &s.Cond[0])
	case api.StIf:
		s.At = g.putAsked("if", &s.Cond[0])
		g.putBlock(s.Body)
		if len(s.Else) > 0 || g.spares() {
			g.put("else")
			g.putBlock(s.Else)
		}
		return
	case api.StWhile:
		s.At = g.putAsked("while", &s.Cond[0])
		g.putBlock(s.Body)
		return
	case api.StCall:
		s.At = g.put("call")
		g.put(s.Name)
		g.put("(")
		putList(g, s.Args, func(x *api.Expr) { g.putExpr(x, 1) })
		g.put(")")
	}
	g.put(";")
}

func (g *grower) putScalar(x *api.Var) { x.At = g.put(x.Name) }

func (g *grower) putArray(x *api.Array) {
	x.At = g.put(x.Name)
	g.put("[")
	g.put(strconv.Itoa(x.Size))
	g.put("]")
}

// putDeclared writes scalars and arrays, some at a time, in any order.
func (g *grower) putDeclared(vars []api.Var, arrays []api.Array) {
	for len(vars)+len(arrays) > 0 {
		if n := min(len(vars), 1+g.below(3)); n > 0 && (len(arrays) == 0 || g.below(2) == 0) {
			g.put("var")
			putList(g, vars[:n], g.putScalar)
			vars = vars[n:]
		} else {
			n := min(len(arrays), 1+g.below(3))
			g.put("array")
			putList(g, arrays[:n], g.putArray)
			arrays = arrays[n:]
		}
		g.put(";")
	}
}

func (g *grower) putTree(t *api.Tree) {
	g.putDeclared(t.Vars, t.Arrays)
	for i := range t.Procs {
		g.put("proc")
		t.Procs[i].At = g.put(t.Procs[i].Name)
		g.put("(")
		putList(g, t.Procs[i].Params, g.putScalar)
		g.put(")")
		g.putBlock(t.Procs[i].Body)
	}
	g.put("main")
	g.putBlock(t.Main)
	if g.spares() {
		g.src.WriteString(oneOf(&g.x, someBlanks()))
	}
}

// grown is a program's text with what has to be answered of it; one that is not too long.
type grown struct {
	src  string
	tree api.Tree
	verdict
}

func grow(x *uint64) grown {
	for {
		g := &grower{x: *x, over: -1, spare: shuffled(x, 2) * shuffled(x, 100)}
		t := g.tree()
		g.putTree(&t)
		src := g.src.String()
		*x = g.x
		switch {
		case len(src) > api.MaxText:
		case g.over >= 0:
			return grown{src: src, verdict: verdict{g.over, api.ErrDeep}}
		default:
			return grown{src: src, tree: t}
		}
	}
}
