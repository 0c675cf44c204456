package parse_test

import (
	"strconv"
	"strings"
	"testing"

	"facetroom/api"
	"facetroom/parse"
)

// tree is a text's, all of which may be.
func tree(t *testing.T, src string) api.Tree {
	t.Helper()
	got, at, e := parse.Parse(src)
	if at != 0 || e != api.OK {
		t.Fatalf("Parse %s: error %d at %d", cut(src), e, at)
	}
	return got
}

func has(t *testing.T, src string, want api.Tree) {
	t.Helper()
	if got := told(tree(t, src)); got != told(want) {
		t.Errorf("Parse %s: %s; want %s", cut(src), got, told(want))
	}
}

// The table of the chapter's examples.
func TestExamples(t *testing.T) {
	has(t, "main{}", api.Tree{})
	judges(t, "main{x=1}", verdict{8, api.ErrSyntax})
	judges(t, "main{x=(1;}", verdict{9, api.ErrSyntax})
}

func number(n, at int) api.Expr             { return api.Expr{Kind: api.ExNumber, N: n, At: at} }
func variable(name string, at int) api.Expr { return api.Expr{Kind: api.ExVar, Name: name, At: at} }

func made(kind uint8, at int, l ...api.Expr) api.Expr {
	return api.Expr{Kind: kind, Args: l, At: at}
}

func load(name string, at int, index api.Expr) api.Expr {
	return api.Expr{Kind: api.ExLoad, Name: name, Args: []api.Expr{index}, At: at}
}

func compared(kind uint8, at int, a, b api.Expr) api.Cond {
	return api.Cond{Kind: kind, Args: []api.Expr{a, b}, At: at}
}

func joined(kind uint8, at int, l ...api.Cond) api.Cond {
	return api.Cond{Kind: kind, Of: l, At: at}
}

// P9.1: each statement, field by field, with each place.
func TestStatements(t *testing.T) {
	for src, want := range map[string]api.Stmt{
		"skip;":                  {Kind: 1, At: 5},
		" x = 1 ;":               {Kind: 2, Name: "x", Args: []api.Expr{number(1, 10)}, At: 6},
		"x=-y;":                  {Kind: 2, Name: "x", Args: []api.Expr{made(4, 7, variable("y", 8))}, At: 5},
		"b[i]=2;":                {Kind: 3, Name: "b", Args: []api.Expr{variable("i", 7), number(2, 10)}, At: 5},
		"b[c[0]]=d[1];":          {Kind: 3, Name: "b", Args: []api.Expr{load("c", 7, number(0, 9)), load("d", 13, number(1, 15))}, At: 5},
		"input\nx;":              {Kind: 4, Name: "x", At: 5},
		"assume(true);":          {Kind: 5, Cond: []api.Cond{{Kind: 1, At: 12}}, At: 5},
		"assert(x<1);":           {Kind: 6, Cond: []api.Cond{compared(3, 13, variable("x", 12), number(1, 14))}, At: 5},
		"if(false){}":            {Kind: 7, Cond: []api.Cond{{Kind: 2, At: 8}}, At: 5},
		"if(false){}else{}":      {Kind: 7, Cond: []api.Cond{{Kind: 2, At: 8}}, At: 5},
		"if(true){skip;}":        {Kind: 7, Cond: []api.Cond{{Kind: 1, At: 8}}, Body: []api.Stmt{{Kind: 1, At: 14}}, At: 5},
		"if(true){}else{skip;}":  {Kind: 7, Cond: []api.Cond{{Kind: 1, At: 8}}, Else: []api.Stmt{{Kind: 1, At: 20}}, At: 5},
		"if(true){skip;}else{}":  {Kind: 7, Cond: []api.Cond{{Kind: 1, At: 8}}, Body: []api.Stmt{{Kind: 1, At: 14}}, At: 5},
		"while(!true){}":         {Kind: 8, Cond: []api.Cond{joined(9, 11, api.Cond{Kind: 1, At: 12})}, At: 5},
		"while(x>=y){skip;x=1;}": {Kind: 8, Cond: []api.Cond{compared(6, 12, variable("x", 11), variable("y", 14))}, Body: []api.Stmt{{Kind: 1, At: 17}, {Kind: 2, Name: "x", Args: []api.Expr{number(1, 24)}, At: 22}}, At: 5},
		"call p();":              {Kind: 9, Name: "p", At: 5},
		"call p(1);":             {Kind: 9, Name: "p", Args: []api.Expr{number(1, 12)}, At: 5},
		"call p(x, (y), b[0] );": {Kind: 9, Name: "p", Args: []api.Expr{variable("x", 12), variable("y", 16), load("b", 20, number(0, 22))}, At: 5},
	} {
		has(t, "main{"+src+"}", api.Tree{Main: []api.Stmt{want}})
	}
}

// P9.1: statements one behind the other, and else with the if that it stands behind.
func TestManyStatements(t *testing.T) {
	skip := func(at int) api.Stmt { return api.Stmt{Kind: api.StSkip, At: at} }
	yes := func(at int) []api.Cond { return []api.Cond{{Kind: api.CoTrue, At: at}} }
	has(t, "main{skip;skip;\nskip;}", api.Tree{Main: []api.Stmt{skip(5), skip(10), skip(16)}})
	has(t, "main{if(true){if(true){}else{skip;}}skip;}", api.Tree{Main: []api.Stmt{
		{Kind: api.StIf, Cond: yes(8), Body: []api.Stmt{{Kind: api.StIf, Cond: yes(17), Else: []api.Stmt{skip(29)}, At: 14}}, At: 5}, skip(36)}})
	has(t, "main{if(true){if(true){}}else{skip;}skip;}", api.Tree{Main: []api.Stmt{
		{Kind: api.StIf, Cond: yes(8), Body: []api.Stmt{{Kind: api.StIf, Cond: yes(17), At: 14}}, Else: []api.Stmt{skip(30)}, At: 5}, skip(36)}})
	has(t, "main{if(true){}else{if(true){}else{skip;}}}", api.Tree{Main: []api.Stmt{
		{Kind: api.StIf, Cond: yes(8), Else: []api.Stmt{{Kind: api.StIf, Cond: yes(23), Else: []api.Stmt{skip(35)}, At: 20}}, At: 5}}})
	most := "main{" + strings.Repeat("skip;", 818) + "}"
	if got := tree(t, most); len(got.Main) != 818 || len(most) != api.MaxText {
		t.Errorf("%d bytes: %d statements", len(most), len(got.Main))
	}
}

// P9.1: what is declared, in any order, and as much as there is room for: no limit but a text's is looked at here.
func TestDeclared(t *testing.T) {
	has(t, "var x;main{}", api.Tree{Vars: []api.Var{{Name: "x", At: 4}}})
	has(t, "var x,y ,x;var\tz;main{}", api.Tree{Vars: []api.Var{{Name: "x", At: 4}, {Name: "y", At: 6}, {Name: "x", At: 9}, {Name: "z", At: 15}}})
	has(t, "array b[0];main{}", api.Tree{Arrays: []api.Array{{Name: "b", At: 6}}})
	has(t, "array b [ 4 ], c[9223372036854775807] ;main{}", api.Tree{Arrays: []api.Array{{Name: "b", Size: 4, At: 6}, {Name: "c", Size: 9223372036854775807, At: 15}}})
	has(t, "array b[1];var x;array x[2],d[17];var y,b;main{}", api.Tree{
		Vars:   []api.Var{{Name: "x", At: 15}, {Name: "y", At: 38}, {Name: "b", At: 40}},
		Arrays: []api.Array{{Name: "b", Size: 1, At: 6}, {Name: "x", Size: 2, At: 23}, {Name: "d", Size: 17, At: 28}}})
	got := tree(t, "var x"+strings.Repeat(",x", 500)+";"+strings.Repeat("array b[1];", 100)+strings.Repeat("proc p(a"+strings.Repeat(",a", 20)+"){}", 10)+"main{}")
	if len(got.Vars) != 501 || len(got.Arrays) != 100 || len(got.Procs) != 10 || len(got.Procs[9].Params) != 21 {
		t.Error(len(got.Vars), len(got.Arrays), len(got.Procs))
	}
}

// P9.1: procedures, whose place is that of their name.
func TestProcedures(t *testing.T) {
	has(t, "proc p(){}main{}", api.Tree{Procs: []api.Proc{{Name: "p", At: 5}}})
	has(t, "proc p ( a ) { skip; } main{skip;}", api.Tree{
		Procs: []api.Proc{{Name: "p", Params: []api.Var{{Name: "a", At: 9}}, Body: []api.Stmt{{Kind: api.StSkip, At: 15}}, At: 5}},
		Main:  []api.Stmt{{Kind: api.StSkip, At: 28}}})
	has(t, "var p;proc p(p,q){p=q;}proc q(){call p(1,2);}main{}", api.Tree{
		Vars: []api.Var{{Name: "p", At: 4}},
		Procs: []api.Proc{
			{Name: "p", Params: []api.Var{{Name: "p", At: 13}, {Name: "q", At: 15}}, Body: []api.Stmt{{Kind: api.StSet, Name: "p", Args: []api.Expr{variable("q", 20)}, At: 18}}, At: 11},
			{Name: "q", Body: []api.Stmt{{Kind: api.StCall, Name: "p", Args: []api.Expr{number(1, 39), number(2, 41)}, At: 32}}, At: 28}}})
}

// exprs are expressions, with parentheses around all that a sign makes.
func exprs() map[string]string {
	return map[string]string{
		"0": "0", "x": "x", "9223372036854775807": "9223372036854775807", "(x)": "x", "((x))": "x", "b[x]": "b[x]", "b[(x)]": "b[x]", "b[b[0]]": "b[b[0]]", "(b[0])": "b[0]",
		"-x": "(-x)", "-1": "(-1)", "-9223372036854775807": "(-9223372036854775807)", "--x": "(-(-x))", "-(-x)": "(-(-x))", "-(x)": "(-x)", "-b[-x]": "(-b[(-x)])",
		"x+y": "(x+y)", "x-y": "(x-y)", "x*y": "(x*y)", "x/y": "(x/y)", "x%y": "(x%y)", "x<<y": "(x<<y)", "x>>y": "(x>>y)",
		"a-b-c": "((a-b)-c)", "a-(b-c)": "(a-(b-c))", "(a-b)-c": "((a-b)-c)", "a+b+c+d": "(((a+b)+c)+d)", "a-b+c-d": "(((a-b)+c)-d)", "a/b/c": "((a/b)/c)", "a/(b/c)": "(a/(b/c))", "a*b/c%d": "(((a*b)/c)%d)", "a%b*c": "((a%b)*c)", "a<<b<<c": "((a<<b)<<c)", "a<<(b<<c)": "(a<<(b<<c))", "a>>b<<c>>d": "(((a>>b)<<c)>>d)",
		"a+b*c": "(a+(b*c))", "a*b+c": "((a*b)+c)", "(a+b)*c": "((a+b)*c)", "a*(b+c)": "(a*(b+c))", "a-b/c-d": "((a-(b/c))-d)", "a%b-c%d": "((a%b)-(c%d))", "a*b+c*d": "((a*b)+(c*d))",
		"a<<b+c": "(a<<(b+c))", "a+b<<c": "((a+b)<<c)", "(a<<b)+c": "((a<<b)+c)", "a+(b>>c)": "(a+(b>>c))", "a<<b*c": "(a<<(b*c))", "a*b>>c": "((a*b)>>c)", "a*(b>>c)": "(a*(b>>c))", "a+b<<c*d-e>>f": "(((a+b)<<((c*d)-e))>>f)",
		"-x+y": "((-x)+y)", "-(x+y)": "(-(x+y))", "x+-y": "(x+(-y))", "x--y": "(x-(-y))", "x---y": "(x-(-(-y)))", "-x*y": "((-x)*y)", "x*-y": "(x*(-y))", "-x*-y": "((-x)*(-y))", "-x<<y": "((-x)<<y)", "x/-y/z": "((x/(-y))/z)", "-b[i]%-(-2)": "((-b[i])%(-(-2)))", "- x - - 1 - y": "(((-x)-(-1))-y)",
		"b[i+1]*b[i-1]": "(b[(i+1)]*b[(i-1)])", "b[i<<1]+c[-1]": "(b[(i<<1)]+c[(-1)])", "(((a+b)))*((c))": "((a+b)*c)",
	}
}

// shownIn is an expression as each of the places where one may stand has it.
func shownIn(t *testing.T, expr string) []string {
	t.Helper()
	src := "main{x=" + expr + ";b[" + expr + "]=" + expr + ";call p(" + expr + "," + expr + ");assume(" + expr + "<" + expr + ");x=b[" + expr + "];x=-(" + expr + ");}"
	m := tree(t, src).Main
	l := []api.Expr{m[0].Args[0], m[1].Args[0], m[1].Args[1], m[2].Args[0], m[2].Args[1], m[3].Cond[0].Args[0], m[3].Cond[0].Args[1], m[4].Args[0].Args[0], m[5].Args[0].Args[0]}
	shown := make([]string, len(l))
	for i, x := range l {
		shown[i] = shownExpr(x)
	}
	return shown
}

// P9.1: what is made of what: signs of one level from the left, those of a higher one first.
func TestExpressions(t *testing.T) {
	for src, want := range exprs() {
		for _, laid := range []string{src, " " + src + "\n", strings.Join(strings.Split(src, "-"), " - ")} {
			for i, got := range shownIn(t, laid) {
				if got != want {
					t.Errorf("%s, in place %d: %s; want %s", laid, i, got, want)
				}
			}
		}
		if got := shownIn(t, want)[0]; got != want { // its parentheses leave nothing
			t.Errorf("%s: %s", want, got)
		}
	}
}

// P9.1: places of an expression's parts: what a sign makes stands where the sign does.
func TestPlacesInExpressions(t *testing.T) {
	set := func(x api.Expr) api.Tree {
		return api.Tree{Main: []api.Stmt{{Kind: api.StSet, Name: "x", Args: []api.Expr{x}, At: 5}}}
	}
	has(t, "main{x=a - b - c;}", set(made(api.ExSub, 13, made(api.ExSub, 9, variable("a", 7), variable("b", 11)), variable("c", 15))))
	has(t, "main{x=((a)-(b-(c)));}", set(made(api.ExSub, 11, variable("a", 9), made(api.ExSub, 14, variable("b", 13), variable("c", 16)))))
	has(t, "main{x=( -( 1 )) << b [ y ];}", set(made(api.ExShl, 17, made(api.ExNeg, 9, number(1, 12)), load("b", 20, variable("y", 24)))))
	has(t, "main{x=a*b+c%d;}", set(made(api.ExAdd, 10, made(api.ExMul, 8, variable("a", 7), variable("b", 9)), made(api.ExMod, 12, variable("c", 11), variable("d", 13)))))
	has(t, "main{x=a/b>>--1;}", set(made(api.ExShr, 10, made(api.ExDiv, 8, variable("a", 7), variable("b", 9)), made(api.ExNeg, 12, made(api.ExNeg, 13, number(1, 14))))))
}

// conds are conditions, with parentheses around all that a sign makes.
func conds() map[string]string {
	return map[string]string{
		"true": "true", "false": "false", "[true]": "true", "[[false]]": "false", "!true": "(!true)", "!!true": "(!(!true))", "![!true]": "(!(!true))",
		"x<y": "(x<y)", "x<=y": "(x<=y)", "x>y": "(x>y)", "x>=y": "(x>=y)", "x==y": "(x==y)", "x!=y": "(x!=y)", "[x<y]": "(x<y)", "(x)<(y)": "(x<y)", "!x<y": "(!(x<y))", "![x<y]": "(!(x<y))", "!-x!=-y": "(!((-x)!=(-y)))",
		"x<y<<1": "(x<(y<<1))", "x<<1<y": "((x<<1)<y)", "x>>1>=y>>2": "((x>>1)>=(y>>2))", "x+1==y*2-z": "((x+1)==((y*2)-z))", "b[x]!=b[y]": "(b[x]!=b[y])", "(x<<1)<=-y": "((x<<1)<=(-y))", "x>-1": "(x>(-1))",
		"true&&false": "(true&&false)", "true||false": "(true||false)", "true&&true&&false": "((true&&true)&&false)", "true||true||false": "((true||true)||false)", "true&&[true&&false]": "(true&&(true&&false))", "true||[true||false]": "(true||(true||false))", "[true&&true]&&false": "((true&&true)&&false)",
		"true||false&&true": "(true||(false&&true))", "true&&false||true": "((true&&false)||true)", "[true||false]&&true": "((true||false)&&true)", "true&&[false||true]": "(true&&(false||true))", "true&&false||true&&true": "((true&&false)||(true&&true))", "true||false&&true||false": "((true||(false&&true))||false)",
		"!true&&false": "((!true)&&false)", "![true&&false]": "(!(true&&false))", "true||!false": "(true||(!false))", "!true||!!false&&!true": "((!true)||((!(!false))&&(!true)))", "!x<y&&z>1": "((!(x<y))&&(z>1))", "![x<y||z>1]": "(!((x<y)||(z>1)))",
		"x<y&&y<z||!z==x": "(((x<y)&&(y<z))||(!(z==x)))", "[[x<y]&&[[true]]]": "((x<y)&&true)", "x<1||x>2&&x!=3||false": "(((x<1)||((x>2)&&(x!=3)))||false)",
	}
}

// P9.1: conditions likewise, in each of the places where one may stand.
func TestConditions(t *testing.T) {
	for src, want := range conds() {
		for _, laid := range []string{src, "\t" + src + " ", strings.Join(strings.Split(src, "&&"), "\n&& ")} {
			m := tree(t, "main{assume("+laid+");assert("+laid+");if("+laid+"){}while("+laid+"){}assume(!["+laid+"]);}").Main
			l := []api.Cond{m[0].Cond[0], m[1].Cond[0], m[2].Cond[0], m[3].Cond[0], m[4].Cond[0].Of[0]}
			for i, c := range l {
				if got := shownCond(c); got != want {
					t.Errorf("%s, in place %d: %s; want %s", laid, i, got, want)
				}
			}
		}
	}
}

// P9.1: places of a condition's parts.
func TestPlacesInConditions(t *testing.T) {
	assume := func(x api.Cond) api.Tree {
		return api.Tree{Main: []api.Stmt{{Kind: api.StAssume, Cond: []api.Cond{x}, At: 5}}}
	}
	yes := func(at int) api.Cond { return api.Cond{Kind: api.CoTrue, At: at} }
	no := func(at int) api.Cond { return api.Cond{Kind: api.CoFalse, At: at} }
	has(t, "main{assume( true );}", assume(yes(13)))
	has(t, "main{assume([[false]]);}", assume(no(14)))
	has(t, "main{assume(true&&false&&true);}", assume(joined(api.CoAnd, 23, joined(api.CoAnd, 16, yes(12), no(18)), yes(25))))
	has(t, "main{assume(true||[false||true]);}", assume(joined(api.CoOr, 16, yes(12), joined(api.CoOr, 24, no(19), yes(26)))))
	has(t, "main{assume(! [x<=1&&!false]);}", assume(joined(api.CoNot, 12, joined(api.CoAnd, 19, compared(api.CoLe, 16, variable("x", 15), number(1, 18)), joined(api.CoNot, 21, no(22))))))
	has(t, "main{assume((x)-1 != b[y]);}", assume(compared(api.CoNe, 18, made(api.ExSub, 15, variable("x", 13), number(1, 16)), load("b", 21, variable("y", 23)))))
	for i, sign := range strings.Fields("< <= > >= == !=") {
		has(t, "main{assume(x"+sign+" 1);}", assume(compared(api.CoLt+uint8(i), 13, variable("x", 12), number(1, 14+len(sign)))))
	}
}

// P9.1: numbers of every length, and sizes.
func TestNumbers(t *testing.T) {
	for n := 1; n > 0; n = n*3 + 1 {
		for _, n := range []int{n - 1, n, 9223372036854775807 - n, 9223372036854775807} {
			text := strconv.Itoa(n)
			has(t, "array b["+text+"];main{x="+text+";}", api.Tree{Arrays: []api.Array{{Name: "b", Size: n, At: 6}}, Main: []api.Stmt{{Kind: api.StSet, Name: "x", Args: []api.Expr{number(n, 17+len(text))}, At: 15 + len(text)}}})
		}
	}
}

// P9.1: long chains are made from the left however long they are, and open nothing.
func TestLongChains(t *testing.T) {
	for _, sign := range []string{"+", "-", "*", "/", "%", "<<", ">>"} {
		for _, long := range []int{2, 100, 1300} {
			x := tree(t, "main{x=a"+strings.Repeat(sign+"b", long)+";}").Main[0].Args[0]
			for n := long; n > 0; n-- {
				if b := x.Args[1]; signOfExpr(x.Kind) != sign || x.At != 8+(n-1)*(len(sign)+1) || b.Name != "b" || b.At != x.At+len(sign) || len(x.Args) != 2 {
					t.Fatalf("%s, %d: %s", sign, n, told(x))
				}
				x = x.Args[0]
			}
			if x.Name != "a" || x.At != 7 {
				t.Errorf("%s: %s", sign, told(x))
			}
		}
	}
	for _, sign := range []string{"&&", "||"} {
		x := tree(t, "main{assert(true"+strings.Repeat(sign+"false", 500)+");}").Main[0].Cond[0]
		for n := 500; n > 0; n-- {
			if signOfCond(x.Kind) != sign || x.At != 16+(n-1)*7 || x.Of[1].Kind != api.CoFalse {
				t.Fatalf("%s, %d", sign, n)
			}
			x = x.Of[0]
		}
		if x.Kind != api.CoTrue || x.At != 12 {
			t.Errorf("%s: %s", sign, told(x))
		}
	}
}

// P9.1: any trees, whose texts have parentheses, brackets and blanks where they are needed, and more.
func TestGrown(t *testing.T) {
	x := uint64(9)
	deep := 0
	for range 4000 {
		g := grow(&x)
		judges(t, g.src, g.verdict)
		reckons(t, g.src)
		if g.e != api.OK {
			deep++
			continue
		}
		has(t, g.src, g.tree)
	}
	if deep == 0 || deep > 1000 {
		t.Errorf("%d of 4000 are too deep", deep)
	}
}
