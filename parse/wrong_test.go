package parse_test

import (
	"slices"
	"strings"
	"testing"

	"facetroom/api"
	"facetroom/lex"
)

// P9.1: the first token that may not stand where it does, by hand, in each line of the grammar.
func TestWrongByHand(t *testing.T) {
	for _, c := range []struct {
		src string
		at  int
	}{
		{"", 0}, {" ", 1}, {"\n\n", 2}, {"x", 0}, {"1", 0}, {";", 0}, {"{", 0}, {"main", 4}, {"main ", 5}, {"main{", 5}, {"main{ ", 6}, {"main}", 4}, {"main()", 4}, {"main main", 5}, {"Main{}", 0}, {"skip;", 0}, {"main{}x", 6}, {"main{};", 6}, {"main{}}", 6}, {"main{} main{}", 7}, {"main{}proc p(){}", 6}, {"main{}var x;", 6}, {"main x{}", 5},
		{"var", 3}, {"var ;main{}", 4}, {"var main{}", 4}, {"var x main{}", 6}, {"var x", 5}, {"var x,", 6}, {"var x,;main{}", 6}, {"var x y;main{}", 6}, {"var if;main{}", 4}, {"var 1;main{}", 4}, {"var x;;main{}", 6}, {"var x[1];main{}", 5}, {"var x=1;main{}", 5}, {"var x,array;main{}", 6}, {"var x;y;main{}", 6}, {"var x;", 6},
		{"array", 5}, {"array b;main{}", 7}, {"array b[];main{}", 8}, {"array b[x];main{}", 8}, {"array b[-1];main{}", 8}, {"array b[(1)];main{}", 8}, {"array b[1+1];main{}", 9}, {"array b[1;main{}", 9}, {"array b[1]main{}", 10}, {"array b[1],;main{}", 11}, {"array b[1],c;main{}", 12}, {"array [1];main{}", 6}, {"array b[1] c[1];main{}", 11}, {"array b[1][2];main{}", 10}, {"array b[", 8}, {"array b[1", 9}, {"array call[1];main{}", 6},
		{"proc", 4}, {"proc(){}main{}", 4}, {"proc p{}main{}", 6}, {"proc p(){}", 10}, {"proc p();main{}", 8}, {"proc p(1){}main{}", 7}, {"proc p(a,){}main{}", 9}, {"proc p(,a){}main{}", 7}, {"proc p(a b){}main{}", 9}, {"proc p(a;b){}main{}", 8}, {"proc p(var a){}main{}", 7}, {"proc p(a[1]){}main{}", 8}, {"proc p(a{}main{}", 8}, {"proc p(a)main{}", 9}, {"proc p(){}var x;main{}", 10}, {"proc p(){}array b[1];main{}", 10}, {"proc main(){}main{}", 5}, {"proc p(){};main{}", 10}, {"proc p(){", 9}, {"proc p(", 7}, {"proc p(a", 8},
		{"main{;}", 5}, {"main{skip}", 9}, {"main{skip;;}", 10}, {"main{skip skip;}", 10}, {"main{{}}", 5}, {"main{1=x;}", 5}, {"main{x;}", 6}, {"main{x}", 6}, {"main{x=}", 7}, {"main{x=;}", 7}, {"main{x=1", 8}, {"main{x=1;", 9}, {"main{x==1;}", 6}, {"main{x=1,y=2;}", 8}, {"main{x=y=1;}", 8}, {"main{(x)=1;}", 5}, {"main{-x=1;}", 5}, {"main{x+1;}", 6}, {"main{x(1);}", 6}, {"main{var x;}", 5}, {"main{else{}}", 5}, {"main{true;}", 5}, {"main{proc p(){}}", 5}, {"main{main{}}", 5}, {"main{x[1];}", 9}, {"main{x[]=1;}", 7}, {"main{x[1=1;}", 8}, {"main{x[1]==1;}", 9}, {"main{x[1][2]=1;}", 9}, {"main{x[1,2]=1;}", 8}, {"main{x[1]=;}", 10}, {"main{x[x<1]=1;}", 8}, {"main{x=x<1;}", 8}, {"main{x=true;}", 7}, {"main{x=!y;}", 7}, {"main{x=[1];}", 7}, {"main{x=1;}}", 10},
		{"main{input;}", 10}, {"main{input 1;}", 11}, {"main{input x}", 12}, {"main{input x,y;}", 12}, {"main{input b[0];}", 12}, {"main{input if;}", 11}, {"main{input(x);}", 10},
		{"main{assume true;}", 12}, {"main{assume();}", 12}, {"main{assume(true)}", 17}, {"main{assume(true;}", 16}, {"main{assume(x);}", 13}, {"main{assume(1);}", 13}, {"main{assert x<1;}", 12}, {"main{assert(x<);}", 14}, {"main{assert(<x);}", 12}, {"main{assert(x<1){}}", 16}, {"main{assert(true,true);}", 16}, {"main{assert(true true);}", 17}, {"main{assert(x=1);}", 13}, {"main{assert(x<y<z);}", 15}, {"main{assert(x==y==z);}", 16}, {"main{assert((x<y));}", 14}, {"main{assert((true));}", 13}, {"main{assert([x]<1);}", 14}, {"main{assert([x<1]<1);}", 17}, {"main{assert([x<1]+1<2);}", 17}, {"main{assert([true);}", 17}, {"main{assert(true]);}", 16}, {"main{assert(!);}", 13}, {"main{assert(!x);}", 14}, {"main{assert(!x+1);}", 16}, {"main{assert(-true);}", 13}, {"main{assert(-!true);}", 13}, {"main{assert(x<!y);}", 14}, {"main{assert(x<true);}", 14}, {"main{assert(true<x);}", 16}, {"main{assert(true&&);}", 18}, {"main{assert(&&true);}", 12}, {"main{assert(true||&&true);}", 18}, {"main{assert(x<1&&y);}", 18}, {"main{assert(x&&y);}", 13}, {"main{assert(x||y<1);}", 13}, {"main{assert((x<1&&y<1));}", 14}, {"main{assert(skip);}", 12},
		{"main{if true{}}", 8}, {"main{if(){}}", 8}, {"main{if(x){}}", 9}, {"main{if((x<1)){}}", 10}, {"main{if(true)skip;}", 13}, {"main{if(true){}else skip;}", 20}, {"main{if(true){}else if(true){}}", 20}, {"main{if(true){};}", 15}, {"main{if(true){}else{}else{}}", 21}, {"main{if(true){}else}", 19}, {"main{if(true){}else", 19}, {"main{if(true){}", 15}, {"main{if(true){skip}}", 18}, {"main{if(true)}", 13}, {"main{if(true){}skip;else{}}", 20}, {"main{if{}}", 7}, {"main{if(true;true){}}", 12},
		{"main{while true{}}", 11}, {"main{while(){}}", 11}, {"main{while(true);}", 16}, {"main{while(true){}else{}}", 18}, {"main{while(true){};}", 18}, {"main{while(true){", 17}, {"main{while(true){}", 18}, {"main{while(x){}}", 12},
		{"main{call;}", 9}, {"main{call p;}", 11}, {"main{call p()}", 13}, {"main{call p(,);}", 12}, {"main{call p(1,);}", 14}, {"main{call p(,1);}", 12}, {"main{call p(1 2);}", 14}, {"main{call p(1;2);}", 13}, {"main{call p(1;}", 13}, {"main{call p(x<1);}", 13}, {"main{call p(true);}", 12}, {"main{call 1();}", 10}, {"main{call p[1]();}", 11}, {"main{call p()();}", 13}, {"main{call if();}", 10}, {"main{p();}", 6}, {"main{call p(", 12}, {"main{call p(1", 13}, {"main{call p(1,", 14},
		{"main{x=();}", 8}, {"main{x=(1;}", 9}, {"main{x=1);}", 8}, {"main{x=(1));}", 10}, {"main{x=(1 2);}", 10}, {"main{x=(1,2);}", 9}, {"main{x=(y<1);}", 9}, {"main{x=+1;}", 7}, {"main{x=1+;}", 9}, {"main{x=1+*2;}", 9}, {"main{x=1 2;}", 9}, {"main{x=y z;}", 9}, {"main{x=-;}", 8}, {"main{x=*y;}", 7}, {"main{x=1<<;}", 10}, {"main{x=1<<>>2;}", 10}, {"main{x=y();}", 8}, {"main{x=1[0];}", 8}, {"main{x=(b)[0];}", 10}, {"main{x=b[];}", 9}, {"main{x=b[0;}", 10}, {"main{x=b[0]];}", 11}, {"main{x=b[0][1];}", 11}, {"main{x=b[0,1];}", 10}, {"main{x=b[(0];}", 11}, {"main{x=(b[0);}", 11}, {"main{x=if;}", 7}, {"main{x=call p();}", 7}, {"main{x=skip;}", 7}, {"main{x=1&&2;}", 8}, {"main{x=y!=1;}", 8}, {"main{x=-(1;}", 10}, {"main{x=(", 8}, {"main{x=b[", 9}, {"main{x=1+", 9}, {"main{x=-", 8}, {"main{x", 6}, {"main{x=", 7}, {"main{x[", 7},
	} {
		judges(t, c.src, verdict{c.at, api.ErrSyntax})
		reckons(t, c.src)
		if c.at < len(c.src) { // what is behind does not matter, as long as it has tokens
			judges(t, c.src+" x=1;} if else ((((", verdict{c.at, api.ErrSyntax})
		} else {
			judges(t, c.src+"  \n", verdict{c.at + 3, api.ErrSyntax})
		}
	}
}

// samples have between them all that the grammar has.
func samples() []string {
	return []string{
		"main{}",
		"var x,y;array b[4],c[1];var z;proc p(u,v){x=u-v-1;}proc q(){}main{call p(x,b[y]*-2);call q();skip;input y;}",
		"main{if(x<1||![y==2]&&true){call p(1);}else{b[x]=x<<1;}while(x!=0){assert(x>=y);assume(false);}}",
		"main{x=(a+b)*-c[d%2]/(e-1)>>f;if([x<=1]&&!y>2){}if(true){}else{}while(!!false||true){if(x<y){skip;}}}",
	}
}

func textsOf(t *testing.T, src string) []string {
	t.Helper()
	tokens, _, e := lex.Tokens(src)
	if e != api.OK {
		t.Fatalf("%s: error %d", cut(src), e)
	}
	l := make([]string, len(tokens))
	for i, x := range tokens {
		l[i] = x.Text
	}
	return l
}

// P9.1: programs with any token left out, or in the place of another, or between two, and those that end too soon, beside another's reckoning.
func TestEachTokenChanged(t *testing.T) {
	for _, src := range samples() {
		l := textsOf(t, src)
		reckonsList(t, l)
		for i := range len(l) + 1 {
			reckonsList(t, l[:i])
			for _, x := range allTokens() {
				reckonsList(t, slices.Concat(l[:i], []string{x}, l[i:]))
				if i < len(l) {
					reckonsList(t, slices.Concat(l[:i], []string{x}, l[i+1:]))
				}
			}
			if i < len(l) {
				reckonsList(t, slices.Concat(l[:i], l[i+1:]))
			}
		}
	}
}

func reckonsList(t *testing.T, l []string) {
	t.Helper()
	reckons(t, strings.Join(l, " "))
}

// P9.1: behind each of some beginnings all that may stand, three tokens on, and behind that each token there is.
func TestAllShort(t *testing.T) {
	var all func(l []string, left int)
	all = func(l []string, left int) {
		for _, x := range allTokens() {
			on := slices.Concat(l, []string{x})
			reckonsList(t, on)
			if left > 0 && reckoned(strings.Join(on, " ")).at == len(strings.Join(on, " ")) { // it only ends too soon
				all(on, left-1)
			}
		}
	}
	for _, src := range []string{"", "var", "array b", "proc p", "proc p(", "proc p(a", "main", "main{", "main{if(true){}", "main{x", "main{x=", "main{b[", "main{b[1]", "main{x=-", "main{x=(1", "main{call p", "main{call p(", "main{assert", "main{assert(", "main{assume([", "main{while(!", "main{if(x<", "main{if(x<1", "main{if([true"} {
		all(textsOf(t, src), 2)
	}
}

// walked are a program's tokens, each any one that may stand there; from a length on such that come to an end.
func walked(x *uint64, long int) []string {
	endings := strings.Fields("; } ) ] number name true main")
	var l []string
	for at := begin(); ; {
		var may []*stack
		for _, s := range at {
			if s == nil {
				return l
			}
			if !s.opens || s.deep < 24 {
				may = append(may, s)
			}
		}
		s := oneOf(x, may)
		if len(l) >= long {
			for _, text := range slices.Backward(endings) {
				if i := slices.IndexFunc(may, func(s *stack) bool { return s.text == text }); i >= 0 {
					s = may[i]
				}
			}
		}
		text := map[string]string{"name": oneOf(x, names()), "number": "12"}[s.text]
		if text == "" {
			text = s.text
		}
		l = append(l, text)
		at, _ = after(at, kindly(text))
	}
}

// kindly is the token that a text is.
func kindly(text string) api.Token {
	l, _, _ := lex.Tokens(text)
	return l[0]
}

// P9.1: any programs, whole, and with one token changed, beside another's reckoning.
func TestWalked(t *testing.T) {
	x := uint64(90)
	for range 1500 {
		l := walked(&x, shuffled(&x, 200))
		if src := strings.Join(l, " "); len(src) <= api.MaxText {
			judges(t, src, verdict{})
		}
		for range 8 {
			i := shuffled(&x, len(l))
			reckonsList(t, slices.Concat(l[:i], []string{oneOf(&x, allTokens())}, l[i+shuffled(&x, 2):]))
		}
	}
}

// P9.1: what lex.Tokens refuses, ahead of all that may not stand, wherever it is.
func TestLexErrors(t *testing.T) {
	for _, src := range []string{"", "main{}", "main{x=(", "main", "}}", "main{x=1}", "main{" + strings.Repeat("x=-(", 30), strings.Repeat("(", 4000)} {
		n := len(src)
		for _, c := range []struct {
			wrong string
			e     api.Errno
		}{{"#", api.ErrSign}, {"&", api.ErrSign}, {"\x00", api.ErrSign}, {"é", api.ErrSign}, {"07", api.ErrNumber}, {"9223372036854775808", api.ErrNumber}, {"1x", api.ErrNumber}, {"abcdefghijklmnopq", api.ErrLong}} {
			judges(t, src+" "+c.wrong, verdict{n + 1, c.e})
			judges(t, c.wrong+" "+src, verdict{0, c.e})
			judges(t, src+" "+c.wrong+" "+"main{}", verdict{n + 1, c.e})
			judges(t, src+" "+c.wrong+strings.Repeat(" ", 4096), verdict{0, api.ErrText})
		}
		judges(t, src+strings.Repeat(" ", 4097-n), verdict{0, api.ErrText})
	}
	has(t, "main{}"+strings.Repeat(" ", 4090), api.Tree{})
	judges(t, "main{"+strings.Repeat(" ", 4091), verdict{4096, api.ErrSyntax})
}

// R1, P9.1: any bytes, and any tokens, beside another's reckoning.
func TestAnything(t *testing.T) {
	x := uint64(17)
	pieces := slices.Concat(allTokens(), someBlanks(), strings.Fields("main{ main{x= var\tx; } ); x=1; if(true){ 07 # (("))
	for range 3000 {
		b := make([]byte, shuffled(&x, 60))
		for i := range b {
			b[i] = byte(shuffled(&x, 256))
		}
		reckons(t, string(b))
		reckons(t, "main{"+string(b)+"}")
		var src strings.Builder
		for range shuffled(&x, 40) {
			src.WriteString(oneOf(&x, pieces))
		}
		reckons(t, src.String())
		reckons(t, "main{ "+src.String())
	}
	for _, s := range append(allTokens(), "main{", "x=1;", "if(true){", "b[", "--", "!!", "[[") {
		for _, n := range []int{1, 2, 23, 24, 25, 100, 4096 / len(s), 5000, 100000} {
			reckons(t, strings.Repeat(s, n))
			reckons(t, "main{"+strings.Repeat(s, n)+"}")
			reckons(t, "main{x="+strings.Repeat(s, n)+"1;}")
			reckons(t, "main{assert("+strings.Repeat(s, n)+"true);}")
		}
	}
}
