package parse_test

import (
	"slices"
	"strings"
	"testing"

	"facetroom/api"
)

// opener is what leaves some things open, where in it each of them is opened (or something ahead of it that needs as much room, and is closed again), and what closes them.
type opener struct {
	open string
	at   []int
	end  string
}

// nested is a text with openers n times within one another, and where in it each thing is opened.
func nested(first string, l []opener, n int, middle, last string) (src string, at []int) {
	var open, end string
	for i := range n {
		o := l[i%len(l)]
		for _, x := range o.at {
			at = append(at, len(first+open)+x)
		}
		open += o.open
		end = o.end + end
	}
	return first + open + middle + end + last, at
}

// inExpr, inCond and inBlock are what may be open within an expression, a condition and a block; the last one of the first two may stand within itself alone.
func inExpr() []opener {
	return []opener{{"(", []int{0}, ")"}, {"-(", []int{0, 1}, ")"}, {"b[", []int{1}, "]"}, {"(1+ ", []int{0}, ")"}, {"2*--b[", []int{2, 3, 5}, "]+1"}, {"b[0] << b[ ", []int{1}, "]-1"}, {"(1)+(", []int{0}, ")"}, {"-1-(", []int{0}, ")"}, {"-", []int{0}, ""}}
}

func inCond() []opener {
	return []opener{{"[", []int{0}, "]"}, {"![", []int{0, 1}, "]"}, {"true || [", []int{8}, "]"}, {"x<(y)&&!!!  [ ", []int{2, 8, 9, 12}, "]"}, {"[true]&&![", []int{0, 9}, "]||true"}, {"!", []int{0}, ""}}
}

func inBlock() []opener {
	return []opener{{"if(true){", []int{8}, "}"}, {"while(x<(1)) {", []int{8}, "}"}, {"if([true]){ }else{", []int{3}, "}"}, {"x=-1;if(!true){} while(true){", []int{2}, "} skip;"}, {"call p((1),b[0]);if(true){", []int{7}, "}else{}"}}
}

// eachAndAll are lists of one each, and that of the first n.
func eachAndAll(l []opener, n int) [][]opener {
	return slices.Concat(slices.Collect(slices.Chunk(l, 1)), [][]opener{l[:n]})
}

// holdsDepth nests more and more within a text that has some open around: as much as may be, and what is too much.
func holdsDepth(t *testing.T, first string, around int, l []opener, middle, last string) {
	t.Helper()
	for n := range 40 {
		src, at := nested(first, l, n, middle, last)
		want := verdict{}
		if around+len(at) > 24 {
			want = verdict{at[24-around], api.ErrDeep}
		}
		judges(t, src, want)
		reckons(t, src)
	}
}

// P9.1: at most MaxDeep of each kind, and of all, within one another, wherever they are.
func TestDeep(t *testing.T) {
	for _, l := range eachAndAll(inExpr(), 8) {
		holdsDepth(t, "main{x=", 1, l, "1", ";}")
		holdsDepth(t, "proc p(){x=", 1, l, "x", ";}main{}")
		holdsDepth(t, "main{call p(1,", 1, l, "1", ");}")
		holdsDepth(t, "main{assert(", 1, l, "1", "<1);}")
		holdsDepth(t, "main{assert(1<", 1, l, "1", ");}")
		holdsDepth(t, "main{b[", 2, l, "1", "]=1;}")
		holdsDepth(t, "main{b[1]=", 1, l, "1", ";}")
		holdsDepth(t, "main{if(true){while(true){x=-(", 5, l, "1", ");}}}")
		holdsDepth(t, "main{if([!", 3, l, "1", "==1]){}}")
	}
	for _, l := range eachAndAll(inCond(), 5) {
		holdsDepth(t, "main{assume(", 1, l, "true", ");}")
		holdsDepth(t, "main{while(", 1, l, "x<1", "){}}")
		holdsDepth(t, "main{if(", 1, l, "false", "){}else{skip;}}")
		holdsDepth(t, "main{if(true){}else{if(true){assert([", 4, l, "x<y", "]);}}}")
	}
	for _, l := range eachAndAll(inBlock(), 5) {
		holdsDepth(t, "main{", 1, l, "", "}")
		holdsDepth(t, "proc p(){", 1, l, "skip;", "}main{}")
		holdsDepth(t, "proc p(){x=-(1);}main{if(true){", 2, l, "x=1;", "}}")
	}
}

// P9.1: what is closed again is open no more: there may be any number, one behind the other.
func TestClosedAgain(t *testing.T) {
	for _, src := range []string{
		"main{x=" + strings.Repeat("(1)+", 500) + "1;}",
		"main{x=" + strings.Repeat("-1-", 500) + "1;}",
		"main{x=" + strings.Repeat("b[1]*", 500) + "1;}",
		"main{" + strings.Repeat("b[1]=-(1);", 300) + "}",
		"main{assert(" + strings.Repeat("!true&&", 300) + "true);}",
		"main{assert(" + strings.Repeat("[true]||", 300) + "true);}",
		"main{" + strings.Repeat("if(true){}", 300) + "}",
		"main{" + strings.Repeat("while(true){}", 300) + "}",
		"main{" + strings.Repeat("if(true){}else{}", 200) + "}",
		strings.Repeat("proc p(){}", 300) + "main{}",
		"main{call p(" + strings.Repeat("(-b[1]),", 300) + "1);}",
	} {
		judges(t, src, verdict{})
		reckons(t, src)
	}
	room := strings.Repeat("if(true){", 22)
	for _, s := range []string{"x=-1+(1)-b[1];", "assert(!true||[true]);", "if(true){}else{}", "call p(-x,(y));", "b[0]=-1;", "while(!x<1){skip;}"} {
		judges(t, "main{"+room+strings.Repeat(s, 9)+strings.Repeat("}", 23), verdict{})
	}
}

// P9.1: parentheses of if, while, assume, assert, call and proc open nothing, nor do sizes, sums, or a - between two things.
func TestOpensNothing(t *testing.T) {
	full := "main{" + strings.Repeat("if(true){", 23)
	end := strings.Repeat("}", 24)
	for _, s := range []string{"", "skip;", "x=1-1-b;", "assume(true&&x<1||false);", "assert(1<x);", "input x;", "call p();", "call p(1,x-y);"} {
		judges(t, "array b[1];proc p(a,b){}"+full+s+end, verdict{})
	}
	for s, at := range map[string]int{"x=-1;": 2, "x=(1);": 2, "x=b[0];": 3, "b[0]=1;": 1, "assume(!true);": 7, "assert([true]);": 7, "if(true){}": 8, "while(true){}": 11, "call p(-1);": 7, "x=1+(1);": 4, "x=1--1;": 4, "assert(1<(2));": 9, "if(1<x&&!true){}": 8} {
		judges(t, full+s+end, verdict{len(full) + at, api.ErrDeep})
		judges(t, full+" "+s+end, verdict{len(full) + 1 + at, api.ErrDeep})
	}
}

// P9.1: of a token that may not stand and one that opens too much the first one is told; of one token that both would be said of, that it may not stand.
func TestDeepOrMisplaced(t *testing.T) {
	open := strings.Repeat("(", 23)
	judges(t, "main{x="+open+"(", verdict{30, api.ErrDeep})
	judges(t, "main{x="+open+"()", verdict{30, api.ErrDeep})
	judges(t, "main{x="+open+"(1;}}}", verdict{30, api.ErrDeep})
	judges(t, "main{x="+open, verdict{30, api.ErrSyntax})
	judges(t, "main{x="+open+")(", verdict{30, api.ErrSyntax})
	judges(t, "main{x="+open+"1(", verdict{31, api.ErrSyntax})
	judges(t, "main{x="+open+"b[", verdict{31, api.ErrDeep})
	judges(t, "main{x="+open+"[", verdict{30, api.ErrSyntax})
	judges(t, "main{x="+open+"{", verdict{30, api.ErrSyntax})
	judges(t, "main{x="+open+"!", verdict{30, api.ErrSyntax})
	judges(t, "main{x="+open+"-", verdict{30, api.ErrDeep})
	judges(t, "main{x="+open+"1-", verdict{32, api.ErrSyntax})
	judges(t, "main{x="+open+"1--", verdict{32, api.ErrDeep})
	judges(t, "main{x=1;;x="+open+"((1", verdict{9, api.ErrSyntax})
	judges(t, "main{x="+open+"((1;};;", verdict{30, api.ErrDeep})
	judges(t, "main{assert("+strings.Repeat("!", 23)+"[", verdict{35, api.ErrDeep})
	judges(t, "main{assert("+strings.Repeat("!", 23)+"{", verdict{35, api.ErrSyntax})
	judges(t, "main{assert("+strings.Repeat("!", 23)+"x)", verdict{36, api.ErrSyntax})
	judges(t, "main{"+strings.Repeat("if(true){", 23)+"{", verdict{212, api.ErrSyntax})
	judges(t, "main{"+strings.Repeat("if(true){", 23)+"if(true)skip;", verdict{220, api.ErrSyntax})
	judges(t, "main{"+strings.Repeat("if(true){", 23)+"if(true) {", verdict{221, api.ErrDeep})
	judges(t, "main{"+strings.Repeat("if(true){", 23)+"if(true", verdict{219, api.ErrSyntax})
}
