package parse_test

import (
	"reflect"
	"slices"
	"strconv"
	"strings"
	"testing"
	"unsafe"

	"facetroom/api"
	"facetroom/lex"
	"facetroom/parse"
)

// programs are some that may be, of each kind.
func programs() []string {
	l := samples()
	x := uint64(4)
	for len(l) < 300 {
		if g := grow(&x); g.e == api.OK {
			l = append(l, g.src)
		}
	}
	return l
}

// wrongs are some that may not be, each with all its tokens.
func wrongs() []string {
	l := []string{"", "main{x=1}", "main{x=(1;}", "main{}x", "main{x=" + strings.Repeat("-", 24) + "1;}", "main{" + strings.Repeat("if(true){", 24)}
	x := uint64(6)
	for len(l) < 300 {
		w := walked(&x, shuffled(&x, 60))
		i := shuffled(&x, len(w))
		src := strings.Join(slices.Concat(w[:i], []string{oneOf(&x, allTokens())}, w[i+shuffled(&x, 2):]), " ")
		if reckoned(src).e != api.OK && len(src) < 3000 {
			l = append(l, src)
		}
	}
	return l
}

// P9.3: each text with the same tokens up to, and at, the place of an error has it, too.
func TestSameUpToPlace(t *testing.T) {
	x := uint64(12)
	for _, src := range wrongs() {
		_, at, e := parse.Parse(src)
		tokens, _, _ := lex.Tokens(src)
		i := slices.IndexFunc(tokens, func(x api.Token) bool { return x.At == at })
		if i < 0 {
			if at != len(src) || e != api.ErrSyntax {
				t.Errorf("%s: error %d at %d, where no token is", cut(src), e, at)
			}
			continue
		}
		first := src[:at+len(tokens[i].Text)]
		judges(t, first, verdict{at, e})
		for range 20 {
			var behind strings.Builder
			for range shuffled(&x, 12) {
				behind.WriteString(" " + oneOf(&x, allTokens()))
			}
			judges(t, first+behind.String(), verdict{at, e})
		}
		if i > 0 { // up to the place alone it only ends too soon
			end := tokens[i-1].At + len(tokens[i-1].Text)
			if _, at, e := parse.Parse(src[:end]); e != api.OK && (e != api.ErrSyntax || at != end) {
				t.Errorf("%s: error %d at %d", cut(src[:end]), e, at)
			}
		}
	}
}

// spread is a text with other blanks between its tokens, and where each of these, and the end, comes to stand.
func spread(x *uint64, src string, least int) (string, map[int]int) {
	tokens, _, _ := lex.Tokens(src)
	var b strings.Builder
	at := map[int]int{}
	for i, token := range tokens {
		if i > 0 && tokens[i-1].At+len(tokens[i-1].Text) < token.At || shuffled(x, 100) < least {
			b.WriteString(oneOf(x, someBlanks()))
		}
		at[token.At] = b.Len()
		b.WriteString(token.Text)
	}
	b.WriteString(strings.Repeat(" ", shuffled(x, 3)))
	at[len(src)] = b.Len()
	return b.String(), at
}

// moved changes all places of a tree as a map has them.
func moved(v reflect.Value, at map[int]int) {
	switch v.Kind() {
	case reflect.Struct:
		for i := range v.NumField() {
			if f := v.Field(i); v.Type().Field(i).Name == "At" {
				f.SetInt(int64(at[int(f.Int())]))
			} else {
				moved(f, at)
			}
		}
	case reflect.Slice:
		for i := range v.Len() {
			moved(v.Index(i), at)
		}
	}
}

// P9.3: blanks turn nothing but places, of a tree's parts as of errors.
func TestBlanks(t *testing.T) {
	x := uint64(33)
	for _, src := range slices.Concat(programs(), wrongs()) {
		for _, least := range []int{0, 10, 100} {
			other, places := spread(&x, src, least)
			if len(other) > api.MaxText {
				continue
			}
			want, at, e := parse.Parse(src)
			if e != api.OK {
				judges(t, other, verdict{places[at], e})
				continue
			}
			moved(reflect.ValueOf(&want).Elem(), places)
			has(t, other, want)
			if got := told(bare(tree(t, other))); got != told(bare(tree(t, src))) {
				t.Errorf("%s and %s: not the same but for places", cut(src), cut(other))
			}
		}
	}
}

// holder holds places against tokens.
type holder struct {
	t    *testing.T
	src  string
	text map[int]string // of the token that begins at a place
	seen map[int]bool
}

// at says that a token, one of some texts, begins at a place, and that nothing else stands there.
func (h *holder) at(at int, texts ...string) {
	if !slices.Contains(texts, h.text[at]) || h.seen[at] {
		h.t.Errorf("%s: at %d stands %q, seen %v; want one of %v", cut(h.src), at, h.text[at], h.seen[at], texts)
	}
	h.seen[at] = true
}

func (h *holder) expr(x api.Expr) {
	switch x.Kind {
	case api.ExNumber:
		h.at(x.At, strconv.Itoa(x.N))
	case api.ExVar, api.ExLoad:
		h.at(x.At, x.Name)
	default:
		h.at(x.At, signOfExpr(x.Kind))
	}
	for _, a := range x.Args {
		h.expr(a)
	}
}

func (h *holder) cond(x api.Cond) {
	h.at(x.At, signOfCond(x.Kind))
	for _, a := range x.Args {
		h.expr(a)
	}
	for _, c := range x.Of {
		h.cond(c)
	}
}

func (h *holder) stmts(l []api.Stmt) {
	for _, s := range l {
		words := map[uint8]string{api.StSkip: "skip", api.StSet: s.Name, api.StStore: s.Name, api.StInput: "input", api.StAssume: "assume", api.StAssert: "assert", api.StIf: "if", api.StWhile: "while", api.StCall: "call"}
		h.at(s.At, words[s.Kind])
		for _, a := range s.Args {
			h.expr(a)
		}
		for _, c := range s.Cond {
			h.cond(c)
		}
		h.stmts(s.Body)
		h.stmts(s.Else)
	}
}

func (h *holder) vars(l []api.Var) {
	for _, x := range l {
		h.at(x.At, x.Name)
	}
}

// P9.3: each place is that of a token of its kind, no two parts have the same one, and each name, number and sign of an operation that the text has is some part's.
func TestPlaces(t *testing.T) {
	for _, src := range programs() {
		h := &holder{t: t, src: src, text: map[int]string{}, seen: map[int]bool{}}
		tokens, _, _ := lex.Tokens(src)
		for _, x := range tokens {
			h.text[x.At] = x.Text
		}
		got := tree(t, src)
		h.vars(got.Vars)
		for _, x := range got.Arrays {
			h.at(x.At, x.Name)
		}
		for _, p := range got.Procs {
			h.at(p.At, p.Name)
			h.vars(p.Params)
			h.stmts(p.Body)
		}
		h.stmts(got.Main)
		for i, x := range tokens {
			isOwn := strings.Contains(" + - * / % << >> < <= > >= == != ! && || true false skip assume assert if while call ", " "+x.Text+" ")
			isName := lex.Name(x.Text) && tokens[i-1].Text != "input" && tokens[i-1].Text != "call"
			if (isOwn || isName) && !h.seen[x.At] {
				t.Errorf("%s: nothing stands at %d", cut(src), x.At)
			}
		}
	}
}

// span is the memory that a list has, its spare room with it.
type span struct{ from, to uintptr }

// spans are those of all lists, and texts, of a value.
func spans(v reflect.Value, l []span) []span {
	switch v.Kind() {
	case reflect.Struct:
		for i := range v.NumField() {
			l = spans(v.Field(i), l)
		}
	case reflect.Slice:
		if v.Cap() > 0 {
			l = append(l, span{v.Pointer(), v.Pointer() + uintptr(v.Cap())*v.Type().Elem().Size()})
		}
		for i := range v.Len() {
			l = spans(v.Index(i), l)
		}
	case reflect.String:
		if s := v.String(); s != "" {
			from := uintptr(unsafe.Pointer(unsafe.StringData(s)))
			l = append(l, span{from, from + uintptr(len(s))})
		}
	}
	return l
}

// apart tells whether no two share memory.
func apart(l []span) bool {
	slices.SortFunc(l, func(a, b span) int { return int(a.from) - int(b.from) })
	for i := 1; i < len(l); i++ {
		if l[i].from < l[i-1].to {
			return false
		}
	}
	return true
}

// P9.2: no two lists of an answer share memory, nor those of two answers, nor do texts share that of what was handed in.
func TestApart(t *testing.T) {
	for _, src := range programs() {
		a, b := tree(t, src), tree(t, src)
		l := append(spans(reflect.ValueOf(a), nil), spans(reflect.ValueOf(b), nil)...)
		if !apart(append(l, spans(reflect.ValueOf(src), nil)...)) {
			t.Errorf("%s: memory is shared", cut(src))
		}
	}
}

// spoil writes on all lists of a value, the room behind them too.
func spoil(v reflect.Value) {
	switch v.Kind() {
	case reflect.Struct:
		for i := range v.NumField() {
			spoil(v.Field(i))
		}
	case reflect.Slice:
		all := v.Slice(0, v.Cap())
		for i := range all.Len() {
			spoil(all.Index(i))
			all.Index(i).SetZero()
		}
	}
}

// P9.2: what is written on one answer is not seen in another, nor in what is asked next.
func TestNewMemory(t *testing.T) {
	for _, src := range programs() {
		a, b := tree(t, src), tree(t, src)
		was := told(a)
		spoil(reflect.ValueOf(&b).Elem())
		if told(a) != was {
			t.Errorf("%s: two answers share memory", cut(src))
		}
		if got := told(tree(t, src)); got != was {
			t.Errorf("%s: asked again: %s; want %s", cut(src), got, was)
		}
	}
}

// P9.2: what is handed in is not kept: names stay, whatever becomes of the bytes that the program stood in.
func TestTextIsNotKept(t *testing.T) {
	for _, src := range programs() {
		b := []byte(src)
		got := tree(t, unsafe.String(&b[0], len(b)))
		for i := range b {
			b[i] = '?'
		}
		if told(got) != told(tree(t, src)) {
			t.Errorf("%s: the tree changed with the text", cut(src))
		}
	}
}

// R2: many at once answer what one alone does.
func TestAtOnce(t *testing.T) {
	l := append(programs(), wrongs()...)
	type answer struct {
		tree string
		verdict
	}
	ask := func(src string) answer {
		tree, at, e := parse.Parse(src)
		return answer{told(tree), verdict{at, e}}
	}
	done := make(chan []answer)
	for range 4 {
		go func() {
			got := make([]answer, len(l))
			for i, src := range l {
				got[i] = ask(src)
			}
			done <- got
		}()
	}
	for range 4 {
		for i, got := range <-done {
			if want := ask(l[i]); got != want {
				t.Errorf("%s: %v; want %v", cut(l[i]), got, want)
			}
		}
	}
}
