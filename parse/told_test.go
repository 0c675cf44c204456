package parse_test

import (
	"reflect"
	"strconv"
	"strings"

	"facetroom/api"
)

// told is all that a value has: of a struct the fields that are not zero, of a list (nil or not) its elements.
func told(v any) string {
	var b strings.Builder
	tell(&b, reflect.ValueOf(v))
	return b.String()
}

func tell(b *strings.Builder, v reflect.Value) {
	switch v.Kind() {
	case reflect.Struct:
		b.WriteByte('{')
		for i := range v.NumField() {
			if f := v.Field(i); !f.IsZero() && (f.Kind() != reflect.Slice || f.Len() > 0) {
				b.WriteString(v.Type().Field(i).Name + ":")
				tell(b, f)
				b.WriteByte(' ')
			}
		}
		b.WriteByte('}')
	case reflect.Slice:
		b.WriteByte('[')
		for i := range v.Len() {
			tell(b, v.Index(i))
		}
		b.WriteByte(']')
	case reflect.String:
		b.WriteString(strconv.Quote(v.String()))
	case reflect.Int:
		b.WriteString(strconv.FormatInt(v.Int(), 10))
	default:
		b.WriteString(strconv.FormatUint(v.Uint(), 10))
	}
}

// signOfExpr and signOfCond are the signs that make kinds.
func signOfExpr(kind uint8) string {
	return [...]string{api.ExNeg: "-", api.ExAdd: "+", api.ExSub: "-", api.ExMul: "*", api.ExDiv: "/", api.ExMod: "%", api.ExShl: "<<", api.ExShr: ">>"}[kind]
}

func signOfCond(kind uint8) string {
	return [...]string{api.CoTrue: "true", api.CoFalse: "false", api.CoLt: "<", api.CoLe: "<=", api.CoGt: ">", api.CoGe: ">=", api.CoEq: "==", api.CoNe: "!=", api.CoNot: "!", api.CoAnd: "&&", api.CoOr: "||"}[kind]
}

// shownExpr and shownCond are short: with parentheses around all that a sign makes.
func shownExpr(x api.Expr) string {
	switch x.Kind {
	case api.ExNumber:
		return strconv.Itoa(x.N)
	case api.ExVar:
		return x.Name
	case api.ExLoad:
		return x.Name + "[" + shownExpr(x.Args[0]) + "]"
	case api.ExNeg:
		return "(-" + shownExpr(x.Args[0]) + ")"
	}
	return "(" + shownExpr(x.Args[0]) + signOfExpr(x.Kind) + shownExpr(x.Args[1]) + ")"
}

func shownCond(x api.Cond) string {
	sign := signOfCond(x.Kind)
	switch x.Kind {
	case api.CoTrue, api.CoFalse:
		return sign
	case api.CoNot:
		return "(!" + shownCond(x.Of[0]) + ")"
	case api.CoAnd, api.CoOr:
		return "(" + shownCond(x.Of[0]) + sign + shownCond(x.Of[1]) + ")"
	}
	return "(" + shownExpr(x.Args[0]) + sign + shownExpr(x.Args[1]) + ")"
}

// bare is a tree with all places 0.
func bare(t api.Tree) api.Tree {
	unplace(reflect.ValueOf(&t).Elem())
	return t
}

func unplace(v reflect.Value) {
	switch v.Kind() {
	case reflect.Struct:
		for i := range v.NumField() {
			if v.Type().Field(i).Name == "At" {
				v.Field(i).SetInt(0)
			} else {
				unplace(v.Field(i))
			}
		}
	case reflect.Slice:
		for i := range v.Len() {
			unplace(v.Index(i))
		}
	}
}
