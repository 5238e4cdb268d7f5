package expr

import (
	"slices"
	"strings"
	"testing"

	"netwright/api"
	"netwright/lexer"
)

// minimal returns the string of an expression, of any depth, without any pair of brackets that it can do without.
func minimal(t *testing.T, e api.Expr) string {
	t.Helper()
	l := spelled(e, func() bool { return true })
	for i := 0; i < len(l); i++ {
		if l[i].Text != "(" || l[i].Line == 0 {
			continue
		}
		less := withoutPair(l, i)
		m := model{depth: -len(l)}
		if got, next, fault := m.run(less, 0); fault == (api.Fault{}) && next == len(less) && equal(bare(got), bare(e)) {
			l = less
			i--
		}
	}
	s, err := lexer.Text(l)
	if err != api.OK {
		t.Fatalf("lexer.Text(%v): error %d", l, err)
	}
	return s
}

// withoutPair returns tokens without a bracket and the one that ends it.
func withoutPair(l []api.Token, i int) []api.Token {
	depth := 0
	for j := i; ; j++ {
		switch sign(l[j]) {
		case "(":
			depth++
		case ")":
			depth--
		}
		if depth == 0 {
			return slices.Concat(l[:i], l[i+1:j], l[j+1:])
		}
	}
}

func wantText(t *testing.T, e api.Expr, want string) {
	t.Helper()
	if s, err := Text(e); s != want || err != api.OK {
		t.Errorf("Text(%.200s) = %q, %d; want %q", shape(e), s, err, want)
	}
}

func TestP5_2Examples(t *testing.T) {
	wantText(t, call("-", name("a"), call("-", name("b"), name("c"))), "a - ( b - c )")
	wantText(t, call("-", call("-", name("a"), name("b")), name("c")), "a - b - c")
	wantText(t, call("not", call("and", name("a"), name("b"))), "not ( a and b )")
}

func TestP5_2Texts(t *testing.T) {
	a, b, c := name("a"), name("b"), name("c")
	for want, e := range map[string]api.Expr{
		"0": number(0), "2147483647": number(2147483647), "'z'": bit("z"), `b"1"`: vector("1"), `b"01xz"`: vector("01xz"), "a": a,
		"f ( a )": call("f", a), "f ( a , b and c , - 1 )": call("f", a, call("and", b, c), call("-", number(1))),
		"- - a": call("-", call("-", a)), "not - a": call("not", call("-", a)), "a - - b": call("-", a, call("-", b)), "- a - b": call("-", call("-", a), b), "- ( a - b )": call("-", call("-", a, b)),
		"- ( a * b )": call("-", call("*", a, b)), "- a * - b": call("*", call("-", a), call("-", b)), "not a = b": call("=", call("not", a), b), "not ( a = b )": call("not", call("=", a, b)),
		"( a = b ) = c": call("=", call("=", a, b), c), "a = ( b = c )": call("=", a, call("=", b, c)), "( a < b ) >= ( b /= c )": call(">=", call("<", a, b), call("/=", b, c)),
		"a = b and b < c": call("and", call("=", a, b), call("<", b, c)), "( a and b ) = c": call("=", call("and", a, b), c), "a and b or c": call("or", call("and", a, b), c), "a and ( b or c )": call("and", a, call("or", b, c)),
		"a * b mod c": call("mod", call("*", a, b), c), "a * ( b mod c )": call("*", a, call("mod", b, c)), "( a + b ) * c": call("*", call("+", a, b), c), "a + b * c": call("+", a, call("*", b, c)), "a & b & c": call("&", call("&", a, b), c),
		"a ( 1 ) ( 2 )": index(call("a", number(1)), number(2)), "a ( 1 ) ( 2 ) ( 3 )": index(index(call("a", number(1)), number(2)), number(3)), "1 ( 2 )": index(number(1), number(2)), `b"01" ( 0 )`: index(vector("01"), number(0)),
		"s ( 7 downto 4 )": slice(name("s"), number(7), number(4)), "s ( 7 downto 4 ) ( 1 )": index(slice(name("s"), number(7), number(4)), number(1)), "f ( a , b ) ( a = b downto - c )": slice(call("f", a, b), call("=", a, b), call("-", c)),
		"( - a ) ( 1 )": index(call("-", a), number(1)), "- a ( 1 )": call("-", call("a", number(1))), "( a + b ) ( 1 )": index(call("+", a, b), number(1)), "( a and b ) ( 1 downto 0 )": slice(call("and", a, b), number(1), number(0)), "a ( b + c )": call("a", call("+", b, c)),
		"( ( a + b ) ( 1 ) + c ) ( 2 )": index(call("+", index(call("+", a, b), number(1)), c), number(2)),
	} {
		wantText(t, e, want)
		if s := minimal(t, e); s != want {
			t.Errorf("minimal(%s) = %q; want %q", shape(e), s, want)
		}
	}
}

// Every operator in every other one, on both sides.
func TestP5_2EveryOperator(t *testing.T) {
	all := slices.Concat(operators...)
	for _, outer := range all {
		for _, inner := range all {
			left, right := "a "+inner+" b", "b "+inner+" c"
			if rowIn(inner) < rowIn(outer) || rowIn(inner) == 1 && rowIn(outer) == 1 {
				left = "( " + left + " )"
			}
			if rowIn(inner) <= rowIn(outer) {
				right = "( " + right + " )"
			}
			wantText(t, call(outer, call(inner, name("a"), name("b")), name("c")), left+" "+outer+" c")
			wantText(t, call(outer, name("a"), call(inner, name("b"), name("c"))), "a "+outer+" "+right)
		}
		for _, one := range []string{"not", "-"} {
			wantText(t, call(outer, call(one, name("a")), call(one, name("b"))), one+" a "+outer+" "+one+" b")
			wantText(t, call(one, call(outer, name("a"), name("b"))), one+" ( a "+outer+" b )")
			wantText(t, index(call(one, name("a")), call(outer, name("a"), name("b"))), "( "+one+" a ) ( a "+outer+" b )")
		}
		wantText(t, index(call(outer, name("a"), name("b")), number(1)), "( a "+outer+" b ) ( 1 )")
	}
}

// Each expression is written with just the brackets that are left if one after the other is taken away.
func TestP5_2Minimal(t *testing.T) {
	for _, e := range slices.Concat(smallTrees(), deeperTrees()) {
		wantText(t, e, minimal(t, e))
	}
	r := source()
	for range 300 {
		e := randomTree(r, r.IntN(20))
		wantText(t, e, minimal(t, e))
	}
}

// Positions change nothing.
func TestP5_2Positions(t *testing.T) {
	e := at(call("+", at(name("a"), -1, 0), at(number(1), 9, 9)), 1, -7)
	wantText(t, e, "a + 1")
	wantText(t, call("f", e, e), "f ( a + 1 , a + 1 )")
}

// A string may be longer than one that is read.
func TestP5_2Long(t *testing.T) {
	sum := chain(60000, number(7), func(e api.Expr) api.Expr { return call("+", e, name("b")) })
	wantText(t, sum, "7"+strings.Repeat(" + b", 60000))
	wantText(t, call("not", sum), "not ( 7"+strings.Repeat(" + b", 60000)+" )")
	row := chain(60000, name("a"), func(e api.Expr) api.Expr { return slice(e, number(1), number(0)) })
	wantText(t, row, "a"+strings.Repeat(" ( 1 downto 0 )", 60000))
	many, text := name("a"), "a"
	for range 4 {
		many = call("f", slices.Repeat([]api.Expr{many}, 20)...)
		text = "f ( " + strings.Repeat(text+" , ", 19) + text + " )"
	}
	wantText(t, many, text)
}

func TestP5_2Refuses(t *testing.T) {
	for _, e := range noExpressions() {
		if s, err := Text(e); s != "" || err != api.ErrArg {
			t.Errorf("Text(%s) = %.80q, %d", brief(e), s, err)
		}
	}
	for _, r := range noTypes() {
		if s, err := TypeText(r); s != "" || err != api.ErrArg {
			t.Errorf("TypeText(%s) = %.80q, %d", brief(r), s, err)
		}
	}
}

func TestP5_2TypeTexts(t *testing.T) {
	for want, r := range map[string]api.TypeRef{
		"bit": {Name: "bit"}, "t_1": {Name: "t_1", Line: -3, Col: 8},
		"vec ( 8 )":                      vecRef(number(8)),
		"vec ( n + 1 )":                  vecRef(call("+", name("n"), number(1))),
		"vec ( a - ( b - c ) )":          vecRef(call("-", name("a"), call("-", name("b"), name("c")))),
		"array ( 4 ) of int":             arrayRef(number(4), api.TypeRef{Name: "int"}),
		"array ( f ( 1 ) ) of vec ( n )": arrayRef(call("f", number(1)), vecRef(name("n"))),
		"array ( a = b ) of vec ( - 1 )": arrayRef(call("=", name("a"), name("b")), vecRef(call("-", number(1)))),
	} {
		for _, r := range []api.TypeRef{r, emptiedType(r)} {
			if s, err := TypeText(r); s != want || err != api.OK {
				t.Errorf("TypeText(%v) = %q, %d; want %q", r, s, err, want)
			}
		}
	}
	for _, e := range smallTrees() {
		s := textOf(t, e)
		if got, err := TypeText(arrayRef(e, vecRef(e))); got != "array ( "+s+" ) of vec ( "+s+" )" || err != api.OK {
			t.Errorf("TypeText with the length %s = %q, %d", s, got, err)
		}
	}
}

func vecRef(length api.Expr) api.TypeRef {
	return api.TypeRef{Name: "vec", Len: []api.Expr{length}}
}

func arrayRef(length api.Expr, element api.TypeRef) api.TypeRef {
	return api.TypeRef{Name: "array", Len: []api.Expr{length}, Elem: []api.TypeRef{element}}
}

// emptiedType returns a type with empty slices instead of nil ones.
func emptiedType(r api.TypeRef) api.TypeRef {
	r.Len = append([]api.Expr{}, r.Len...)
	r.Elem = append([]api.TypeRef{}, r.Elem...)
	for i, length := range r.Len {
		r.Len[i] = emptied(length)
	}
	for i, element := range r.Elem {
		r.Elem[i] = emptiedType(element)
	}
	return r
}

// emptied returns an expression with empty slices instead of nil ones.
func emptied(e api.Expr) api.Expr {
	e.Bits = append([]api.Bit{}, e.Bits...)
	e.Val = api.Value{Bits: []api.Bit{}, List: []api.Value{}}
	e.Type = api.Type{Names: []string{}, Elem: []api.Type{}}
	e.Kids = append([]api.Expr{}, e.Kids...)
	for i, kid := range e.Kids {
		e.Kids[i] = emptied(kid)
	}
	return e
}
