package expr

import (
	"fmt"
	"math"
	"slices"
	"strings"
	"testing"

	"netwright/api"
)

// noExpressions returns expressions that are not valid, each for one reason, alone and in others.
func noExpressions() []api.Expr {
	var all []api.Expr
	for _, e := range []api.Expr{number(7), bit("1"), vector("01"), vector("1"), name("a"), call("f", name("a")), call("f", name("a"), number(1)), call("+", name("a"), number(1)), call("not", name("a")), call("-", name("a")), index(number(1), number(2)), slice(name("a"), number(1), number(0))} {
		all = append(all, spoiled(e)...)
	}
	for _, n := range []int{-1, math.MaxInt32 + 1, 1 << 32, math.MaxInt, math.MinInt} {
		all = append(all, number(n))
	}
	for _, s := range append(noNames(), "+", "not", "-") {
		all = append(all, name(s))
	}
	for _, s := range append(noNames(), "and", "+", "=", "mod") {
		all = append(all, call(s, name("a")), call(s), call(s, slices.Repeat([]api.Expr{name("a")}, 3)...))
	}
	for _, s := range append(noNames(), "not") {
		all = append(all, call(s, name("a"), name("b")))
	}
	all = append(all, call("f"), call("-"), call("not"), call("f", slices.Repeat([]api.Expr{name("a")}, 21)...), call("f", slices.Repeat([]api.Expr{name("a")}, 1000)...))
	all = append(all, index(name("a"), number(1)), index(name("a"), name("a")))
	for n := range 5 {
		kids := []api.Expr{call("f", name("a")), name("a"), number(1), number(0)}[:n]
		if n != 2 {
			all = append(all, api.Expr{Op: api.EIndex, Kids: kids})
		}
		if n != 3 {
			all = append(all, api.Expr{Op: api.ESlice, Kids: kids})
		}
	}
	for _, l := range [][]api.Bit{nil, {}, {4}, {255}, {0, 1}, {0, 4}} {
		all = append(all, api.Expr{Op: api.EBit, Bits: l})
	}
	for _, l := range [][]api.Bit{nil, {}, {4}, {255}, {0, 1, 4}, {4, 1, 0}, make([]api.Bit, 65), make([]api.Bit, 100000)} {
		all = append(all, api.Expr{Op: api.EVec, Bits: l})
	}
	alone := len(all)
	for _, m := range makers() {
		for _, bad := range all[:alone] {
			all = append(all, within(m, bad)...)
		}
	}
	return append(append(all, api.Expr{}), deepTrees(api.MaxNest+1)...)
}

// noNames are strings that are neither a name nor an operator.
func noNames() []string {
	return []string{"", "1", "a b", " a", "a ", "_a", "a-b", "a.b", "\u00e4", "a(1)", "vec", "array", "downto", "end", "(", "!", "--", "<>", "Not ", strings.Repeat("a", 41), strings.Repeat("a", 100000)}
}

// spoiled returns a valid expression with one field that is not as it has to be.
func spoiled(e api.Expr) []api.Expr {
	var all []api.Expr
	for _, op := range []api.ExprOp{0, -1, api.EValue, api.ESig, api.EVar, 11, 100, math.MinInt, math.MaxInt} {
		all = append(all, changed(e, func(e *api.Expr) { e.Op = op }))
	}
	add := func(unused bool, change func(e *api.Expr)) {
		if unused {
			all = append(all, changed(e, change))
		}
	}
	hasBits := e.Op == api.EBit || e.Op == api.EVec
	add(e.Op != api.EName && e.Op != api.ECall, func(e *api.Expr) { e.Name = "b" })
	add(e.Op != api.EInt, func(e *api.Expr) { e.N = 1 })
	add(e.Op != api.EInt, func(e *api.Expr) { e.N = -1 })
	add(!hasBits, func(e *api.Expr) { e.Bits = bits("0") })
	add(len(e.Kids) == 0, func(e *api.Expr) { e.Kids = []api.Expr{name("b")} })
	add(len(e.Kids) == 0, func(e *api.Expr) { e.Kids = []api.Expr{{}} })
	for _, v := range []api.Value{{Kind: api.TBit}, {N: 1}, {Bits: bits("0")}, {List: []api.Value{{}}}, {Kind: api.TInt, N: 7}} {
		add(true, func(e *api.Expr) { e.Val = v })
	}
	for _, u := range []api.Type{{Kind: api.TInt}, {Len: 1}, {Name: "t"}, {Names: []string{""}}, {Elem: []api.Type{{}}}} {
		add(true, func(e *api.Expr) { e.Type = u })
	}
	return all
}

// deepTrees are expressions whose strings are nested n deep, each by other means.
func deepTrees(n int) []api.Expr {
	a := name("a")
	var all []api.Expr
	for _, around := range []func(e api.Expr) api.Expr{
		func(e api.Expr) api.Expr { return call("not", e) },
		func(e api.Expr) api.Expr { return call("-", e) },
		func(e api.Expr) api.Expr { return call("f", e) },
		func(e api.Expr) api.Expr { return call("f", e, a) },
		func(e api.Expr) api.Expr { return index(number(1), call("+", e, a)) },
		func(e api.Expr) api.Expr { return slice(a, e, number(0)) },
		func(e api.Expr) api.Expr { return slice(a, number(1), e) },
		func(e api.Expr) api.Expr { return call("and", a, call("*", e, call("-", a))) },
	} {
		all = append(all, chain(n, a, around))
	}
	for _, around := range []func(e api.Expr) api.Expr{
		func(e api.Expr) api.Expr { return call("&", a, e) },
		func(e api.Expr) api.Expr { return call("=", e, a) },
		func(e api.Expr) api.Expr { return call("+", call("shl", a, e), a) },
	} {
		all = append(all, chain(n+1, a, around))
	}
	both := chain(n/2, a, func(e api.Expr) api.Expr { return call("not", call("xor", e, a)) })
	if n%2 == 1 {
		both = call("f", both)
	}
	return append(all, both)
}

func TestP5_3Valid(t *testing.T) {
	for _, e := range slices.Concat(smallTrees(), deeperTrees(), deepTrees(api.MaxNest-1), deepTrees(api.MaxNest)) {
		if !Valid(e) || !Valid(emptied(e)) || !Valid(at(e, -4, math.MaxInt)) {
			t.Errorf("%s is valid", shape(e))
		}
	}
	for n := 1; n <= 20; n++ {
		if !Valid(call("f", slices.Repeat([]api.Expr{number(1)}, n)...)) {
			t.Errorf("a call with %d arguments is valid", n)
		}
	}
	for _, e := range noExpressions() {
		if Valid(e) {
			t.Errorf("%s is not valid", brief(e))
		}
	}
}

// What is just deep enough is too deep in each place where a less deep expression of its kind gets deeper.
func TestP5_3Deep(t *testing.T) {
	deep := deepTrees(api.MaxNest)
	for i, small := range deepTrees(2) {
		if s := textOf(t, deep[i]); deepest(lex(t, s)) != api.MaxNest {
			t.Errorf("%s is nested %d deep", s, deepest(lex(t, s)))
		}
		for _, m := range makers() {
			others := within(m, deep[i])
			for place, other := range within(m, small) {
				want := deepest(lex(t, minimal(t, other))) == 2
				if Valid(others[place]) != want {
					t.Errorf("Valid(%s) is not %t", shape(others[place]), want)
				}
			}
		}
	}
}

// What stands side by side is no deeper than alone.
func TestP5_3SideBySide(t *testing.T) {
	a := name("a")
	for _, one := range []api.Expr{call("not", a), call("-", a), call("-", call("not", a)), call("f", a), call("-", a, a), slice(a, a, a), index(call("-", a), a)} {
		sum := chain(3*api.MaxNest, one, func(e api.Expr) api.Expr { return call("+", e, one) })
		row := chain(3*api.MaxNest, one, func(e api.Expr) api.Expr { return index(e, one) })
		all := call("f", slices.Repeat([]api.Expr{one}, 20)...)
		for _, e := range []api.Expr{sum, row, all, chain(3, all, func(e api.Expr) api.Expr { return call("-", e, sum) })} {
			if !Valid(e) || !ValidType(arrayRef(e, vecRef(e))) {
				t.Errorf("%s is valid", shape(e))
			}
			wantBack(t, e)
		}
	}
}

// deepest returns how deep the tokens of an expression are nested, as the model counts it.
func deepest(l []api.Token) int {
	for depth := 0; ; depth++ {
		m := model{depth: api.MaxNest - depth}
		if _, _, fault := m.run(l, 0); fault.Code != api.ErrDeep {
			return depth
		}
	}
}

// Of all expressions with few fields, just those are valid that the chapter says.
func TestP5_3EveryExpression(t *testing.T) {
	a, one := name("a"), number(1)
	args := func(n int) []api.Expr { return slices.Repeat([]api.Expr{one}, n) }
	names := map[string]string{"": "", "a": "name", "Mod": "name", "vec": "", "and": "two", "/=": "two", "*": "two", "-": "one or two", "not": "one", "(": "", "downto": ""}
	numbers := []int{0, 1, math.MaxInt32, math.MaxInt32 + 1, -1}
	rows := [][]api.Bit{nil, {}, bits("0"), bits("z"), {4}, bits("01"), {0, 9}, make([]api.Bit, 64), make([]api.Bit, 65)}
	kids := [][]api.Expr{nil, {}, {a}, {one}, {a, a}, {one, a}, {call("f", a), one}, {a, one, one}, {one, one, one}, {one, one, index(call("f", a), one)}, args(4), args(20), args(21)}
	badKids := [][]api.Expr{{{}}, {one, {}}, {one, one, index(a, one)}}
	for op := api.ExprOp(-1); op <= 11; op++ {
		for s, kind := range names {
			for _, n := range numbers {
				for _, row := range rows {
					for i, l := range slices.Concat(kids, badKids) {
						e := api.Expr{Op: op, Name: s, N: n, Bits: row, Kids: l}
						if want := i < len(kids) && isExpression(e, kind); Valid(e) != want {
							t.Errorf("Valid(%v) is not %t", e, want)
						}
					}
				}
			}
		}
	}
}

// isExpression reports whether an expression with a name of a kind, and with valid kids, is valid.
func isExpression(e api.Expr, kind string) bool {
	known := !slices.ContainsFunc(e.Bits, func(b api.Bit) bool { return b > 3 })
	n := len(e.Kids)
	switch e.Op {
	case api.EInt:
		return e.Name == "" && e.N >= 0 && e.N <= math.MaxInt32 && len(e.Bits) == 0 && n == 0
	case api.EBit:
		return e.Name == "" && e.N == 0 && len(e.Bits) == 1 && known && n == 0
	case api.EVec:
		return e.Name == "" && e.N == 0 && len(e.Bits) >= 1 && len(e.Bits) <= 64 && known && n == 0
	case api.EName:
		return kind == "name" && e.N == 0 && len(e.Bits) == 0 && n == 0
	case api.ECall:
		fits := kind == "name" && n >= 1 && n <= 20 || n == 1 && strings.Contains(kind, "one") || n == 2 && strings.Contains(kind, "two")
		return fits && e.N == 0 && len(e.Bits) == 0
	case api.EIndex:
		return e.Name == "" && e.N == 0 && len(e.Bits) == 0 && n == 2 && e.Kids[0].Op != api.EName
	case api.ESlice:
		return e.Name == "" && e.N == 0 && len(e.Bits) == 0 && n == 3
	}
	return false
}

func TestP5_3IsTarget(t *testing.T) {
	for s, want := range map[string]bool{
		"q": true, "bit": true, "q ( 1 )": true, "q ( a + b )": true, "q ( f ( 1 , 2 ) )": true, "q ( 1 ) ( 2 )": true, "q ( 1 downto 0 )": true, "q ( 1 ) ( 3 downto 0 ) ( 1 )": true, "( q ) ( 1 )": true,
		"1": false, "'1'": false, `b"01"`: false, "f ( 1 , 2 )": false, "f ( 1 , 2 ) ( 1 )": false, "f ( 1 , 2 ) ( 1 downto 0 )": false, "f ( 1 , 2 ) ( 1 ) ( 1 downto 0 )": false,
		"1 ( 0 )": false, "1 ( 1 downto 0 )": false, `b"01" ( 1 ) ( 1 )`: false, "not q": false, "- q": false, "not q ( 1 )": false, "( not q ) ( 1 )": false, "( - q ) ( 1 downto 0 )": false, "q + 1": false, "( q & a ) ( 1 )": false, "( q = a ) ( 1 downto 0 )": false,
	} {
		if e := parsed(t, s); IsTarget(e) != want {
			t.Errorf("IsTarget(%s) is not %t", s, want)
		}
	}
	for _, e := range noExpressions() {
		if IsTarget(e) || IsTarget(call("q", e)) || IsTarget(slice(name("q"), e, number(1))) {
			t.Errorf("%s is no target", brief(e))
		}
	}
	for _, e := range slices.Concat(smallTrees(), deeperTrees()) {
		l := lex(t, textOf(t, e))
		_, next, fault := expectedTarget(l, 0)
		if want := fault == (api.Fault{}) && next == len(l); IsTarget(e) != want {
			t.Errorf("IsTarget(%s) is not %t", shape(e), want)
		}
	}
}

// noTypes returns type references that are not valid.
func noTypes() []api.TypeRef {
	bit := api.TypeRef{Name: "bit"}
	one := []api.Expr{number(1)}
	all := []api.TypeRef{{}, {Len: one}, {Name: "vec"}, {Name: "vec", Len: []api.Expr{}}, {Name: "array"}, {Name: "array", Len: one}, {Name: "array", Len: one, Elem: []api.TypeRef{}}, {Name: "array", Elem: []api.TypeRef{bit}}}
	for _, s := range noNames() {
		if s != "vec" && s != "array" {
			all = append(all, api.TypeRef{Name: s}, api.TypeRef{Name: s, Len: one}, api.TypeRef{Name: s, Len: one, Elem: []api.TypeRef{bit}})
		}
	}
	for _, s := range []string{"bit", "bool", "int", "t", "Vec", "array2"} {
		all = append(all, api.TypeRef{Name: s, Len: one}, api.TypeRef{Name: s, Elem: []api.TypeRef{bit}}, api.TypeRef{Name: s, Len: one, Elem: []api.TypeRef{bit}})
	}
	all = append(all, api.TypeRef{Name: "vec", Len: append(one, one...)}, api.TypeRef{Name: "vec", Len: one, Elem: []api.TypeRef{bit}}, api.TypeRef{Name: "vec", Elem: []api.TypeRef{bit}})
	for _, e := range slices.Concat(noExpressions(), deepTrees(api.MaxNest)) {
		all = append(all, vecRef(e))
	}
	alone := len(all)
	for _, bad := range all[:alone] {
		all = append(all, arrayRef(number(1), bad))
	}
	for _, e := range noExpressions() {
		all = append(all, arrayRef(e, bit))
	}
	row := arrayRef(number(2), bit)
	return append(all, arrayRef(number(1), row), arrayRef(number(1), arrayRef(number(1), row)), api.TypeRef{Name: "array", Len: append(one, one...), Elem: []api.TypeRef{bit}}, api.TypeRef{Name: "array", Len: one, Elem: []api.TypeRef{bit, bit}})
}

func TestP5_3ValidType(t *testing.T) {
	var all []api.TypeRef
	for _, s := range []string{"bit", "bool", "int", "t", "Vec", "array2", strings.Repeat("q", 40)} {
		all = append(all, api.TypeRef{Name: s}, api.TypeRef{Name: s, Line: -1, Col: 77})
	}
	for _, e := range slices.Concat(smallTrees(), deepTrees(api.MaxNest-1)) {
		all = append(all, vecRef(e))
	}
	for _, r := range all {
		for _, good := range []api.TypeRef{r, emptiedType(r), arrayRef(call("+", name("n"), number(1)), r)} {
			if !ValidType(good) {
				t.Errorf("%s is valid", brief(good))
			}
		}
	}
	for _, bad := range noTypes() {
		if ValidType(bad) {
			t.Errorf("%s is not valid", brief(bad))
		}
	}
}

func TestP5_3Same(t *testing.T) {
	all := smallTrees()[:900]
	for i, e := range all {
		for j, other := range all {
			if want := i == j || equal(e, other); Same(e, other) != want {
				t.Errorf("Same(%s, %s) is not %t", shape(e), shape(other), want)
			}
		}
	}
	for _, e := range slices.Concat(smallTrees(), deeperTrees(), deepTrees(50)) {
		if !Same(e, copied(e)) || !Same(e, emptied(e)) || !Same(emptied(e), e) || !Same(e, moved(e, 3)) || !Same(moved(e, -9), e) {
			t.Errorf("%s is the same as itself", shape(e))
		}
	}
}

// Expressions with many parts are compared to their end.
func TestP5_3SameLong(t *testing.T) {
	wide := chain(4, name("a"), func(e api.Expr) api.Expr { return call("f", slices.Repeat([]api.Expr{e}, 20)...) })
	long := chain(60000, number(1), func(e api.Expr) api.Expr { return call("+", e, number(2)) })
	for _, e := range []api.Expr{wide, long} {
		other := copied(e)
		if !Same(e, other) {
			t.Errorf("%s is the same as itself", brief(e))
		}
		last := &other
		for len(last.Kids) > 0 {
			last = &last.Kids[len(last.Kids)-1]
		}
		last.N = 3
		if Same(e, other) || Same(other, e) {
			t.Errorf("%s differs at its end", brief(e))
		}
	}
}

// moved returns an expression with other positions everywhere.
func moved(e api.Expr, by int) api.Expr {
	e = copied(e)
	walk(&e, func(e *api.Expr) {
		by++
		e.Line, e.Col = e.Line+by, e.Col-by
	})
	return e
}

// Each field of an expression, and of its value and its type, counts, in kids too, valid or not.
func TestP5_3SameFields(t *testing.T) {
	all := []api.Expr{{}}
	for _, op := range []api.ExprOp{1, 2, 8, 9, 10, -1} {
		all = append(all, api.Expr{Op: op}, api.Expr{Op: op, N: 3})
	}
	all = append(all, api.Expr{Name: "a"}, api.Expr{Name: "A"}, api.Expr{N: 1}, api.Expr{N: -1}, api.Expr{Bits: bits("0")}, api.Expr{Bits: bits("1")}, api.Expr{Bits: bits("00")}, api.Expr{Bits: bits("01")}, api.Expr{Bits: bits("10")}, api.Expr{Kids: []api.Expr{{}}}, api.Expr{Kids: []api.Expr{{}, {}}})
	for _, v := range []api.Value{{Kind: 1}, {Kind: 2}, {N: 1}, {N: 2}, {Bits: bits("0")}, {Bits: bits("1")}, {Bits: bits("01")}, {List: []api.Value{{}}}, {List: []api.Value{{}, {}}}, {List: []api.Value{{N: 1}}}, {List: []api.Value{{}, {N: 1}}}, {List: []api.Value{{List: []api.Value{{Bits: bits("0")}}}}}} {
		all = append(all, api.Expr{Val: v})
	}
	for _, u := range []api.Type{{Kind: 1}, {Kind: 2}, {Len: 1}, {Len: 2}, {Name: "a"}, {Name: "b"}, {Names: []string{"a"}}, {Names: []string{"b"}}, {Names: []string{"a", "b"}}, {Elem: []api.Type{{}}}, {Elem: []api.Type{{}, {}}}, {Elem: []api.Type{{Kind: 1}}}, {Elem: []api.Type{{Len: 1}}}, {Elem: []api.Type{{Elem: []api.Type{{Name: "a"}}}}}} {
		all = append(all, api.Expr{Type: u})
	}
	for i, e := range all {
		for j, other := range all {
			for _, around := range []func(e api.Expr) api.Expr{
				func(e api.Expr) api.Expr { return e },
				func(e api.Expr) api.Expr { return at(e, e.N, 5*e.N) },
				func(e api.Expr) api.Expr { return call("f", name("a"), e) },
				func(e api.Expr) api.Expr { return call("not", index(e, name("a"))) },
			} {
				if Same(around(e), around(other)) != (i == j) {
					t.Errorf("Same(%v, %v) is not %t", around(e), around(other), i == j)
				}
			}
		}
	}
}

func TestP5_4Names(t *testing.T) {
	for s, want := range map[string]string{
		"1": "", "'x' & b\"01\"": "", "a": "a", "- a": "a", "not ( a and b )": "a b", "f ( a , b )": "f a b", "a + f ( a ) + b + f ( c )": "a f b c", "b ( a ) ( b )": "b a", "a ( a ) ( b downto c )": "a b c",
		"z + y + x": "z y x", "z * ( y - ( x mod a ) )": "z y x a", "f ( f ( f ( g ) ) )": "f g", "A + a + A1": "A a A1", "x ( z downto y ) = x": "x z y", "( a + b ) ( c )": "a b c", "true and bit": "true bit",
	} {
		e := parsed(t, s)
		if names, err := Names(e); strings.Join(names, " ") != want || err != api.OK {
			t.Errorf("Names(%s) = %v, %d; want %s", s, names, err, want)
		}
	}
	for _, e := range slices.Concat(smallTrees(), deeperTrees()) {
		var want []string
		for _, one := range lex(t, textOf(t, e)) {
			if one.Op == api.TokName && !slices.Contains(want, one.Text) {
				want = append(want, one.Text)
			}
		}
		if names, err := Names(e); !slices.Equal(names, want) || err != api.OK {
			t.Errorf("Names(%s) = %v, %d; want %v", shape(e), names, err, want)
		}
	}
}

func TestP5_4Many(t *testing.T) {
	e := name("a")
	want := []string{"a", "g"}
	for i := range 5000 {
		s := fmt.Sprintf("n%d", i)
		e = call("+", e, call("g", name(s), name("a")))
		want = append(want, s)
	}
	if names, err := Names(e); !slices.Equal(names, want) || err != api.OK {
		t.Errorf("Names of %d names: %d of them, %d", len(want), len(names), err)
	}
}

func TestP5_4Refuses(t *testing.T) {
	for _, e := range noExpressions() {
		if names, err := Names(e); len(names) != 0 || err != api.ErrArg {
			t.Errorf("Names(%s) = %s, %d", brief(e), brief(names), err)
		}
	}
}
