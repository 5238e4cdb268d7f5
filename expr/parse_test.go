package expr

import (
	"math"
	"slices"
	"strings"
	"testing"

	"netwright/api"
)

func TestP5_1Examples(t *testing.T) {
	for s, want := range map[string]string{
		"a and b = c + 1":  "(and a (= b (+ c 1)))",
		"f ( x ) ( 3 )":    "(index (f x) 3)",
		"s ( 7 downto 4 )": "(slice s 7 4)",
		"( a ) ( 3 )":      "(a 3)",
		"a ( 3 )":          "(a 3)",
	} {
		wantShape(t, s, want)
	}
	l := lex(t, "a = b = c")
	if e, next, fault := Parse(l, 0); shape(e) != "(= a b)" || next != 3 || fault != (api.Fault{}) {
		t.Errorf("Parse(a = b = c) = %s, %d, %v", shape(e), next, fault)
	}
	wantFault(t, Parse, "a + ;", 0, api.ErrSyntax, 2)
}

func wantShape(t *testing.T, s, want string) {
	t.Helper()
	if got := shape(parsed(t, s)); got != want {
		t.Errorf("Parse(%s) = %s; want %s", s, got, want)
	}
}

// wantFault checks that a function refuses a string, from the token at, with the token that has an index (none: the end).
func wantFault[T any](t *testing.T, f func([]api.Token, int) (T, int, api.Fault), s string, at int, code api.Errno, index int) {
	t.Helper()
	l := placed(lex(t, s))
	want := api.Fault{Code: code}
	if index < len(l) {
		want = faultOf(code, l[index])
	}
	if _, next, fault := f(l, at); next != 0 || fault != want {
		t.Errorf("%q from %d: next %d, fault %v; want %v", s, at, next, fault, want)
	}
}

func TestP5_1Leaves(t *testing.T) {
	for s, want := range map[string]api.Expr{
		"0":             number(0),
		"007":           number(7),
		"2147483647":    number(math.MaxInt32),
		"'0'":           {Op: api.EBit, Bits: []api.Bit{api.B0}},
		"'1'":           {Op: api.EBit, Bits: []api.Bit{api.B1}},
		"'x'":           {Op: api.EBit, Bits: []api.Bit{api.BX}},
		"'z'":           {Op: api.EBit, Bits: []api.Bit{api.BZ}},
		`b"1"`:          {Op: api.EVec, Bits: []api.Bit{api.B1}},
		`b"01xz"`:       {Op: api.EVec, Bits: []api.Bit{api.BZ, api.BX, api.B1, api.B0}},
		"a":             name("a"),
		"int":           name("int"),
		"( ( ( a ) ) )": name("a"),
	} {
		if got := bare(parsed(t, s)); !equal(got, want) {
			t.Errorf("Parse(%s) = %v; want %v", s, got, want)
		}
	}
	long := strings.Repeat("x1z0", 16)
	if got := bare(parsed(t, `b"`+long+`"`)); !equal(got, vector(long)) || len(got.Bits) != 64 {
		t.Errorf("Parse of a vector of 64 = %v", got)
	}
}

func TestP5_1Positions(t *testing.T) {
	l := lex(t, "( a\n- b ) * not\n f ( 1 ) ( 2 ) ( 4\n downto - 3 ) + ( g ) ( '1' )")
	sum := at(call("-", at(name("a"), 1, 3), at(name("b"), 2, 3)), 2, 1)
	f := at(call("f", at(number(1), 3, 6)), 3, 2)
	second := at(index(f, at(number(2), 3, 12)), 3, 10)
	minus := at(call("-", at(number(3), 4, 11)), 4, 9)
	third := at(slice(second, at(number(4), 3, 18), minus), 3, 16)
	product := at(call("*", sum, at(call("not", third), 2, 9)), 2, 7)
	g := at(call("g", at(bit("1"), 4, 25)), 4, 19)
	want := at(call("+", product, g), 4, 15)
	if e, next, fault := Parse(l, 0); !equal(e, want) || next != len(l) || fault != (api.Fault{}) {
		t.Errorf("Parse = %v, %d, %v; want %v", e, next, fault, want)
	}
}

// Every operator beside every other one, on both sides.
func TestP5_1EveryOperator(t *testing.T) {
	all := slices.Concat(operators...)
	for _, left := range all {
		for _, right := range all {
			want := "(" + left + " a (" + right + " b c))"
			if rowIn(left) >= rowIn(right) {
				want = "(" + right + " (" + left + " a b) c)"
			}
			s := "a " + left + " b " + right + " c"
			if rowIn(left) == 1 && rowIn(right) == 1 {
				if e, next, fault := Parse(lex(t, s), 0); shape(e) != "("+left+" a b)" || next != 3 || fault != (api.Fault{}) {
					t.Errorf("Parse(%s) = %s, %d, %v", s, shape(e), next, fault)
				}
				continue
			}
			wantShape(t, s, want)
			wantShape(t, "( a "+left+" b ) "+right+" c", "("+right+" ("+left+" a b) c)")
			wantShape(t, "a "+left+" ( b "+right+" c )", "("+left+" a ("+right+" b c))")
		}
		for _, one := range []string{"not", "-"} {
			wantShape(t, one+" a "+left+" b", "("+left+" ("+one+" a) b)")
			wantShape(t, "a "+left+" "+one+" b", "("+left+" a ("+one+" b))")
			wantShape(t, one+" ( a "+left+" b )", "("+one+" ("+left+" a b))")
		}
	}
}

func TestP5_1Shapes(t *testing.T) {
	for s, want := range map[string]string{
		"not - a":                          "(not (- a))",
		"- not - - a":                      "(- (not (- (- a))))",
		"a - - b":                          "(- a (- b))",
		"- a ( 1 )":                        "(- (a 1))",
		"( - a ) ( 1 )":                    "(index (- a) 1)",
		"not a ( 1 ) ( 2 )":                "(not (index (a 1) 2))",
		"a and b or c xor d":               "(xor (or (and a b) c) d)",
		"a = b and c < d or e >= f":        "(or (and (= a b) (< c d)) (>= e f))",
		"( a = b ) = ( c = d )":            "(= (= a b) (= c d))",
		"1 + 2 * 3 - 4 & 5 shl 6":          "(& (- (+ 1 (* 2 3)) 4) (shl 5 6))",
		"a ( 1 downto 0 )":                 "(slice a 1 0)",
		"( a ) ( 1 downto 0 )":             "(slice a 1 0)",
		"( ( a ) ) ( 1 )":                  "(a 1)",
		"( ( a ) ( 1 ) ) ( 2 )":            "(index (a 1) 2)",
		"a ( 1 ) ( 2 ) ( 3 )":              "(index (index (a 1) 2) 3)",
		"a ( 1 downto 0 ) ( 2 )":           "(index (slice a 1 0) 2)",
		"a ( 1 downto 0 ) ( 2 downto 1 )":  "(slice (slice a 1 0) 2 1)",
		"f ( a ) ( 2 downto 1 )":           "(slice (f a) 2 1)",
		"f ( a , b ) ( 2 ) ( 2 downto 1 )": "(slice (index (f a b) 2) 2 1)",
		"f ( a ( 1 ) , g ( b , c ) )":      "(f (a 1) (g b c))",
		"f ( a = b , not c )":              "(f (= a b) (not c))",
		"a ( b and c downto d or e )":      "(slice a (and b c) (or d e))",
		"5 ( 0 )":                          "(index 5 0)",
		"'1' ( 0 )":                        "(index '1' 0)",
		`b"01" ( 1 ) ( 0 )`:                "(index (index b01 1) 0)",
		`b"01xz" ( 1 downto 0 )`:           "(slice b01xz 1 0)",
		"( a + b ) ( 1 )":                  "(index (+ a b) 1)",
		"( a + b ) ( 1 downto 0 )":         "(slice (+ a b) 1 0)",
		"( ( a ) + ( ( 1 ) ) )":            "(+ a 1)",
	} {
		wantShape(t, s, want)
	}
}

func TestP5_1Arguments(t *testing.T) {
	for n := 1; n <= 20; n++ {
		s := "f ( " + strings.Repeat("a , ", n-1) + "a )"
		wantShape(t, s, "(f"+strings.Repeat(" a", n)+")")
		wantShape(t, "not "+s+" ( 1 )", "(not (index (f"+strings.Repeat(" a", n)+") 1))")
	}
	many := "f ( " + strings.Repeat("a , ", 20) + "a )"
	wantFault(t, Parse, many, 0, api.ErrSyntax, 2+39)
	wantFault(t, Parse, strings.TrimSuffix(many, " a )"), 0, api.ErrSyntax, 2+39)
	wantFault(t, Parse, "g ( "+many+" )", 0, api.ErrSyntax, 4+39)
	wantFault(t, Parse, strings.TrimSuffix(many, ", a )")+"downto 1 )", 0, api.ErrSyntax, 2+39)
}

// What goes on behind an expression does not change it.
func TestP5_1Next(t *testing.T) {
	for s, want := range map[string]int{
		"a ; b": 1, "a a": 1, "a 1": 1, "a '1'": 1, "a not b": 1, "a downto b": 1, "a , b": 1, "a )": 1, "a := b": 1, "a then": 1, "a \"(\" 1": 1, "a \"+\" 1": 1,
		"a = b <= c": 3, "a < b + c = d": 5, "a = b and c > d /= e": 7, "a ( 1 ) , ( 2 )": 4, "- a ) (": 2, "( a ) )": 3, "f ( x ) => y": 4,
	} {
		l := lex(t, s)
		e, next, fault := Parse(l, 0)
		if next != want || fault != (api.Fault{}) {
			t.Errorf("Parse(%s): next %d, fault %v; want %d", s, next, fault, want)
		}
		if alone, _, _ := Parse(l[:want], 0); !equal(e, alone) {
			t.Errorf("Parse(%s) = %s; without the rest %s", s, shape(e), shape(alone))
		}
	}
}

func TestP5_1At(t *testing.T) {
	l := lex(t, "( ( ; a + b ) ( a ) ( 3 )")
	for at, want := range []struct {
		shape string
		next  int
		fault api.Fault
	}{
		{fault: faultOf(api.ErrSyntax, l[2])}, {fault: faultOf(api.ErrSyntax, l[2])}, {fault: faultOf(api.ErrSyntax, l[2])},
		{shape: "(+ a b)", next: 6}, {fault: faultOf(api.ErrSyntax, l[4])}, {shape: "b", next: 6}, {fault: faultOf(api.ErrSyntax, l[6])},
		{shape: "(a 3)", next: 13}, {shape: "a", next: 9}, {fault: faultOf(api.ErrSyntax, l[9])},
		{shape: "3", next: 13}, {shape: "3", next: 12}, {fault: faultOf(api.ErrSyntax, l[12])},
		{fault: api.Fault{Code: api.ErrEnd}},
	} {
		e, next, fault := Parse(l, at)
		if next != want.next || fault != want.fault || fault.Code == api.OK && shape(e) != want.shape || fault.Code != api.OK && !equal(e, api.Expr{}) {
			t.Errorf("Parse from %d = %s, %d, %v; want %v", at, shape(e), next, fault, want)
		}
	}
}

func TestP5_1Faults(t *testing.T) {
	for s, index := range map[string]int{
		"end": 0, ";": 0, ")": 0, "+ a": 0, "* 1": 0, "and": 0, "downto": 0, "\"\"": 0, "\"a\" + 1": 0, "vec ( 1 )": 0,
		"a + ;": 2, "a + * b": 2, "a = = b": 2, "not ;": 1, "- and": 1, "a + \"x\"": 2, "( )": 1, "f ( )": 2, "f ( a ) ( )": 5, "( ;": 1,
		"f ( 1 2": 3, "( a b": 2, "( a , b )": 2, "( a downto b )": 2, "( a = b = c )": 4, "f ( a = b = c )": 5, "f ( a , )": 4, "f ( , a )": 2,
		"a ( 1 downto 0 , 2 )": 5, "a ( 1 , 2 downto 0 )": 5, "a ( 1 downto 2 downto 3 )": 5, "a ( downto 1 )": 2, "a ( 1 downto )": 4,
		"a ( 1 ) ( 2 , 3 )": 6, "1 ( 2 , 3 )": 3, "( a ) ( 2 , 3 )": 5, "( a + b ) ( 1 , 2 )": 7, "a ( 1 downto 0 ) ( 1 , 2 )": 8, "a ( 1 ; )": 3, "a ( 1 '0' )": 3, "a ( 1 \")\"": 3, "f ( a \",\" b )": 3,
	} {
		wantFault(t, Parse, s, 0, api.ErrSyntax, index)
		wantFault(t, Parse, "( ) "+s, 2, api.ErrSyntax, index+2)
	}
	for _, s := range []string{"", "not", "-", "(", "a +", "a ( 1", "f (", "f ( 1 ,", "a ( 1 downto", "a ( 1 downto 0", "( a", "( ( a )", "a = b and", "f ( x ) (", "not (", "f ( " + strings.Repeat("a , ", 19) + "a"} {
		n := len(lex(t, s))
		wantFault(t, Parse, s, 0, api.ErrEnd, n)
		wantFault(t, Parse, "; "+s, 1, api.ErrEnd, n+1)
	}
}

// The token of a fault is named by its text, an int by its digits.
func TestP5_1FaultNames(t *testing.T) {
	for s, want := range map[string]api.Fault{
		"a + ;":             {Code: api.ErrSyntax, Name: ";", Line: 1, Col: 5},
		"( a 007":           {Code: api.ErrSyntax, Name: "7", Line: 1, Col: 5},
		"( a 2147483647":    {Code: api.ErrSyntax, Name: "2147483647", Line: 1, Col: 5},
		"( a 'x'":           {Code: api.ErrSyntax, Name: "x", Line: 1, Col: 5},
		"( a b\"01\"":       {Code: api.ErrSyntax, Name: "01", Line: 1, Col: 5},
		"not\n\n  \"a b\"":  {Code: api.ErrSyntax, Name: "a b", Line: 3, Col: 3},
		"\"\"":              {Code: api.ErrSyntax, Line: 1, Col: 1},
		"end":               {Code: api.ErrSyntax, Name: "end", Line: 1, Col: 1},
		"f ( a\n   another": {Code: api.ErrSyntax, Name: "another", Line: 2, Col: 4},
		"a +":               {Code: api.ErrEnd},
	} {
		if _, _, fault := Parse(lex(t, s), 0); fault != want {
			t.Errorf("Parse(%q): fault %v; want %v", s, fault, want)
		}
	}
}

// deepStrings are strings that are nested n deep, each by other means, and the index of the token there; the last token is not the end.
func deepStrings(n int) map[string]int {
	all := map[string]int{
		strings.Repeat("( ", n) + "a" + strings.Repeat(" )", n):                                               n - 1,
		strings.Repeat("not ", n) + "a":                                                                       n - 1,
		strings.Repeat("- ", n) + "a":                                                                         n - 1,
		strings.Repeat("f ( ", n) + "a" + strings.Repeat(" )", n):                                             2*n - 1,
		strings.Repeat("f ( b , ", n) + "a" + strings.Repeat(" )", n):                                         4*n - 3,
		strings.Repeat("1 ( ", n) + "a" + strings.Repeat(" )", n):                                             2*n - 1,
		strings.Repeat("a ( 1 downto ", n) + "0" + strings.Repeat(" )", n):                                    4*n - 3,
		strings.Repeat("not ", n-1) + "a ( 1 )":                                                               n,
		strings.Repeat("not ", n-1) + "( a )":                                                                 n - 1,
		strings.Repeat("not ", n-1) + "a ( 1 ) ( 2 ) ( 3 downto 0 )":                                          n,
		strings.Repeat("- a + not b + ( 1 ) + ", 9) + strings.Repeat("( ", n) + "a" + strings.Repeat(" )", n): 9*10 + n - 1,
		strings.Repeat("( a ) ( 1 ) ( 2 ) ( 3 ) + ", 9) + strings.Repeat("- ", n) + "1":                       9*13 + n - 1,
	}
	if n%2 == 0 {
		all[strings.Repeat("not ( ", n/2)+"a"+strings.Repeat(" )", n/2)] = n - 1
		all[strings.Repeat("- f ( ", n/2)+"a"+strings.Repeat(" )", n/2)] = 3*n/2 - 1
		all[strings.Repeat("a + ( b ) ( ", n/2)+strings.Repeat("( ", n/2)+"a"+strings.Repeat(" )", n)] = 6*n/2 + n/2 - 1
	}
	return all
}

func TestP5_1Deep(t *testing.T) {
	for s := range deepStrings(api.MaxNest) {
		want, next, _ := expectedExpr(lex(t, s), 0)
		if e := parsed(t, s); next != len(lex(t, s)) || !equal(e, want) {
			t.Errorf("Parse(%s) = %s", s, shape(e))
		}
		wantFault(t, Parse, s+" + ;", 0, api.ErrSyntax, next+1)
	}
	for s, index := range deepStrings(api.MaxNest + 1) {
		wantFault(t, Parse, s, 0, api.ErrDeep, index)
		wantFault(t, Parse, strings.Join(strings.Fields(s)[:index+1], " "), 0, api.ErrDeep, index)
		wantFault(t, Parse, "( not - f ( ( ( "+s, 7, api.ErrDeep, index+7)
	}
	deep := strings.Repeat("( ", api.MaxNest)
	wantFault(t, Parse, deep+"( ;", 0, api.ErrDeep, api.MaxNest)
	wantFault(t, Parse, deep+"; (", 0, api.ErrSyntax, api.MaxNest)
	wantFault(t, Parse, deep+"a ( 1 )", 0, api.ErrDeep, api.MaxNest+1)
	wantFault(t, Parse, deep+"a + - 1", 0, api.ErrDeep, api.MaxNest+2)
	wantFault(t, Parse, deep+"a - not 1", 0, api.ErrDeep, api.MaxNest+2)
	wantFault(t, Parse, deep+"a - 1", 0, api.ErrEnd, api.MaxNest+3)
}

// Over all short rows of tokens, the functions give what the model gives.
func TestP5_1EveryShortRow(t *testing.T) {
	everyRow(t, 5, "a 1 ( ) + = not - downto , ;", func(l []api.Token) {
		agree(t, "Parse", Parse, expectedExpr, equal, l)
	})
	everyRow(t, 6, "a ( ) = * not ,", func(l []api.Token) {
		agree(t, "Parse", Parse, expectedExpr, equal, l)
	})
	everyRow(t, 5, "a 1 ( ) + downto , ; <=", func(l []api.Token) {
		agree(t, "Target", Target, expectedTarget, equal, l)
	})
	everyRow(t, 6, "a ( ) downto , -", func(l []api.Token) {
		agree(t, "Target", Target, expectedTarget, equal, l)
	})
	everyRow(t, 5, "a 1 ( ) + - of vec array ;", func(l []api.Token) {
		agree(t, "Type", Type, expectedType, equalTypes, l)
	})
	everyRow(t, 8, "b ( ) of array", func(l []api.Token) {
		agree(t, "Type", Type, expectedType, equalTypes, l)
	})
}

// agree checks that a function gives what the model gives, from the beginning, and from the token after it.
func agree[T any](t *testing.T, call string, f, model func([]api.Token, int) (T, int, api.Fault), same func(a, b T) bool, l []api.Token) {
	t.Helper()
	for at := range min(2, len(l)+1) {
		got, next, fault := f(l, at)
		want, wantNext, wantFault := model(l, at)
		if !same(got, want) || next != wantNext || fault != wantFault {
			t.Errorf("%s(%v, %d) = %v, %d, %v; want %v, %d, %v", call, l, at, got, next, fault, want, wantNext, wantFault)
		}
	}
}

// Long expressions, with brackets that are not needed, and each with one token more, less or another, are read as the model reads them.
func TestP5_1LongRows(t *testing.T) {
	r := source()
	all := lex(t, "a 1 '1' b\"01\" \"s\" ( ) + = and * not - downto , ; of end")
	for range 2000 {
		l := slices.Concat(placed(all[:r.IntN(3)]), spelled(randomTree(r, r.IntN(40)), func() bool { return r.IntN(3) == 0 }))
		agree(t, "Parse", Parse, expectedExpr, equal, placed(l))
		place := r.IntN(len(l))
		other := all[r.IntN(len(all))]
		for _, row := range [][]api.Token{slices.Insert(slices.Clone(l), place, other), slices.Delete(slices.Clone(l), place, place+1), slices.Replace(slices.Clone(l), place, place+1, other), l[:place]} {
			agree(t, "Parse", Parse, expectedExpr, equal, placed(row))
			agree(t, "Target", Target, expectedTarget, equal, placed(row))
			begin := lex(t, []string{"vec (", "array (", "array ( a ) of", "array ( 1 ) of vec ("}[r.IntN(4)])
			agree(t, "Type", Type, expectedType, equalTypes, placed(slices.Concat(begin, row)))
		}
	}
}

func TestP5_1Types(t *testing.T) {
	long := "f ( " + strings.Repeat("a , ", 19) + "a )"
	for _, length := range []string{"1", "n", "n + 1", "( n )", "a = b", "f ( 1 , 2 )", "2 * n - 1", "a ( 1 downto 0 )", "'1'", long} {
		want := parsed(t, length)
		for _, s := range []string{"bit", "bool", "int", "t", "vec ( " + length + " )"} {
			r := typeOf(t, s+" ; vec", len(lex(t, s)))
			wantName := strings.Fields(s)[0]
			if r.Name != wantName || len(r.Elem) != 0 || (wantName == "vec") != (len(r.Len) == 1) || len(r.Len) > 1 {
				t.Errorf("Type(%s) = %v", s, r)
			}
			row := "array ( " + length + " ) of " + s
			a := typeOf(t, row+" of bit", len(lex(t, row)))
			if a.Name != "array" || len(a.Len) != 1 || !equal(bare(a.Len[0]), bare(want)) || len(a.Elem) != 1 || a.Elem[0].Name != wantName || len(a.Elem[0].Len) != len(r.Len) {
				t.Errorf("Type(%s) = %v", row, a)
			}
		}
	}
}

// typeOf returns the type that is so many tokens of a string.
func typeOf(t *testing.T, s string, tokens int) api.TypeRef {
	t.Helper()
	r, next, fault := Type(lex(t, s), 0)
	if next != tokens || fault != (api.Fault{}) {
		t.Errorf("Type(%s): next %d, fault %v", s, next, fault)
	}
	return r
}

func TestP5_1TypePositions(t *testing.T) {
	want := api.TypeRef{Name: "array", Line: 1, Col: 3, Len: []api.Expr{at(number(4), 1, 10)}, Elem: []api.TypeRef{
		{Name: "vec", Line: 2, Col: 2, Len: []api.Expr{at(call("+", at(name("n"), 2, 8), at(number(1), 2, 12)), 2, 10)}},
	}}
	if r := typeOf(t, "  array( 4 ) of\n vec ( n + 1 )", 11); !equalTypes(r, want) {
		t.Errorf("Type = %v; want %v", r, want)
	}
	if r := typeOf(t, "\n\tbit ( 3 )", 1); !equalTypes(r, api.TypeRef{Name: "bit", Line: 2, Col: 2}) {
		t.Errorf("Type = %v", r)
	}
	if r, next, fault := Type(lex(t, "a : vec ( 3 )"), 2); r.Name != "vec" || r.Col != 5 || next != 6 || fault != (api.Fault{}) {
		t.Errorf("Type from 2 = %v, %d, %v", r, next, fault)
	}
}

func TestP5_1TypeFaults(t *testing.T) {
	for s, index := range map[string]int{
		"1": 0, "( bit )": 0, "of": 0, ";": 0, "\"bit\"": 0, "\"vec\" ( 1 )": 0, "end": 0,
		"vec 3": 1, "vec ;": 1, "vec \"(\" 1 )": 1, "vec ( )": 2, "vec ( 1 2 )": 3, "vec ( 1 , 2 )": 3, "vec ( 1 downto 0 )": 3, "vec ( a = b = c )": 5,
		"array bit": 1, "array of bit": 1, "array ( 1 ) bit": 4, "array ( 1 ) \"of\" bit": 4, "array ( 1 ) of 1": 5, "array ( ) of bit": 2, "array ( 1 ) of of": 5,
		"array ( 1 ) of array ( 2 ) of bit": 5, "array ( 1 ) of vec bit": 6, "array ( 1 ) of vec ( 2 , 3 )": 8, "array ( 1 , 2 ) of bit": 3,
	} {
		wantFault(t, Type, s, 0, api.ErrSyntax, index)
		wantFault(t, Type, "vec "+s, 1, api.ErrSyntax, index+1)
	}
	for _, s := range []string{"", "vec", "vec (", "vec ( 1", "vec ( 1 +", "array", "array (", "array ( 1", "array ( 1 )", "array ( 1 ) of", "array ( 1 ) of vec", "array ( 1 ) of vec ( 1"} {
		wantFault(t, Type, s, 0, api.ErrEnd, len(lex(t, s)))
	}
}

// The bracket of a length counts too.
func TestP5_1TypesDeep(t *testing.T) {
	for s := range deepStrings(api.MaxNest - 1) {
		n := len(lex(t, s))
		typeOf(t, "vec ( "+s+" )", n+3)
		typeOf(t, "array ( "+s+" ) of vec ( "+s+" )", 2*n+7)
	}
	for s, index := range deepStrings(api.MaxNest) {
		wantFault(t, Type, "vec ( "+s+" )", 0, api.ErrDeep, index+2)
		wantFault(t, Type, "array ( "+s+" ) of bit", 0, api.ErrDeep, index+2)
		wantFault(t, Type, "array ( ( 1 ) ) of vec ( "+s+" )", 0, api.ErrDeep, index+9)
	}
}

func TestP5_1Targets(t *testing.T) {
	for s, want := range map[string]string{
		"q": "q", "q ( 1 )": "(q 1)", "q ( 1 ) ( 2 )": "(index (q 1) 2)", "q ( 3 downto 0 )": "(slice q 3 0)", "q ( i ) ( 3 downto 0 )": "(slice (q i) 3 0)",
		"q ( 3 downto 0 ) ( 1 )": "(index (slice q 3 0) 1)", "q ( 3 downto 0 ) ( 1 downto 0 ) ( 0 )": "(index (slice (slice q 3 0) 1 0) 0)",
		"q ( f ( 1 , 2 ) )": "(q (f 1 2))", "q ( a = b )": "(q (= a b))", "q ( ( 1 ) )": "(q 1)", "q ( - 1 ) ( i + 1 downto not i )": "(slice (q (- 1)) (+ i 1) (not i))",
	} {
		l := lex(t, s)
		for _, behind := range []string{"", "<=", "+ 1", ":= q", ", q", ")", "q", "downto 1", "= 1", "'1'", "\"(\""} {
			e, next, fault := Target(slices.Concat(l, lex(t, behind)), 0)
			if shape(e) != want || next != len(l) || fault != (api.Fault{}) {
				t.Errorf("Target(%s %s) = %s, %d, %v; want %s", s, behind, shape(e), next, fault, want)
			}
			if whole := parsed(t, s); !equal(e, whole) {
				t.Errorf("Target(%s) = %v; Parse = %v", s, e, whole)
			}
		}
	}
}

func TestP5_1TargetFaults(t *testing.T) {
	for s, index := range map[string]int{
		"( q )": 0, "1": 0, "'1' ( 0 )": 0, "not q": 0, "- q": 0, "<=": 0, "\"q\"": 0, "end": 0,
		"q ( )": 2, "q ( 1 , 2 )": 3, "q ( 1 ) ( 2 , 3 )": 6, "q ( 1 ) ( )": 5, "q ( 1 downto 2 , 3 )": 5, "q ( 1 2 )": 3, "q ( a = b = c )": 5, "q ( f ( ) )": 4, "q ( 1 ;": 3,
	} {
		wantFault(t, Target, s, 0, api.ErrSyntax, index)
		wantFault(t, Target, "q := ( "+s, 3, api.ErrSyntax, index+3)
	}
	for _, s := range []string{"", "q (", "q ( 1", "q ( 1 downto", "q ( 1 downto 0", "q ( 1 ) (", "q ( f ( 1 )"} {
		wantFault(t, Target, s, 0, api.ErrEnd, len(lex(t, s)))
	}
	for s, index := range deepStrings(api.MaxNest) {
		wantFault(t, Target, "q ( "+s+" )", 0, api.ErrDeep, index+2)
		wantFault(t, Target, "q ( 1 ) ( 2 downto "+s+" )", 0, api.ErrDeep, index+7)
	}
	for s := range deepStrings(api.MaxNest - 1) {
		if _, next, fault := Target(lex(t, "q ( "+s+" ) ;"), 0); next != len(lex(t, s))+3 || fault != (api.Fault{}) {
			t.Errorf("Target(q ( %s )): next %d, fault %v", s, next, fault)
		}
	}
}

// wantRefused checks that no function takes tokens from the token at.
func wantRefused(t *testing.T, l []api.Token, at int) {
	t.Helper()
	want := api.Fault{Code: api.ErrArg}
	if e, next, fault := Parse(l, at); !equal(e, api.Expr{}) || next != 0 || fault != want {
		t.Errorf("Parse(%s, %d) = %v, %d, %v", brief(l), at, e, next, fault)
	}
	if e, next, fault := Target(l, at); !equal(e, api.Expr{}) || next != 0 || fault != want {
		t.Errorf("Target(%s, %d) = %v, %d, %v", brief(l), at, e, next, fault)
	}
	if r, next, fault := Type(l, at); !equalTypes(r, api.TypeRef{}) || next != 0 || fault != want {
		t.Errorf("Type(%s, %d) = %v, %d, %v", brief(l), at, r, next, fault)
	}
}

func TestP5_1Arg(t *testing.T) {
	good := lex(t, "a ( 1 ) + b")
	for _, at := range []int{-1, -2, math.MinInt, math.MaxInt, 1 << 32} {
		wantRefused(t, good, at)
		wantRefused(t, nil, at)
	}
	wantRefused(t, good, len(good)+1)
	wantRefused(t, nil, 1)
	for _, bad := range []api.Token{{}, {Op: 8}, {Op: -1, Text: "a"}, {Op: api.TokName}, token(api.TokName, "end"), token(api.TokName, "1"), token(api.TokName, strings.Repeat("a", 41)), token(api.TokName, "+"), token(api.TokWord, "a"), token(api.TokWord, "("), token(api.TokSign, "and"), token(api.TokSign, "!"), token(api.TokBit, "2"), token(api.TokBit, ""), token(api.TokVec, ""), token(api.TokVec, strings.Repeat("1", 65)), token(api.TokText, "\""), token(api.TokInt, "1"), {Op: api.TokInt, N: -1}, {Op: api.TokInt, N: math.MaxInt32 + 1}, {Op: api.TokName, Text: "a", N: 1}} {
		for place := range len(good) + 1 {
			l := slices.Insert(slices.Clone(good), place, bad)
			for _, at := range []int{-1, 0, place, place + 1, len(l), len(l) + 1} {
				wantRefused(t, l, at)
			}
		}
	}
}

// There may be more tokens than a string has bytes: all of them have to be possible, and are read.
func TestP5_1Many(t *testing.T) {
	for _, n := range []int{api.MaxText - 1, api.MaxText, api.MaxText + 1, 2 * api.MaxText, 2*api.MaxText + 1, 70000} {
		l := placed(slices.Repeat(lex(t, "a"), n))
		for _, at := range []int{0, 1, api.MaxText / 2, n - 2, n - 1} {
			agree(t, "Parse", Parse, expectedExpr, equal, l[at:])
			agree(t, "Target", Target, expectedTarget, equal, l[at:])
			agree(t, "Type", Type, expectedType, equalTypes, l[at:])
			want := api.Expr{Op: api.EName, Name: "a", Line: l[at].Line, Col: l[at].Col}
			if e, next, fault := Parse(l, at); !equal(e, want) || next != at+1 || fault != (api.Fault{}) {
				t.Errorf("Parse of %d tokens from %d = %v, %d, %v", n, at, e, next, fault)
			}
		}
		if e, next, fault := Parse(l, n); !equal(e, api.Expr{}) || next != 0 || fault != (api.Fault{Code: api.ErrEnd}) {
			t.Errorf("Parse of %d tokens from their end = %v, %d, %v", n, e, next, fault)
		}
		wantRefused(t, l, n+1)
		for _, place := range []int{0, n / 2, n - 1} {
			bad := slices.Clone(l)
			bad[place].Text = "end"
			wantRefused(t, bad, 0)
			wantRefused(t, bad, n)
		}
	}
}

// What is read may have more tokens than a string has bytes, too.
func TestP5_1ManyInOne(t *testing.T) {
	sum := strings.Repeat("a + ", api.MaxText) + "a"
	for _, s := range []string{sum, sum + " +", sum + " ;", "f ( ( " + sum + " ) ( " + sum + " ) )", strings.Repeat("a * ", 30000) + "end"} {
		agree(t, "Parse", Parse, expectedExpr, equal, lexMany(t, s))
	}
	agree(t, "Target", Target, expectedTarget, equal, lexMany(t, "q"+strings.Repeat(" ( 1 )", api.MaxText)+" <="))
	agree(t, "Type", Type, expectedType, equalTypes, lexMany(t, "array ( "+sum+" ) of vec ( "+sum+" ) :="))
}

// lexMany returns the tokens of a string of any length, in which blanks are between all tokens.
func lexMany(t *testing.T, s string) []api.Token {
	t.Helper()
	var l []api.Token
	for words := range slices.Chunk(strings.Fields(s), 5000) {
		l = append(l, lex(t, strings.Join(words, " "))...)
	}
	return placed(l)
}

// Where tokens are does not matter.
func TestP5_1AnyPosition(t *testing.T) {
	for _, place := range [][2]int{{0, 0}, {-1, -1}, {math.MinInt, math.MaxInt}, {5, 0}} {
		l := lex(t, "f ( 1 ) ;")
		for i := range l {
			l[i].Line, l[i].Col = place[0], place[1]
		}
		want := at(call("f", at(number(1), place[0], place[1])), place[0], place[1])
		if e, next, fault := Parse(l, 0); !equal(e, want) || next != 4 || fault != (api.Fault{}) {
			t.Errorf("Parse = %v, %d, %v", e, next, fault)
		}
	}
}

// The longest rows of tokens are read: long sums, and many arguments in each other.
func TestP5_1Longest(t *testing.T) {
	sum := strings.Repeat("a+", api.MaxText/2-1) + "aa"
	for _, s := range []string{sum, strings.Repeat("a-", api.MaxText/2-1) + "1", "a" + strings.Repeat("(1)", 6666)} {
		l := lex(t, s)
		want, next, _ := expectedExpr(l, 0)
		if e, got, fault := Parse(l, 0); !equal(e, want) || got != next || got != len(l) || fault != (api.Fault{}) {
			t.Errorf("Parse of %d tokens: next %d, fault %v", len(l), got, fault)
		}
	}
}
