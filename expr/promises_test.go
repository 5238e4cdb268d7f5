package expr

import (
	"fmt"
	"slices"
	"strings"
	"testing"

	"netwright/api"
)

// wantBack checks that a valid expression is read from its string as it is.
func wantBack(t *testing.T, e api.Expr) {
	t.Helper()
	s := textOf(t, e)
	l := lex(t, s)
	got, next, fault := Parse(l, 0)
	if !Same(got, e) || !equal(bare(got), bare(e)) || next != len(l) || fault != (api.Fault{}) {
		t.Errorf("Parse(%.200s) = %.200s, %d, %v; want %.200s", s, shape(got), next, fault, shape(e))
	}
	for _, behind := range []string{";", ")", "a", "1", "downto", "of"} {
		more := slices.Concat(lex(t, behind), l, lex(t, behind))
		if got, next, fault := Parse(more, 1); !Same(got, e) || next != len(l)+1 || fault != (api.Fault{}) {
			t.Errorf("Parse(%.200s %s) = %.200s, %d, %v", s, behind, shape(got), next, fault)
		}
	}
}

func TestP5_5RoundTrip(t *testing.T) {
	for _, e := range slices.Concat(smallTrees(), deeperTrees(), deepTrees(api.MaxNest-1), deepTrees(api.MaxNest)) {
		wantBack(t, e)
	}
	r := source()
	for range 1000 {
		if e := randomTree(r, r.IntN(60)); Valid(e) && len(textOf(t, e)) <= api.MaxText {
			wantBack(t, e)
		}
	}
}

// A string of exactly MaxText bytes is read.
func TestP5_5Longest(t *testing.T) {
	for _, around := range []func(e api.Expr) api.Expr{
		func(e api.Expr) api.Expr { return call("+", e, name("b")) },
		func(e api.Expr) api.Expr { return call("and", e, bit("x")) },
		func(e api.Expr) api.Expr { return index(e, number(0)) },
	} {
		step := len(textOf(t, around(number(0)))) - 1
		e := call("or", chain((api.MaxText-40)/step, number(0), around), name("q"))
		rest := api.MaxText - len(textOf(t, e))
		e.Kids[1] = name("q" + strings.Repeat("_", rest))
		if s := textOf(t, e); len(s) != api.MaxText {
			t.Errorf("the string has %d bytes", len(s))
		}
		l := lex(t, textOf(t, e))
		if got, next, fault := Parse(l, 0); !equal(bare(got), e) || next != len(l) || fault != (api.Fault{}) {
			t.Errorf("Parse of %d tokens: next %d, fault %v", len(l), next, fault)
		}
	}
}

// wantShort checks that what is read of tokens has no more tokens as a string, and is the same again.
func wantShort(t *testing.T, l []api.Token) {
	t.Helper()
	e, next, fault := Parse(l, 0)
	if fault != (api.Fault{}) {
		return
	}
	s := textOf(t, e)
	again := lex(t, s)
	if len(again) > next {
		t.Errorf("of %v the string is %s", l[:next], s)
	}
	if other, end, fault := Parse(again, 0); !Same(other, e) || end != len(again) || fault != (api.Fault{}) || textOf(t, other) != s {
		t.Errorf("of %v the string is %s, which is read as %s", l[:next], s, shape(other))
	}
}

func TestP5_5NoLonger(t *testing.T) {
	everyRow(t, 5, "a 1 ( ) = not - downto , and", func(l []api.Token) { wantShort(t, l) })
	everyRow(t, 7, "a ( ) + -", func(l []api.Token) { wantShort(t, l) })
	r := source()
	for range 2000 {
		wantShort(t, spelled(randomTree(r, r.IntN(40)), func() bool { return r.IntN(2) == 0 }))
	}
	for s := range deepStrings(api.MaxNest) {
		wantShort(t, lex(t, s))
	}
}

// wantLongest checks that what is read of tokens is valid, at least one token, and not to be gone on with by the next one.
func wantLongest(t *testing.T, l []api.Token, at int) {
	t.Helper()
	e, next, fault := Parse(l, at)
	if fault != (api.Fault{}) {
		if next != 0 || !equal(e, api.Expr{}) {
			t.Errorf("Parse(%v, %d) = %v, %d, with the fault %v", l, at, e, next, fault)
		}
		return
	}
	if !Valid(e) || next <= at || next > len(l) {
		t.Errorf("Parse(%v, %d) = %s, %d", l, at, shape(e), next)
	}
	if next < len(l) {
		behind := sign(l[next])
		if behind == "(" || rowIn(behind) >= 0 && rowIn(behind) != 1 {
			t.Errorf("Parse(%v, %d) ends before %s", l, at, behind)
		}
	}
}

func TestP5_6Longest(t *testing.T) {
	everyRow(t, 5, "a 1 ( ) = not - downto , and", func(l []api.Token) { wantLongest(t, l, 0) })
	r := source()
	for range 2000 {
		l := spelled(randomTree(r, r.IntN(40)), func() bool { return r.IntN(2) == 0 })
		wantLongest(t, l, 0)
		wantLongest(t, l, r.IntN(len(l)))
		wantLongest(t, l[:r.IntN(len(l))], 0)
	}
	for _, n := range []int{1, api.MaxNest - 1, api.MaxNest, api.MaxNest + 1} {
		for s := range deepStrings(n) {
			wantLongest(t, lex(t, s), 0)
		}
	}
	for n := 1; n <= 22; n++ {
		wantLongest(t, lex(t, "f ( a"+strings.Repeat(" , a", n-1)+" )"), 0)
	}
}

// Types and targets that are read are valid too.
func TestP5_6TypesAndTargets(t *testing.T) {
	everyRow(t, 7, "b 1 ( ) of array vec", func(l []api.Token) {
		r, next, fault := Type(l, 0)
		if fault == (api.Fault{}) && (!ValidType(r) || next < 1 || next > len(l)) {
			t.Errorf("Type(%v) = %v, %d", l, r, next)
		}
	})
	everyRow(t, 7, "a ( ) downto - ,", func(l []api.Token) {
		e, next, fault := Target(l, 0)
		if fault == (api.Fault{}) && (!IsTarget(e) || next < 1 || next > len(l)) {
			t.Errorf("Target(%v) = %v, %d", l, e, next)
		}
	})
}

// wantNeeded checks that the string of an expression is another one, or none, without any pair of its brackets.
func wantNeeded(t *testing.T, e api.Expr) {
	t.Helper()
	l := lex(t, textOf(t, e))
	for i := range l {
		if sign(l[i]) != "(" {
			continue
		}
		less := withoutPair(l, i)
		if other, next, fault := Parse(less, 0); fault == (api.Fault{}) && next == len(less) && Same(other, e) {
			t.Errorf("%s does not need the brackets at %d", textOf(t, e), i)
		}
	}
}

func TestP5_7Brackets(t *testing.T) {
	for _, e := range slices.Concat(smallTrees(), deeperTrees(), deepTrees(api.MaxNest)) {
		wantNeeded(t, e)
	}
	r := source()
	for range 500 {
		if e := randomTree(r, r.IntN(60)); Valid(e) && len(textOf(t, e)) <= api.MaxText {
			wantNeeded(t, e)
		}
	}
}

// Expressions that are parts of themselves are not valid, and are the same as none.
func TestRule1Circles(t *testing.T) {
	for _, around := range []func(kids []api.Expr) api.Expr{
		func(kids []api.Expr) api.Expr { return api.Expr{Op: api.ECall, Name: "not", Kids: kids[:1]} },
		func(kids []api.Expr) api.Expr { return api.Expr{Op: api.ECall, Name: "f", Kids: kids} },
		func(kids []api.Expr) api.Expr { return api.Expr{Op: api.ECall, Name: "+", Kids: kids[:2]} },
		func(kids []api.Expr) api.Expr { return api.Expr{Op: api.EIndex, Kids: kids[:2]} },
		func(kids []api.Expr) api.Expr { return api.Expr{Op: api.ESlice, Kids: kids} },
	} {
		for _, place := range []int{0, 1, 2} {
			kids := []api.Expr{number(1), number(1), number(1)}
			e := around(kids)
			if place >= len(e.Kids) {
				continue
			}
			kids[place] = e
			_, textErr := Text(e)
			_, namesErr := Names(e)
			_, typeErr := TypeText(vecRef(e))
			if Valid(e) || IsTarget(e) || ValidType(vecRef(e)) || Same(e, e) || textErr != api.ErrArg || namesErr != api.ErrArg || typeErr != api.ErrArg {
				t.Errorf("%s is a part of itself", e.Name)
			}
		}
	}
	values, types, elements := make([]api.Value, 1), make([]api.Type, 1), make([]api.TypeRef, 1)
	values[0].List, types[0].Elem, elements[0] = values, types, arrayRef(number(1), api.TypeRef{})
	elements[0].Elem = elements
	for _, e := range []api.Expr{{Val: values[0]}, {Type: types[0]}} {
		if Same(e, e) || Valid(e) {
			t.Error("an expression with a value or type that is a part of itself")
		}
	}
	if ValidType(elements[0]) {
		t.Error("a type that is its own element is valid")
	}
}

// scribble overwrites everything that a result has.
func scribble(e *api.Expr) {
	for i := range e.Bits {
		e.Bits[i] = 77
	}
	for i := range e.Kids {
		scribble(&e.Kids[i])
	}
	*e = api.Expr{Op: 99, Kids: append(e.Kids, api.Expr{})}
}

// No argument is changed, and no result shares memory with one, or with another result.
func TestRule3Memory(t *testing.T) {
	s := "f ( a , b\"01xz\" ( 1 ) , '1' ) ( - 3 downto 0 ) + ( g ( 1 ) ) and a = b"
	l := lex(t, s)
	want, _, _ := expectedExpr(l, 0)
	for range 2 {
		e, _, _ := Parse(l, 0)
		if !equal(e, want) || !slices.Equal(l, lex(t, s)) {
			t.Fatalf("Parse(%s) = %v", s, e)
		}
		before := fmt.Sprint(e)
		text := textOf(t, e)
		names, _ := Names(e)
		target := index(call("q", e), e)
		if !Valid(e) || !IsTarget(target) || !ValidType(vecRef(e)) || !Same(e, want) || fmt.Sprint(e) != before {
			t.Fatalf("%v is now %v", before, e)
		}
		names[0] = "other"
		if again, _ := Names(e); again[0] != "f" || textOf(t, e) != text {
			t.Fatalf("results of Names share memory: %v", again)
		}
		scribble(&e)
	}
	clear(l)
	if e := parsed(t, s); !equal(e, want) {
		t.Errorf("Parse(%s) = %v", s, e)
	}
	l = lex(t, "array ( 4 ) of vec ( n ( '1' ) )")
	r, _, _ := Type(l, 0)
	scribble(&r.Len[0])
	scribble(&r.Elem[0].Len[0])
	if s, err := TypeText(typeOf(t, "array ( 4 ) of vec ( n ( '1' ) )", len(l))); s != "array ( 4 ) of vec ( n ( '1' ) )" || err != api.OK {
		t.Errorf("TypeText = %s, %d", s, err)
	}
}

// No two slices of one result share memory.
func TestRule3OneResult(t *testing.T) {
	kids, rows := map[*api.Expr]bool{}, map[*api.Bit]bool{}
	var look func(e api.Expr)
	look = func(e api.Expr) {
		if len(e.Bits) > 0 {
			if rows[&e.Bits[0]] {
				t.Error("two rows of bits are one")
			}
			rows[&e.Bits[0]] = true
		}
		for i := range e.Kids {
			if kids[&e.Kids[i]] {
				t.Error("two kids are one")
			}
			kids[&e.Kids[i]] = true
			look(e.Kids[i])
		}
	}
	look(parsed(t, "f ( b\"01\" , b\"01\" , '1' , '1' ) ( 1 downto 0 ) & '1' ( 0 ) & b\"01\" ( 1 ) ( 1 )"))
}
