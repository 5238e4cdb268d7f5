package parser

import (
	"fmt"
	"math/rand/v2"
	"reflect"
	"strings"
	"testing"

	"netwright/api"
)

// wantWhole checks that what is parsed is valid, that there is nothing beside a fault, and that the string of the units is parsed to the same.
func wantWhole(t *testing.T, s string) {
	t.Helper()
	l, fault := Parse(s)
	if fault != (api.Fault{}) {
		if len(l) > 0 || fault.Code == api.OK {
			t.Errorf("Parse(%.300q) = %d units, fault %v", s, len(l), fault)
		}
		return
	}
	if !Valid(l) {
		t.Errorf("what Parse(%.300q) gives is not valid", s)
	}
	if again, fault := Parse(textOf(l)); !Same(again, l) || fault != (api.Fault{}) {
		t.Errorf("Parse(%.300q) is the tree of %.300q", s, textOf(l))
	}
}

// others returns strings that are like a string of tokens with single blanks: each one with a token left out, doubled, moved or exchanged for another one.
func others(r *rand.Rand, s string) []string {
	words, all := wordsOf(s), wordsOf(kinds)
	var l []string
	for i := range words {
		before, behind := strings.Join(words[:i], " ")+" ", " "+strings.Join(words[i+1:], " ")
		there := r.IntN(len(words))
		l = append(l, before+behind, before+words[i]+" "+words[i]+behind, before+words[there]+behind)
		for range 4 {
			l = append(l, before+all[r.IntN(len(all))]+behind)
		}
	}
	return l
}

func TestP6_5Valid(t *testing.T) {
	r := newMaker(5).Rand
	for _, s := range corpus() {
		wantWhole(t, s)
		for _, other := range others(r, s) {
			wantWhole(t, other)
		}
	}
	for seed := range uint64(300) {
		m := newMaker(seed)
		if s, _ := placed(t, m.units(), m.gap); len(s) <= api.MaxText {
			wantWhole(t, s)
		}
	}
	for _, hole := range holes() {
		for _, e := range []string{"a", "( ( a ) )", "( a ) ( 1 )", "( a = b ) = c", "( - a ) ( 1 )", "007", "f ( a ) ( 1 ) ( 3 downto 0 )", "not not a", strings.Repeat("not ", api.MaxNest) + "a"} {
			s := strings.ReplaceAll(hole, "?", e)
			wantWhole(t, s)
			parsed(t, s)
		}
	}
}

func TestP6_6Beginnings(t *testing.T) {
	r := newMaker(6).Rand
	stays := func(s string) {
		t.Helper()
		_, fault := Parse(s)
		if fault.Code == api.OK || fault.Code == api.ErrEnd {
			return
		}
		for _, more := range []string{"", "end ;", "!", "\"", "b\"1\" \"", "module m port ( ) is begin end ;", "_ := 1", "--"} {
			wantFault(t, s+"\n"+more, fault)
		}
		if r.IntN(20) == 0 {
			wantFault(t, s+"\n"+strings.Repeat("x", api.MaxText-len(s)-1), fault)
		}
	}
	for _, s := range corpus() {
		words := wordsOf(s)
		for _, other := range others(r, s) {
			stays(other)
		}
		for i := range words {
			for _, bad := range []string{"!", "\"", "\"x", "b\"01", "b\"", "'", "'0", "12_", "1a", "2147483648", "\x00", strings.Repeat("z", 41), "-- \n\""} {
				stays(strings.Join(words[:i], " ") + " " + bad)
			}
		}
	}
	for _, f := range stmtForms() {
		stays(beforeStmts + strings.Repeat(f.before, api.MaxNest+1))
	}
	stays(beforeConcs + "q <= " + strings.Repeat("( ", api.MaxNest+1))
}

// Gaps between tokens change positions only, of faults too.
func TestP6_7Blanks(t *testing.T) {
	for seed := range uint64(300) {
		m := newMaker(seed)
		units := m.units()
		words, _ := written(units)
		plain := strings.Join(words, " ")
		if len(plain) > api.MaxText/8 {
			continue
		}
		want := parsed(t, plain)
		for range 3 {
			if s := spaced(words, m.gap); len(s) <= api.MaxText && !Same(parsed(t, s), want) {
				t.Errorf("Parse(%.1000q) is not as that of %.1000q", s, plain)
			}
		}
	}
}

func TestP6_7BlanksInFaults(t *testing.T) {
	m := newMaker(7)
	for _, s := range corpus() {
		for _, other := range others(m.Rand, s) {
			words := strings.Fields(other)
			_, want := Parse(other)
			spread := spaced(words, m.gap)
			if _, got := Parse(spread); got.Code != want.Code || got.Name != want.Name {
				t.Errorf("Parse(%.1000q): fault %v; that of %.1000q %v", spread, got, other, want)
			}
			if want.Code == api.ErrSyntax {
				line := len(strings.Fields(other[:want.Col-1])) + 1
				wantFault(t, strings.Join(words, "\n"), api.Fault{Code: want.Code, Name: want.Name, Line: line, Col: 1})
			}
		}
	}
}

// Any string has units or a fault.
func TestRule1AnyString(t *testing.T) {
	r := newMaker(1).Rand
	bytes := "aB1_ \n\t\"'b01xz:=<>/+-*&();,!\x00\xff-"
	words := append(wordsOf(kinds), "\n", "!", "--", "b\"", "(", ";", ";", "a", "a")
	for range 20000 {
		var s strings.Builder
		for range r.IntN(30) {
			if r.IntN(4) == 0 {
				s.WriteByte(bytes[r.IntN(len(bytes))])
			} else {
				s.WriteString(words[r.IntN(len(words))] + " ")
			}
		}
		wantWhole(t, s.String())
		wantWhole(t, beforeConcs+s.String())
		wantWhole(t, beforeStmts+s.String())
	}
	for n := range 3 {
		for _, word := range words {
			wantWhole(t, strings.Repeat(word+" ", api.MaxText/(len(word)+1)-n))
			wantWhole(t, beforeStmts+strings.Repeat(word+" ", 1000))
		}
	}
}

// Trees that are parts of themselves are not valid, and are the same as none.
func TestRule1Circles(t *testing.T) {
	stmts, bodies := make([]api.Stmt, 1), make([][]api.Stmt, 1)
	stmts[0], bodies[0] = api.Stmt{Op: api.SWhile, Expr: ex("a"), Bodies: bodies}, stmts
	concs := make([]api.Conc, 1)
	concs[0] = api.Conc{Op: api.CFor, Label: "g", Name: "k", Expr: ex("0"), Last: ex("1"), Then: concs}
	elses := make([]api.Conc, 1)
	elses[0] = api.Conc{Op: api.CIf, Label: "g", Expr: ex("0"), Else: elses}
	decls := make([]api.Decl, 2)
	decls[0] = api.Decl{Op: api.DFun, Name: "f", Params: []api.Param{{Name: "a", Ref: ty("t")}}, Ref: ty("t"), Decls: decls}
	decls[1] = decls[0]
	refs := make([]api.TypeRef, 1)
	refs[0] = api.TypeRef{Name: "array", Len: exs("1"), Elem: refs}
	kids := make([]api.Expr, 1)
	kids[0] = api.Expr{Op: api.ECall, Name: "not", Kids: kids}
	for _, u := range []api.Unit{
		module(process(stmts...)), module(concs...), module(elses...), pack(decls...),
		pack(api.Decl{Op: api.DVar, Name: "v", Ref: refs[0]}), pack(api.Decl{Op: api.DConst, Name: "c", Ref: ty("t"), Init: kids}),
		module(api.Conc{Op: api.CInst, Label: "l", Name: "n", Ports: kids}),
	} {
		l := []api.Unit{u}
		if Valid(l) || Same(l, l) {
			t.Errorf("%s is a part of itself", u.Name)
		}
		if i, err := Find(l, u.Name); i != 0 || err != api.OK {
			t.Errorf("Find = %d, %d", i, err)
		}
	}
}

// Functions in functions may be nested very deeply.
func TestRule1VeryDeep(t *testing.T) {
	var decls []api.Decl
	var stmts []api.Stmt
	for range 1 << 16 {
		decls = []api.Decl{{Op: api.DFun, Name: "f", Params: []api.Param{{Name: "a", Ref: ty("t")}}, Ref: ty("t"), Decls: decls}}
		stmts = []api.Stmt{{Op: api.SWhile, Bodies: [][]api.Stmt{stmts}}}
	}
	if l := []api.Unit{pack(decls...)}; !Valid(l) || !Same(l, l) {
		t.Error("functions in functions are valid, and the same")
	}
	if l := []api.Unit{module(process(stmts...))}; Valid(l) || !Same(l, l) {
		t.Error("statements in statements are not valid, but the same")
	}
}

// scribble overwrites what a tree has, and what is behind the last part of a list.
func scribble(v reflect.Value) {
	switch v.Kind() {
	case reflect.Slice:
		v.Set(reflect.Append(v, reflect.Zero(v.Type().Elem())))
	case reflect.String:
		v.SetString("scribbled")
	case reflect.Bool:
		v.SetBool(!v.Bool())
	case reflect.Int:
		v.SetInt(77)
	case reflect.Uint8:
		v.SetUint(77)
	}
}

// No argument is changed, and no result shares memory with another one, or with what is still to come.
func TestRule3Memory(t *testing.T) {
	for _, s := range corpus() {
		first, want := parsed(t, s), parsed(t, s)
		before := fmt.Sprint(first)
		Find(first, "m")
		if !Valid(first) || !Same(first, want) || fmt.Sprint(first) != before {
			t.Errorf("%s is now %v", before, first)
		}
		visit(reflect.ValueOf(&first).Elem(), scribble)
		if again := parsed(t, s); !equal(again, want) || !Valid(want) {
			t.Errorf("Parse(%s) = %+v", s, again)
		}
	}
}

// No two slices of one result share memory, also that behind their last parts.
func TestRule3OneResult(t *testing.T) {
	for _, s := range corpus() {
		l, want := parsed(t, s), parsed(t, s)
		seen := map[uintptr]bool{}
		visit(reflect.ValueOf(&l).Elem(), func(v reflect.Value) {
			if v.Kind() != reflect.Slice || v.Cap() == 0 {
				return
			}
			if seen[v.Pointer()] {
				t.Errorf("in %q two lists are one: %v", s, v)
			}
			seen[v.Pointer()] = true
			reflect.Append(v, reflect.Zero(v.Type().Elem()))
		})
		if !equal(l, want) {
			t.Errorf("%s has parts that share memory", s)
		}
	}
}
