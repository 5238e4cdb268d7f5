package parser

import (
	"math"
	"reflect"
	"slices"
	"strings"
	"testing"

	"netwright/api"
	"netwright/lexer"
)

// canBeParsed reports whether there is a string of which Parse gives the units, but for positions. Only what has a string of at most MaxText bytes may come here.
func canBeParsed(t *testing.T, l []api.Unit) bool {
	t.Helper()
	words, _ := written(l)
	s := strings.Join(words, " ")
	tokens, _ := lexer.Lex(s)
	if len(s) > api.MaxText {
		t.Fatalf("a string of %d bytes", len(s))
	}
	got, fault := Parse(s)
	return fault == (api.Fault{}) && len(tokens) == len(words) && alike(got, l)
}

// samples are units with one declaration, concurrent statement or statement each, in all forms with few parts.
func samples(t *testing.T) [][]api.Unit {
	var all [][]api.Unit
	for _, s := range []string{
		"package p is end ;",
		"module m port ( ) is begin end ;",
		"module m generic ( g : int ; h : vec ( 2 ) := a ) port ( a : in bit ; q : out t ) is use p ; begin q <= a ; end ;",
		"package p is const c : array ( 2 ) of vec ( n ) := a + 1 ; end ;",
		"package p is type t is ( a , b ) ; end ;",
		"package p is signal s : bit ; signal s : bit := '1' ; end ;",
		"package p is var v : bit ; var v : bit := b\"0z\" ; end ;",
		"package p is function f ( a : t ; b : u ) return t is var v : bit ; begin return f ( 1 , 2 ) ; end ; end ;",
		beforeConcs + "l : process is var v : t ; begin null ; end ; end ;",
		beforeConcs + "l : process ( all ) is begin end ; end ;",
		beforeConcs + "l : process ( a , b ) is begin end ; end ;",
		beforeConcs + "l : inst n port ( ) ; l : inst n generic ( 1 , a ) port ( b , s ( 3 downto 0 ) ) ; end ;",
		beforeConcs + "l : for k in 0 to n generate q <= a ; end ; end ;",
		beforeConcs + "l : if a generate q <= a ; else q <= b ; end ; end ;",
		beforeConcs + "q ( 1 ) <= transport a , b after 2 ; end ;",
		beforeConcs + "assert a report \"..\" ; end ;",
		beforeStmts + "v ( 1 ) ( 3 downto 0 ) := a ;" + behindStmts,
		beforeStmts + "q <= a after 1 , b ; q ( 1 ) <= c ;" + behindStmts,
		beforeStmts + "if a then null ; elsif b then else null ; end ;" + behindStmts,
		beforeStmts + "case a is when b , 1 => null ; when c => others => null ; end ;" + behindStmts,
		beforeStmts + "case a is end ;" + behindStmts,
		beforeStmts + "for i in 0 to 1 loop null ; end ;" + behindStmts,
		beforeStmts + "while a loop null ; end ;" + behindStmts,
		beforeStmts + "wait ; wait on a , b until c for 1 ;" + behindStmts,
		beforeStmts + "return not a ; assert a report \"\" ;" + behindStmts,
	} {
		all = append(all, parsed(t, s))
	}
	return all
}

// Each field of each sample is changed in several ways: the units are valid just if they can be parsed.
func TestP6_2EveryField(t *testing.T) {
	for _, l := range samples(t) {
		l = copied(l)
		valid, all := 0, 0
		change(reflect.ValueOf(&l).Elem(), "", func(field string) {
			want := canBeParsed(t, l)
			if Valid(l) != want {
				t.Errorf("%s with another %s: Valid is not %v", textOf(l), field, want)
			}
			if isPlaceName(field[strings.LastIndex(field, ".")+1:]) && !want {
				t.Errorf("%s with another position cannot be parsed", textOf(l))
			}
			all++
			if want {
				valid++
			}
		})
		if valid == 0 || all-valid < 10 {
			t.Errorf("%s: %d of %d changes are valid", textOf(l), valid, all)
		}
	}
}

func TestP6_2Valid(t *testing.T) {
	if !Valid(nil) || !Valid([]api.Unit{}) {
		t.Error("no units are valid")
	}
	for seed := range uint64(500) {
		l := newMaker(seed).units()
		if !Valid(l) || !Valid(emptied(l)) || !Valid(slices.Concat(l, l)) {
			t.Errorf("%s is valid", textOf(l))
		}
	}
	for _, s := range corpus() {
		if l := parsed(t, s); !Valid(l) || !Valid(bare(l)) || !Valid(emptied(l)) {
			t.Errorf("%s is valid", s)
		}
	}
}

// A unit that is not valid makes the others not valid, wherever it stands.
func TestP6_2Units(t *testing.T) {
	good := parsed(t, corpus()[3])
	for _, bad := range []api.Unit{{}, {Op: api.UPackage}, {Op: 3, Name: "p"}, {Op: -1, Name: "p"}, {Op: api.UPackage, Name: "end"}, {Op: api.UPackage, Name: "p", Ports: []api.Param{{Name: "a", Mode: api.In, Ref: ty("bit")}}}, {Op: math.MinInt, Name: "p"}} {
		for place := range len(good) + 1 {
			if l := slices.Insert(slices.Clone(good), place, bad); Valid(l) {
				t.Errorf("%+v is not valid", bad)
			}
		}
	}
}

// in returns units that have a statement, a concurrent statement or a declaration alone, in each kind of place.
func inStmt(s api.Stmt) [][]api.Unit {
	function := api.Decl{Op: api.DFun, Name: "f", Params: []api.Param{{Name: "a", Ref: ty("t")}}, Ref: ty("t"), Body: []api.Stmt{s}}
	all := inDecl(function)
	for _, around := range []api.Stmt{
		{Op: api.SIf, Conds: exs("a"), Bodies: [][]api.Stmt{{s}}},
		{Op: api.SIf, Conds: exs("a", "b"), Bodies: [][]api.Stmt{nil, {s}}},
		{Op: api.SIf, Conds: exs("a"), Bodies: [][]api.Stmt{nil, {s}}},
		{Op: api.SCase, Expr: ex("a"), Choices: [][]api.Expr{exs("b")}, Bodies: [][]api.Stmt{{s}}},
		{Op: api.SCase, Expr: ex("a"), Bodies: [][]api.Stmt{{s}}},
		{Op: api.SFor, Name: "i", Expr: ex("0"), Last: ex("1"), Bodies: [][]api.Stmt{{s}}},
		{Op: api.SWhile, Expr: ex("a"), Bodies: [][]api.Stmt{{{Op: api.SNull}, s}}},
		s,
	} {
		all = append(all, inConc(process(around))...)
	}
	return all
}

func inConc(c api.Conc) [][]api.Unit {
	all := [][]api.Unit{{module(c)}}
	for _, around := range []api.Conc{
		{Op: api.CFor, Label: "g", Name: "k", Expr: ex("0"), Last: ex("1"), Then: []api.Conc{c}},
		{Op: api.CIf, Label: "h", Expr: ex("a"), Then: []api.Conc{c}},
		{Op: api.CIf, Label: "h", Expr: ex("a"), Else: []api.Conc{c}},
	} {
		all = append(all, []api.Unit{module(around)})
	}
	return all
}

func inDecl(d api.Decl) [][]api.Unit {
	inProcess := process()
	inProcess.Decls = []api.Decl{d}
	function := api.Decl{Op: api.DFun, Name: "f", Params: []api.Param{{Name: "a", Ref: ty("t")}}, Ref: ty("t"), Decls: []api.Decl{d}}
	all := [][]api.Unit{{pack(d)}, {pack(function)}, {{Op: api.UModule, Name: "m", Decls: []api.Decl{d}}}}
	return append(all, inConc(inProcess)...)
}

// What is not valid is not valid in any place, however deep.
func TestP6_2EveryPlace(t *testing.T) {
	wanted := func(want bool, all [][]api.Unit) {
		t.Helper()
		for _, l := range all {
			if Valid(l) != want || canBeParsed(t, l) != want {
				t.Errorf("Valid of %s is not %v", textOf(l), want)
			}
		}
	}
	null := api.Stmt{Op: api.SNull}
	wanted(true, inStmt(null))
	wanted(true, inConc(process(null)))
	wanted(true, inDecl(api.Decl{Op: api.DUse, Name: "u"}))
	for _, s := range []api.Stmt{{}, {Op: 11}, {Op: -1}, {Op: api.SNull, Text: "a"}, {Op: api.SNull, N: 1}, {Op: api.SReturn}, {Op: api.SSig, Target: ex("q")}, {Op: api.SSig, Target: ex("1"), Waves: []api.Wave{{Expr: ex("a")}}}, {Op: api.SVar, Target: ex("f ( 1 , 2 )"), Expr: ex("a")}, {Op: api.SVar, Target: ex("a + b"), Expr: ex("a")}, {Op: api.SVar, Target: ex("( a + b ) ( 1 )"), Expr: ex("a")}, {Op: api.SIf}, {Op: api.SWait, Until: exs("a", "b")}, {Op: api.SFor, N: 1, Name: "i", Expr: ex("0"), Last: ex("1"), Bodies: [][]api.Stmt{nil}}, {Op: api.SAssert, Expr: ex("a"), Text: strings.Repeat("a", 61)}, {Op: api.SAssert, Expr: ex("a"), Text: "\n"}, {Op: api.SReturn, Expr: api.Expr{Op: api.EValue}}, {Op: api.SReturn, Expr: api.Expr{Op: api.ESig}}} {
		wanted(false, inStmt(s))
	}
	assignment := assign("q", "a")
	for _, c := range []api.Conc{{}, {Op: 7, Label: "l"}, {Op: -1, Label: "l"}, {Op: api.CProcess}, {Op: api.CProcess, Label: "end"}, {Op: api.CProcess, Label: "l", All: true, Sens: exs("a")}, {Op: api.CProcess, Label: "l", Sens: exs("a ( 1 )")}, {Op: api.CAssign}, {Op: api.CAssign, Label: "l", Body: []api.Stmt{assignment}}, {Op: api.CAssign, Body: []api.Stmt{null}}, {Op: api.CAssign, Body: []api.Stmt{assignment, assignment}}, {Op: api.CAssign, Body: []api.Stmt{{Op: api.SVar, Target: ex("q"), Expr: ex("a")}}}, {Op: api.CAssert, Body: []api.Stmt{assignment}}, {Op: api.CAssert}, {Op: api.CInst, Label: "l"}, {Op: api.CFor, Label: "l", Name: "k", Expr: ex("0")}, {Op: api.CIf, Label: "l"}, {Op: api.CIf, Label: "l", Name: "k", Expr: ex("a")}, {Op: api.CAssert, Name: "a", Body: []api.Stmt{{Op: api.SAssert, Expr: ex("a")}}}} {
		wanted(false, inConc(c))
	}
	param := api.Param{Name: "a", Ref: ty("t")}
	arrays := ty("array ( 2 ) of bit")
	arrays.Elem[0] = copied(arrays)
	for _, d := range []api.Decl{{}, {Op: 7, Name: "d"}, {Op: -1, Name: "d"}, {Op: api.DUse}, {Op: api.DUse, Name: "a b"}, {Op: api.DConst, Name: "c", Ref: ty("t")}, {Op: api.DConst, Name: "c", Ref: ty("t"), Init: exs("1", "2")}, {Op: api.DConst, Name: "c", Init: exs("1")}, {Op: api.DType, Name: "t"}, {Op: api.DType, Name: "t", Names: []string{"a", "1"}}, {Op: api.DVar, Name: "v", Ref: ty("t"), Names: []string{"a"}}, {Op: api.DSignal, Name: "s", Ref: arrays}, {Op: api.DFun, Name: "f", Ref: ty("t")}, {Op: api.DFun, Name: "f", Params: []api.Param{{Name: "a", Mode: api.In, Ref: ty("t")}}, Ref: ty("t")}, {Op: api.DFun, Name: "f", Params: []api.Param{{Name: "a", Ref: ty("t"), Init: exs("1")}}, Ref: ty("t")}, {Op: api.DFun, Name: "f", Params: []api.Param{param}}, {Op: api.DUse, Name: "u", Params: []api.Param{param}}} {
		wanted(false, inDecl(d))
	}
}

// A tree may be of a text of any length.
func TestP6_2Long(t *testing.T) {
	many := slices.Repeat([]api.Conc{process(slices.Repeat([]api.Stmt{assign("q", "a")}, 200)...)}, 200)
	unit := module(many...)
	unit.Name = strings.Repeat("m", 40)
	l := slices.Repeat([]api.Unit{unit}, 3)
	if !Valid(l) {
		t.Error("many statements are valid")
	}
	many[199].Body = append(many[199].Body, api.Stmt{Op: api.SVar, Target: ex("v"), Expr: ex("1"), N: 1})
	if Valid(l) {
		t.Error("many statements with one that is not valid are valid")
	}
	if ports := (api.Conc{Op: api.CInst, Label: "l", Name: "n", Ports: slices.Repeat(exs("a"), 50000)}); !Valid([]api.Unit{module(ports)}) {
		t.Error("many ports are valid")
	}
	function := api.Decl{Op: api.DFun, Name: "f", Params: []api.Param{{Name: "a", Ref: ty("t")}}, Ref: ty("t")}
	if !Valid([]api.Unit{pack(slices.Repeat([]api.Decl{function}, 1<<17+1)...)}) {
		t.Error("many functions are valid")
	}
	if names := (api.Decl{Op: api.DType, Name: "t", Names: slices.Repeat([]string{"a"}, 50000)}); !Valid([]api.Unit{pack(names)}) {
		t.Error("many names are valid")
	}
}

// wraps put a body into a statement, each in another way.
func wraps() []func(body []api.Stmt) api.Stmt {
	return []func(body []api.Stmt) api.Stmt{
		func(body []api.Stmt) api.Stmt {
			return api.Stmt{Op: api.SIf, Conds: exs("a"), Bodies: [][]api.Stmt{body}}
		},
		func(body []api.Stmt) api.Stmt {
			return api.Stmt{Op: api.SIf, Conds: exs("a", "b"), Bodies: [][]api.Stmt{nil, body}}
		},
		func(body []api.Stmt) api.Stmt {
			return api.Stmt{Op: api.SIf, Conds: exs("a"), Bodies: [][]api.Stmt{nil, body}}
		},
		func(body []api.Stmt) api.Stmt {
			return api.Stmt{Op: api.SCase, Expr: ex("a"), Choices: [][]api.Expr{exs("b")}, Bodies: [][]api.Stmt{body}}
		},
		func(body []api.Stmt) api.Stmt {
			return api.Stmt{Op: api.SCase, Expr: ex("a"), Bodies: [][]api.Stmt{body}}
		},
		func(body []api.Stmt) api.Stmt {
			return api.Stmt{Op: api.SFor, Name: "i", Expr: ex("0"), Last: ex("1"), Bodies: [][]api.Stmt{body}}
		},
		func(body []api.Stmt) api.Stmt {
			return api.Stmt{Op: api.SWhile, Expr: ex("a"), Bodies: [][]api.Stmt{body}}
		},
	}
}

// concWraps put a body into a generate statement.
func concWraps() []func(body []api.Conc) api.Conc {
	return []func(body []api.Conc) api.Conc{
		func(body []api.Conc) api.Conc {
			return api.Conc{Op: api.CFor, Label: "g", Name: "k", Expr: ex("0"), Last: ex("1"), Then: body}
		},
		func(body []api.Conc) api.Conc { return api.Conc{Op: api.CIf, Label: "h", Expr: ex("a"), Then: body} },
		func(body []api.Conc) api.Conc { return api.Conc{Op: api.CIf, Label: "h", Expr: ex("a"), Else: body} },
	}
}

// wrapped returns a body in so many others.
func wrapped[T any](n int, body []T, wrap func(body []T) T) []T {
	for range n {
		body = []T{wrap(body)}
	}
	return body
}

func TestP6_2Deep(t *testing.T) {
	wanted := func(want bool, c ...api.Conc) {
		t.Helper()
		if l := []api.Unit{module(c...)}; Valid(l) != want || canBeParsed(t, l) != want {
			t.Errorf("Valid of %s is not %v", textOf(l), want)
		}
	}
	empty := api.Stmt{Op: api.SCase, Expr: ex("a")}
	for _, wrap := range wraps() {
		wanted(true, process(wrapped(api.MaxNest, nil, wrap)...))
		wanted(true, process(wrapped(api.MaxNest, []api.Stmt{empty, empty}, wrap)...))
		wanted(false, process(wrapped(api.MaxNest+1, nil, wrap)...))
		for _, inner := range wraps() {
			wanted(false, process(wrapped(api.MaxNest, []api.Stmt{inner(nil)}, wrap)...))
			wanted(true, process(wrapped(api.MaxNest-1, []api.Stmt{inner(nil), inner(nil)}, wrap)...))
		}
		for _, outer := range concWraps() {
			wanted(true, wrapped(7, []api.Conc{process(wrapped(api.MaxNest-7, nil, wrap)...)}, outer)...)
			wanted(false, wrapped(8, []api.Conc{process(wrapped(api.MaxNest-7, nil, wrap)...)}, outer)...)
		}
	}
	for _, wrap := range concWraps() {
		wanted(true, wrapped(api.MaxNest, nil, wrap)...)
		wanted(true, wrapped(api.MaxNest, []api.Conc{process(api.Stmt{Op: api.SNull})}, wrap)...)
		wanted(false, wrapped(api.MaxNest+1, nil, wrap)...)
	}
}

func TestP6_2DeepExpressions(t *testing.T) {
	deep := func(n int) api.Expr {
		e := ex("a")
		for range n {
			e = api.Expr{Op: api.ECall, Name: "not", Kids: []api.Expr{e}}
		}
		return e
	}
	for i, hole := range slices.Concat(holes(), bracketHoles()) {
		most := api.MaxNest
		if i >= len(holes()) {
			most--
		}
		for n, want := range map[int]bool{0: true, most: true, most + 1: false, most + 100: false} {
			l := with(parsed(t, strings.ReplaceAll(hole, "?", "marked")), func(v reflect.Value) {
				if e, isExpr := v.Interface().(api.Expr); isExpr && e.Name == "marked" {
					v.Set(reflect.ValueOf(deep(n)))
				}
			})
			if Valid(l) != want || canBeParsed(t, l) != want {
				t.Errorf("with an expression %d deep Valid of %s is not %v", n, hole, want)
			}
		}
	}
}
