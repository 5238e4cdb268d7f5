package parser

import (
	"slices"
	"strings"
	"testing"

	"netwright/api"
)

// wantUnits checks the units of a string, but for positions.
func wantUnits(t *testing.T, s string, want ...api.Unit) {
	t.Helper()
	if l := parsed(t, s); !alike(l, want) {
		t.Errorf("Parse(%s) = %+v; want %+v", s, bare(l), want)
	}
}

// module returns one without generics, ports and declarations.
func module(body ...api.Conc) api.Unit {
	return api.Unit{Op: api.UModule, Name: "m", Body: body}
}

// pack returns a package.
func pack(decls ...api.Decl) api.Unit {
	return api.Unit{Op: api.UPackage, Name: "p", Decls: decls}
}

func process(body ...api.Stmt) api.Conc {
	return api.Conc{Op: api.CProcess, Label: "l", Body: body}
}

func assign(target string, values ...string) api.Stmt {
	s := api.Stmt{Op: api.SSig, Target: ex(target)}
	for _, value := range values {
		s.Waves = append(s.Waves, api.Wave{Expr: ex(value)})
	}
	return s
}

// The strings around declarations, concurrent statements and statements.
const (
	beforeDecls = "package p is "
	beforeConcs = "module m port ( ) is begin "
	beforeStmts = beforeConcs + "l : process is begin "
	behindStmts = " end ; end ;"
	behindOne   = " end ;"
)

func TestP6_1Examples(t *testing.T) {
	s := "module m port ( a : in bit ; q : out bit ) is begin q <= not a ; end ;"
	at := func(e api.Expr, col int) api.Expr {
		e.Line, e.Col = 1, col
		return e
	}
	bit := func(col int) api.TypeRef { return api.TypeRef{Name: "bit", Line: 1, Col: col} }
	not := at(api.Expr{Op: api.ECall, Name: "not", Kids: []api.Expr{at(ex("a"), 62)}}, 58)
	want := []api.Unit{{Op: api.UModule, Name: "m", Line: 1, Col: 1,
		Ports: []api.Param{{Name: "a", Mode: api.In, Ref: bit(24), Line: 1, Col: 17}, {Name: "q", Mode: api.Out, Ref: bit(38), Line: 1, Col: 30}},
		Body: []api.Conc{{Op: api.CAssign, Line: 1, Col: 53, Body: []api.Stmt{
			{Op: api.SSig, Target: at(ex("q"), 53), Waves: []api.Wave{{Expr: not}}, Line: 1, Col: 53},
		}}},
	}}
	if l := parsed(t, s); !equal(l, want) {
		t.Errorf("Parse(%s) = %+v; want %+v", s, l, want)
	}
	wantFault(t, "module m port ( ) is begin end", api.Fault{Code: api.ErrEnd, Line: 1, Col: 31})
	wantFault(t, "module 3", api.Fault{Code: api.ErrSyntax, Name: "3", Line: 1, Col: 8})
}

func TestP6_1Units(t *testing.T) {
	typed := func(name, ref string) api.Param { return api.Param{Name: name, Ref: ty(ref)} }
	port := func(name string, mode api.Mode, ref string) api.Param {
		return api.Param{Name: name, Mode: mode, Ref: ty(ref)}
	}
	first := typed("g", "int")
	first.Init = exs("1 + 2")
	for s, want := range map[string][]api.Unit{
		"":                             nil,
		" \n\t\r":                      nil,
		"-- end":                       nil,
		"--\n -- module m":             nil,
		"package p is end ;":           {pack()},
		"package p is use q ; end ;":   {pack(api.Decl{Op: api.DUse, Name: "q"})},
		"module m port()is begin end;": {module()},
		"module m generic ( a : int ) port ( ) is begin end ;":                   {{Op: api.UModule, Name: "m", Generics: []api.Param{typed("a", "int")}}},
		"module m generic ( g : int := 1 + 2 ; h : t ) port ( ) is begin end ;":  {{Op: api.UModule, Name: "m", Generics: []api.Param{first, typed("h", "t")}}},
		"module m port ( a : in vec ( 3 ) ) is begin end ;":                      {{Op: api.UModule, Name: "m", Ports: []api.Param{port("a", api.In, "vec ( 3 )")}}},
		"module m port ( a : out bit ; b : in t ; c : out u ) is begin end ;":    {{Op: api.UModule, Name: "m", Ports: []api.Param{port("a", api.Out, "bit"), port("b", api.In, "t"), port("c", api.Out, "u")}}},
		"module m port ( ) is use q ; use r ; begin end ;":                       {{Op: api.UModule, Name: "m", Decls: []api.Decl{{Op: api.DUse, Name: "q"}, {Op: api.DUse, Name: "r"}}}},
		"module m port ( ) is begin l : process is begin end ; q <= a ; end ;":   {module(process(), api.Conc{Op: api.CAssign, Body: []api.Stmt{assign("q", "a")}})},
		"package p is end ; module m port ( ) is begin end ; package p is end ;": {pack(), module(), pack()},
	} {
		wantUnits(t, s, want...)
	}
}

func TestP6_1Decls(t *testing.T) {
	args := []api.Param{{Name: "a", Ref: ty("bit")}, {Name: "b", Ref: ty("vec ( 2 )")}}
	returns := []api.Stmt{{Op: api.SReturn, Expr: ex("a")}}
	variable := api.Decl{Op: api.DVar, Name: "v", Ref: ty("bit")}
	for s, want := range map[string]api.Decl{
		"const c : int := - 1 ;":                              {Op: api.DConst, Name: "c", Ref: ty("int"), Init: exs("- 1")},
		"const c : array ( 2 ) of bit := d ;":                 {Op: api.DConst, Name: "c", Ref: ty("array ( 2 ) of bit"), Init: exs("d")},
		"type t is ( a ) ;":                                   {Op: api.DType, Name: "t", Names: []string{"a"}},
		"type t is ( a , b , a ) ;":                           {Op: api.DType, Name: "t", Names: []string{"a", "b", "a"}},
		"type t is ( " + strings.Repeat("a , ", 40) + "b ) ;": {Op: api.DType, Name: "t", Names: append(slices.Repeat([]string{"a"}, 40), "b")},
		"signal s : vec ( n + 1 ) ;":                          {Op: api.DSignal, Name: "s", Ref: ty("vec ( n + 1 )")},
		"signal s : bit := '1' ;":                             {Op: api.DSignal, Name: "s", Ref: ty("bit"), Init: exs("'1'")},
		"var v : bit ;":                                       variable,
		"var v : t := f ( 1 , 2 ) ;":                          {Op: api.DVar, Name: "v", Ref: ty("t"), Init: exs("f ( 1 , 2 )")},
		"use u ;":                                             {Op: api.DUse, Name: "u"},
		"function f ( a : bit ) return bit is begin end ;":    {Op: api.DFun, Name: "f", Params: args[:1], Ref: ty("bit")},
		"function f ( a : bit ; b : vec ( 2 ) ) return array ( 2 ) of t is begin return a ; end ;":   {Op: api.DFun, Name: "f", Params: args, Ref: ty("array ( 2 ) of t"), Body: returns},
		"function f ( a : bit ) return t is var v : bit ; use u ; begin return a ; return a ; end ;": {Op: api.DFun, Name: "f", Params: args[:1], Ref: ty("t"), Decls: []api.Decl{variable, {Op: api.DUse, Name: "u"}}, Body: slices.Repeat(returns, 2)},
		"function f ( a : bit ) return t is function g ( a : bit ) return u is begin return a ; end ; begin end ;": {Op: api.DFun, Name: "f", Params: args[:1], Ref: ty("t"), Decls: []api.Decl{
			{Op: api.DFun, Name: "g", Params: args[:1], Ref: ty("u"), Body: returns},
		}},
	} {
		wantUnits(t, beforeDecls+s+behindOne, pack(want))
		wantUnits(t, beforeDecls+s+"use u ;"+s+behindOne, pack(want, api.Decl{Op: api.DUse, Name: "u"}, want))
		wantUnits(t, "module m port ( ) is "+s+s+"begin end ;", api.Unit{Op: api.UModule, Name: "m", Decls: []api.Decl{want, want}})
		wantUnits(t, beforeConcs+"l : process is "+s+s+"begin end ; end ;", module(api.Conc{Op: api.CProcess, Label: "l", Decls: []api.Decl{want, want}}))
		wantUnits(t, beforeDecls+"function f ( a : bit ) return bit is "+s+"begin end ; end ;", pack(api.Decl{Op: api.DFun, Name: "f", Params: args[:1], Ref: ty("bit"), Decls: []api.Decl{want}}))
	}
}

func TestP6_1Concs(t *testing.T) {
	null := api.Stmt{Op: api.SNull}
	inner := api.Conc{Op: api.CAssign, Body: []api.Stmt{assign("q", "a")}}
	waves := api.Stmt{Op: api.SSig, Target: ex("q ( 1 ) ( 3 downto 0 )"), Transport: true, Waves: []api.Wave{{Expr: ex("'0'"), After: exs("2 * t")}, {Expr: ex("a <= b")}}}
	for s, want := range map[string]api.Conc{
		"l : process is begin end ;":                                    process(),
		"l : process is begin null ; null ; end ;":                      process(null, null),
		"l : process ( all ) is begin end ;":                            {Op: api.CProcess, Label: "l", All: true},
		"l : process ( a ) is begin null ; end ;":                       {Op: api.CProcess, Label: "l", Sens: exs("a"), Body: []api.Stmt{null}},
		"l : process ( a , b , a ) is use u ; begin end ;":              {Op: api.CProcess, Label: "l", Sens: exs("a", "b", "a"), Decls: []api.Decl{{Op: api.DUse, Name: "u"}}},
		"l : inst n port ( ) ;":                                         {Op: api.CInst, Label: "l", Name: "n"},
		"l : inst n port ( a & '1' ) ;":                                 {Op: api.CInst, Label: "l", Name: "n", Ports: exs("a & '1'")},
		"l : inst n generic ( 1 ) port ( a , f ( b , c ) , d ( 1 ) ) ;": {Op: api.CInst, Label: "l", Name: "n", Generics: exs("1"), Ports: exs("a", "f ( b , c )", "d ( 1 )")},
		"l : inst n generic ( 1 , k + 1 ) port ( ) ;":                   {Op: api.CInst, Label: "l", Name: "n", Generics: exs("1", "k + 1")},
		"l : for k in 0 to n - 1 generate end ;":                        {Op: api.CFor, Label: "l", Name: "k", Expr: ex("0"), Last: ex("n - 1")},
		"l : for k in a to b generate q <= a ; q <= a ; end ;":          {Op: api.CFor, Label: "l", Name: "k", Expr: ex("a"), Last: ex("b"), Then: []api.Conc{inner, inner}},
		"l : if a = b generate end ;":                                   {Op: api.CIf, Label: "l", Expr: ex("a = b")},
		"l : if a generate q <= a ; end ;":                              {Op: api.CIf, Label: "l", Expr: ex("a"), Then: []api.Conc{inner}},
		"l : if a generate else end ;":                                  {Op: api.CIf, Label: "l", Expr: ex("a")},
		"l : if a generate else q <= a ; end ;":                         {Op: api.CIf, Label: "l", Expr: ex("a"), Else: []api.Conc{inner}},
		"l : if a generate q <= a ; q <= a ; else q <= a ; end ;":       {Op: api.CIf, Label: "l", Expr: ex("a"), Then: []api.Conc{inner, inner}, Else: []api.Conc{inner}},
		"l : if a generate l : process is begin end ; end ;":            {Op: api.CIf, Label: "l", Expr: ex("a"), Then: []api.Conc{process()}},
		"q <= a ;":             inner,
		"q <= a , b , c + 1 ;": {Op: api.CAssign, Body: []api.Stmt{assign("q", "a", "b", "c + 1")}},
		"q ( 1 ) ( 3 downto 0 ) <= transport '0' after 2 * t , a <= b ;": {Op: api.CAssign, Body: []api.Stmt{waves}},
		"assert a = '1' report \"a ; b\" ;":                              {Op: api.CAssert, Body: []api.Stmt{{Op: api.SAssert, Expr: ex("a = '1'"), Text: "a ; b"}}},
		"assert false report \"\" ;":                                     {Op: api.CAssert, Body: []api.Stmt{{Op: api.SAssert, Expr: ex("false")}}},
	} {
		wantUnits(t, beforeConcs+s+behindOne, module(want))
		wantUnits(t, beforeConcs+s+"q <= a ;"+s+behindOne, module(want, inner, want))
		wantUnits(t, beforeConcs+"g : if a generate "+s+s+"else "+s+"end ; end ;", module(api.Conc{Op: api.CIf, Label: "g", Expr: ex("a"), Then: []api.Conc{want, want}, Else: []api.Conc{want}}))
		wantUnits(t, beforeConcs+"g : for k in 1 to 2 generate "+s+s+"end ; end ;", module(api.Conc{Op: api.CFor, Label: "g", Name: "k", Expr: ex("1"), Last: ex("2"), Then: []api.Conc{want, want}}))
	}
}

func TestP6_1Stmts(t *testing.T) {
	null := api.Stmt{Op: api.SNull}
	one, two := []api.Stmt{null}, []api.Stmt{null, null}
	variable := api.Stmt{Op: api.SVar, Target: ex("v"), Expr: ex("a")}
	for s, want := range map[string]api.Stmt{
		"v := a ;":                                  variable,
		"v ( i ) := a + 1 ;":                        {Op: api.SVar, Target: ex("v ( i )"), Expr: ex("a + 1")},
		"v ( 3 downto 0 ) ( i ) := a <= b ;":        {Op: api.SVar, Target: ex("v ( 3 downto 0 ) ( i )"), Expr: ex("a <= b")},
		"q <= a ;":                                  assign("q", "a"),
		"q <= a <= b ;":                             assign("q", "a <= b"),
		"q ( 1 ) <= a , b ;":                        assign("q ( 1 )", "a", "b"),
		"q <= transport a ;":                        {Op: api.SSig, Target: ex("q"), Transport: true, Waves: []api.Wave{{Expr: ex("a")}}},
		"q <= a after 1 , b after 2 ;":              {Op: api.SSig, Target: ex("q"), Waves: []api.Wave{{Expr: ex("a"), After: exs("1")}, {Expr: ex("b"), After: exs("2")}}},
		"q <= a , b after t , c ;":                  {Op: api.SSig, Target: ex("q"), Waves: []api.Wave{{Expr: ex("a")}, {Expr: ex("b"), After: exs("t")}, {Expr: ex("c")}}},
		"if a then end ;":                           {Op: api.SIf, Conds: exs("a"), Bodies: [][]api.Stmt{nil}},
		"if a then null ; end ;":                    {Op: api.SIf, Conds: exs("a"), Bodies: [][]api.Stmt{one}},
		"if a then else end ;":                      {Op: api.SIf, Conds: exs("a"), Bodies: [][]api.Stmt{nil, nil}},
		"if a then null ; else null ; null ; end ;": {Op: api.SIf, Conds: exs("a"), Bodies: [][]api.Stmt{one, two}},
		"if a then null ; elsif b then end ;":       {Op: api.SIf, Conds: exs("a", "b"), Bodies: [][]api.Stmt{one, nil}},
		"if a = b then elsif c then null ; elsif d then null ; null ; else null ; end ;": {Op: api.SIf, Conds: exs("a = b", "c", "d"), Bodies: [][]api.Stmt{nil, one, two, one}},
		"case a is end ;":                                               {Op: api.SCase, Expr: ex("a")},
		"case a & b is others => end ;":                                 {Op: api.SCase, Expr: ex("a & b"), Bodies: [][]api.Stmt{nil}},
		"case a is when 1 => null ; end ;":                              {Op: api.SCase, Expr: ex("a"), Choices: [][]api.Expr{exs("1")}, Bodies: [][]api.Stmt{one}},
		"case a is when 1 , 2 + 3 , c => when d => null ; null ; end ;": {Op: api.SCase, Expr: ex("a"), Choices: [][]api.Expr{exs("1", "2 + 3", "c"), exs("d")}, Bodies: [][]api.Stmt{nil, two}},
		"case a is when '1' => null ; others => null ; null ; end ;":    {Op: api.SCase, Expr: ex("a"), Choices: [][]api.Expr{exs("'1'")}, Bodies: [][]api.Stmt{one, two}},
		"for i in 0 to n - 1 loop end ;":                                {Op: api.SFor, Name: "i", Expr: ex("0"), Last: ex("n - 1"), Bodies: [][]api.Stmt{nil}},
		"for i in a to b loop null ; null ; end ;":                      {Op: api.SFor, Name: "i", Expr: ex("a"), Last: ex("b"), Bodies: [][]api.Stmt{two}},
		"while a < b loop end ;":                                        {Op: api.SWhile, Expr: ex("a < b"), Bodies: [][]api.Stmt{nil}},
		"while true loop null ; end ;":                                  {Op: api.SWhile, Expr: ex("true"), Bodies: [][]api.Stmt{one}},
		"wait ;":                                                        {Op: api.SWait},
		"wait on a ;":                                                   {Op: api.SWait, On: exs("a")},
		"wait on a , b , a ;":                                           {Op: api.SWait, On: exs("a", "b", "a")},
		"wait until a = b ;":                                            {Op: api.SWait, Until: exs("a = b")},
		"wait for 3 ;":                                                  {Op: api.SWait, For: exs("3")},
		"wait on a until b ;":                                           {Op: api.SWait, On: exs("a"), Until: exs("b")},
		"wait on a for 3 ;":                                             {Op: api.SWait, On: exs("a"), For: exs("3")},
		"wait until b for 3 ;":                                          {Op: api.SWait, Until: exs("b"), For: exs("3")},
		"wait on a , c until b for n + 1 ;":                             {Op: api.SWait, On: exs("a", "c"), Until: exs("b"), For: exs("n + 1")},
		"return f ( a , b ) ;":                                          {Op: api.SReturn, Expr: ex("f ( a , b )")},
		"assert a report \"x y\" ;":                                     {Op: api.SAssert, Expr: ex("a"), Text: "x y"},
		"null ;":                                                        null,
		"if a then while b loop case c is when d => for i in e to f loop v := a ; end ; end ; end ; end ;": {Op: api.SIf, Conds: exs("a"), Bodies: [][]api.Stmt{{
			{Op: api.SWhile, Expr: ex("b"), Bodies: [][]api.Stmt{{{Op: api.SCase, Expr: ex("c"), Choices: [][]api.Expr{exs("d")}, Bodies: [][]api.Stmt{{
				{Op: api.SFor, Name: "i", Expr: ex("e"), Last: ex("f"), Bodies: [][]api.Stmt{{variable}}},
			}}}}}},
		}}},
	} {
		wantUnits(t, beforeStmts+s+behindStmts, module(process(want)))
		wantUnits(t, beforeStmts+s+"null ;"+s+behindStmts, module(process(want, null, want)))
		wantUnits(t, beforeStmts+"if a then "+s+s+"elsif b then "+s+"else "+s+s+"end ;"+behindStmts, module(process(api.Stmt{Op: api.SIf, Conds: exs("a", "b"), Bodies: [][]api.Stmt{{want, want}, {want}, {want, want}}})))
		wantUnits(t, beforeStmts+"case a is when b => "+s+"when c => "+s+s+"others => "+s+s+"end ;"+behindStmts, module(process(api.Stmt{Op: api.SCase, Expr: ex("a"), Choices: [][]api.Expr{exs("b"), exs("c")}, Bodies: [][]api.Stmt{{want}, {want, want}, {want, want}}})))
		wantUnits(t, beforeStmts+"while a loop "+s+s+"end ;"+behindStmts, module(process(api.Stmt{Op: api.SWhile, Expr: ex("a"), Bodies: [][]api.Stmt{{want, want}}})))
		wantUnits(t, beforeStmts+"for i in 0 to 1 loop "+s+s+"end ;"+behindStmts, module(process(api.Stmt{Op: api.SFor, Name: "i", Expr: ex("0"), Last: ex("1"), Bodies: [][]api.Stmt{{want, want}}})))
		wantUnits(t, beforeDecls+"function f ( a : bit ) return t is begin "+s+s+"end ; end ;", pack(api.Decl{Op: api.DFun, Name: "f", Params: []api.Param{{Name: "a", Ref: ty("bit")}}, Ref: ty("t"), Body: []api.Stmt{want, want}}))
	}
}
