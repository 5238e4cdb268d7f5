package printer

import (
	"reflect"
	"slices"
	"strings"
	"testing"

	"netwright/api"
	"netwright/parser"
)

func TestP7_1Examples(t *testing.T) {
	wantText(t, "module m port ( a : in bit ; q : out bit ) is\nbegin\n  q <= not a ;\nend ;\n")
	wantPrint(t, parsed(t, "module m port ( a : in bit ; q : out bit ) is begin q <= not a ; end ;"), "module m port ( a : in bit ; q : out bit ) is\nbegin\n  q <= not a ;\nend ;\n")
	wantPrint(t, nil, "")
	wantPrint(t, []api.Unit{}, "")
}

// Each kind of line, with all that can stand in each body.
func TestP7_1Lines(t *testing.T) {
	lines := []string{
		"package p is",
		"  const c : int := - 1 ;",
		"  type t is ( a , b , c ) ;",
		"  use q ;",
		"  function f ( x : int ; y : t ) return vec ( n + 1 ) is",
		"    var v : array ( 2 ) of vec ( 3 ) := w ;",
		"    type u is ( d ) ;",
		"    function g ( x : int ) return int is",
		"    begin",
		"    end ;",
		"  begin",
		"    if x = 1 then",
		"      case y is",
		"      when a , b =>",
		"        while x < 3 loop",
		"          for i in 0 to 7 loop",
		"            null ;",
		"          end ;",
		"          v ( 1 ) ( 2 downto 0 ) := b\"01x\" ;",
		"        end ;",
		"      when c =>",
		"      others =>",
		"        return v ( 0 ) ;",
		"      end ;",
		"      assert a /= b report \"end ; is  begin\" ;",
		"    elsif x = 2 then",
		"    elsif x = 3 then",
		"      return v ( 1 ) ;",
		"    else",
		"      case y is",
		"      end ;",
		"    end ;",
		"  end ;",
		"end ;",
		"module m generic ( g : int := 1 ; h : t ) port ( a : in bit ; q , r ) is",
		"  signal s : vec ( g ) := b\"0z\" ;",
		"  signal t : bit ;",
		"begin",
		"  l : process is",
		"    var v : int ;",
		"  begin",
		"    wait on a , s until a = '1' for 3 * h ;",
		"    wait ;",
		"    q <= transport a after 1 , '0' after h , 'x' ;",
		"  end ;",
		"  k : process ( all ) is",
		"  begin",
		"  end ;",
		"  j : process ( a , s , a ) is",
		"  begin",
		"  end ;",
		"  i : inst n generic ( 1 , g + 1 ) port ( s ( 1 ) , f ( 1 , a ) ) ;",
		"  h : inst n port ( ) ;",
		"  g : for k in 0 to n - 1 generate",
		"    f : if k = 0 generate",
		"      q <= a ;",
		"    else",
		"      assert k > 0 report \"\" ;",
		"    end ;",
		"    e : if k = 1 generate",
		"    end ;",
		"    d : if k = 1 generate",
		"    else",
		"      q <= s ( k ) ;",
		"    end ;",
		"  end ;",
		"end ;",
		"module n port ( ) is",
		"begin",
		"end ;",
	}
	text := strings.ReplaceAll(strings.Join(lines, "\n")+"\n", "q , r", "q : out vec ( 3 )")
	wantText(t, text)
}

// Each form of each rule, in each place where it can stand.
func TestP7_1Forms(t *testing.T) {
	for _, rule := range []string{"unit", "decl", "conc", "stmt"} {
		forms := formsOf(rule)
		for _, f := range framesOf(rule) {
			for _, p := range forms {
				wantPrint(t, parsed(t, f.within(strings.Join(p.source, " "))), f.within(p.text))
			}
		}
	}
	for rule, hole := range map[string]string{
		"param": "module m generic ( ? ; g : int ; ? ) port ( ) is\nbegin\nend ;\n",
		"port":  "module m port ( a : in bit ; ? ; ? ) is\nbegin\nend ;\n",
		"arg":   "package p is\n  function f ( ? ; b : bit ; ? ) return t is\n  begin\n  end ;\nend ;\n",
		"wave":  inModule.within("q <= ? ;\nq <= transport ? , a after 1 , ? ;\nl : process is\nbegin\n  v <= ? , ? ;\nend ;\n"),
	} {
		for _, p := range formsOf(rule) {
			wantText(t, strings.ReplaceAll(hole, "?", p.text))
		}
	}
}

// Each leaf in each place of the grammar where one can stand, with no more brackets than it needs.
func TestP7_1Leaves(t *testing.T) {
	for _, pair := range pairsOf("expr") {
		hole := "module m generic ( g : t := ? ) port ( ) is\n  const c : t := ? ;\n  signal s : t := ? ;\n  var v : vec ( ? ) := ? ;\nbegin\n" +
			"  i : inst n generic ( ? , ? ) port ( ? , ? ) ;\n  g : for k in ? to ? generate\n    h : if ? generate\n    end ;\n  end ;\n  q ( ? ) <= ? after ? , ? ;\n  assert ? report \"\" ;\n  l : process is\n  begin\n" +
			"    v ( ? downto ? ) := ? ;\n    if ? then\n    elsif ? then\n    end ;\n    case ? is\n    when ? , ? =>\n    end ;\n    for i in ? to ? loop\n    end ;\n    while ? loop\n    end ;\n    wait until ? for ? ;\n    return ? ;\n    assert ? report \"\" ;\n  end ;\nend ;\n"
		text := strings.ReplaceAll(hole, "?", pair[0])
		wantText(t, text)
		wantFormat(t, strings.ReplaceAll(hole, "?", pair[1]), text)
		wantFormat(t, strings.ReplaceAll(hole, "?", "( "+pair[1]+" )"), text)
	}
	for _, pair := range pairsOf("type") {
		hole := "module m generic ( g : ? ) port ( a : in ? ; q : out ? ) is\n  const c : ? := 1 ;\n  signal s : ? ;\n  function f ( x : ? ) return ? is\n    var v : ? ;\n  begin\n  end ;\nbegin\nend ;\n"
		wantText(t, strings.ReplaceAll(hole, "?", pair[0]))
		wantFormat(t, strings.ReplaceAll(hole, "?", pair[1]), strings.ReplaceAll(hole, "?", pair[0]))
	}
	for _, pair := range pairsOf("target") {
		hole := inProcess.within("? := 1 ;\n? <= 1 ;\n? <= transport ? ;\n")
		wantText(t, strings.ReplaceAll(hole, "?", pair[0]))
		wantFormat(t, strings.ReplaceAll(hole, "?", pair[1]), strings.ReplaceAll(hole, "?", pair[0]))
	}
	for _, pair := range pairsOf("name") {
		name := pair[0]
		wantText(t, "package "+name+" is\n  use "+name+" ;\n  type "+name+" is ( "+name+" , "+name+" ) ;\nend ;\n")
		wantText(t, "module "+name+" port ( ) is\nbegin\n  "+name+" : process ( "+name+" , "+name+" ) is\n  begin\n    wait on "+name+" ;\n    for "+name+" in 0 to 1 loop\n    end ;\n  end ;\n  "+name+" : inst "+name+" port ( ) ;\nend ;\n")
	}
}

// nest returns n frames in each other, one after the other and then again from the first one.
func nest(n int, frames []frame) frame {
	f := frame{}
	for i := n - 1; i >= 0; i-- {
		f = f.in(frames[i%len(frames)])
	}
	return f
}

// Bodies nested as deep as they may be.
func TestP7_1Deep(t *testing.T) {
	for _, n := range []int{1, 2, 17, api.MaxNest} {
		for i, f := range stmtFrames() {
			for _, frames := range [][]frame{{f}, append(stmtFrames()[i:], stmtFrames()[:i]...)} {
				text := nest(n, frames).within("null ;\n")
				if !strings.Contains("\n"+text, "\n"+strings.Repeat("  ", n)+"null ;\n") {
					t.Fatalf("%s is not %d deep", text, n)
				}
				wantText(t, inProcess.within(text))
				wantText(t, inFunction.within(text+"null ;\n"))
			}
		}
		for i, f := range concFrames() {
			for _, frames := range [][]frame{{f}, append(concFrames()[i:], concFrames()[:i]...)} {
				wantText(t, nest(n, frames).in(inModule).within("q <= a ;\nl : process ( all ) is\nbegin\n  null ;\nend ;\n"))
			}
		}
	}
	depth := 60
	var function frame
	for range depth {
		function = function.in(frame{"function f ( a : t ) return t is\n", "begin\n  return a ;\nend ;\n", 1})
	}
	wantText(t, function.in(inPackage).within("use u ;\n"))
}

// Positions, and whether a list is nil or empty, change nothing.
func TestP7_1Positions(t *testing.T) {
	for _, text := range corpus() {
		l := parsed(t, text)
		visit(reflect.ValueOf(&l).Elem(), func(v reflect.Value) {
			if v.Kind() == reflect.Slice && v.Len() == 0 {
				v.Set(reflect.MakeSlice(v.Type(), 0, 3))
			}
			if v.Kind() != reflect.Struct {
				return
			}
			if line := v.FieldByName("Line"); line.IsValid() {
				line.SetInt(-7)
				v.FieldByName("Col").SetInt(1 << 40)
			}
		})
		wantPrint(t, l, text)
	}
}

// wantVaried checks that units with each field changed are printed just if they are valid, so that they can be read as they are.
func wantVaried(t *testing.T, l []api.Unit) {
	t.Helper()
	count := map[bool]int{}
	vary(reflect.ValueOf(&l).Elem(), func() {
		isValid := parser.Valid(l)
		count[isValid]++
		if !isValid {
			wantNone(t, l, api.ErrArg)
			return
		}
		s, err := Print(l)
		again, fault := parser.Parse(s)
		if err != api.OK || fault != (api.Fault{}) || !parser.Same(again, l) {
			t.Errorf("Print(%+v) = %q, error %d; of that fault %v", l, s, err, fault)
		}
	})
	if count[true] < 10 || count[false] < 10 {
		t.Errorf("%v: of the changed ones %v are valid", l, count)
	}
}

func TestP7_1Refuses(t *testing.T) {
	for _, text := range []string{
		"package p is\n  const c : array ( 2 ) of vec ( n ) := a + 1 ;\n  type t is ( a , b ) ;\n  var v : bit ;\nend ;\n",
		"module m generic ( g : int := 1 ) port ( a : in bit ; q : out t ) is\n  signal s : vec ( 2 ) := b\"0z\" ;\n  use p ;\nbegin\nend ;\n",
		"package p is\n  function f ( a : t ; b : u ) return t is\n    var v : bit ;\n  begin\n    return a ;\n  end ;\nend ;\n",
		inModule.within("l : process ( a , b ) is\n  var v : t ;\nbegin\n  null ;\nend ;\nl : process ( all ) is\nbegin\nend ;\ni : inst n generic ( 1 ) port ( s ( 3 downto 0 ) ) ;\n"),
		inModule.within("g : for k in 0 to n generate\n  q <= a ;\nend ;\ng : if a generate\n  q <= a ;\nelse\n  assert a report \"\" ;\nend ;\n"),
		inProcess.within("v ( 1 ) := a ;\nq <= transport a , b after 2 ;\nif a then\n  null ;\nelsif b then\nelse\n  null ;\nend ;\n"),
		inProcess.within("case a is\nwhen b , 1 =>\n  null ;\nwhen c =>\nothers =>\n  null ;\nend ;\nfor i in 0 to 1 loop\n  null ;\nend ;\nwhile a loop\nend ;\n"),
		inProcess.within("wait on a , b until c for 1 ;\nwait ;\nreturn not a ;\nassert a report \"..\" ;\n"),
	} {
		wantVaried(t, parsed(t, text))
	}
	good := parsed(t, inPackage.within("use u ;\n"))
	for _, bad := range []api.Unit{{}, {Op: 3, Name: "p"}, {Op: -1, Name: "p"}, {Op: api.UPackage}, {Op: api.UPackage, Name: "end"}, {Op: api.UPackage, Name: "p", Body: []api.Conc{{}}}} {
		wantNone(t, []api.Unit{bad}, api.ErrArg)
		wantNone(t, append(slices.Clone(good), bad), api.ErrArg)
		wantNone(t, append([]api.Unit{bad}, good...), api.ErrArg)
	}
}

// What is nested too deeply is not valid, and neither is it where the text would be too long, too.
func TestP7_1TooDeep(t *testing.T) {
	for _, n := range []int{api.MaxNest, api.MaxNest + 1, 2000} {
		want := api.ErrArg
		if n == api.MaxNest {
			want = api.OK
		}
		var stmts []api.Stmt
		var concs []api.Conc
		value := name("a")
		for range n {
			stmts = []api.Stmt{{Op: api.SWhile, Expr: name("a"), Bodies: [][]api.Stmt{stmts}}}
			concs = []api.Conc{{Op: api.CIf, Label: "g", Expr: name("a"), Then: concs}}
			value = api.Expr{Op: api.ECall, Name: "not", Kids: []api.Expr{value}}
		}
		assignment := api.Stmt{Op: api.SVar, Target: name("v"), Expr: value}
		for _, body := range [][]api.Conc{concs, {process(stmts...)}, {process(assignment)}} {
			if s, err := Print([]api.Unit{module(body...)}); err != want || (err == api.OK) == (s == "") {
				t.Errorf("%d deep: %q, error %d", n, s, err)
			}
		}
		for _, body := range [][]api.Stmt{stmts, {assignment}} {
			if s, err := Stmts(body); err != want || (err == api.OK) == (s == "") {
				t.Errorf("%d deep: %q, error %d", n, s, err)
			}
		}
	}
}

func name(s string) api.Expr { return api.Expr{Op: api.EName, Name: s} }

func module(body ...api.Conc) api.Unit {
	return api.Unit{Op: api.UModule, Name: "m", Body: body}
}

func process(body ...api.Stmt) api.Conc {
	return api.Conc{Op: api.CProcess, Label: "l", Body: body}
}

// longTexts returns texts of so many bytes, in which what is long stands in different places.
func longTexts(size int) []string {
	var all []string
	declarations := frame{"module m generic ( g : int ) port ( a : in vec ( 3 ) ) is\n", "begin\nend ;\n", 1}
	for _, f := range []frame{inPackage, declarations, inModule, inProcess, inFunction, nest(api.MaxNest, stmtFrames()).in(inProcess), nest(9, concFrames()).in(inModule)} {
		line := "assert a = b report \"c\" ;\n"
		if f.depth == 1 && !strings.HasSuffix(f.before, "begin\n") {
			line = "const a : b := c ;\n"
		}
		line = indented(line, f.depth)
		rest := size - len(f.before) - len(f.behind)
		count := rest/len(line) - 1
		// The last line is as long as need be.
		all = append(all, f.before+strings.Repeat(line, count)+longer(line, rest-count*len(line))+f.behind)
	}
	return all
}

// longer returns a line with so many bytes: its names and its string may have 40 of them.
func longer(line string, size int) string {
	for _, letter := range []string{"a", "b", "c"} {
		at := strings.LastIndex(line, letter)
		line = line[:at] + strings.Repeat(letter, min(39, size-len(line))) + line[at:]
	}
	return line
}

func TestP7_1Limit(t *testing.T) {
	for size := api.MaxText - 2; size <= api.MaxText+2; size++ {
		for _, text := range longTexts(size) {
			l := parsed(t, strings.Join(strings.Fields(text), " "))
			switch {
			case len(text) != size:
				t.Errorf("%d bytes instead of %d: %.80q", len(text), size, text)
			case size <= api.MaxText:
				wantPrint(t, l, text)
			default:
				wantNone(t, l, api.ErrLimit)
			}
		}
	}
}

// The limit counts behind each token and each line feed of each form.
func TestP7_1LimitEverywhere(t *testing.T) {
	const empty = "package p is\nend ;\n"
	for _, text := range corpus() {
		for _, over := range []int{0, 1, 2, len(text) / 2, len(text)} {
			rest := api.MaxText + over - len(text)
			before := slices.Repeat([]api.Unit{{Op: api.UPackage, Name: "p"}}, rest/len(empty))
			before[0].Name = strings.Repeat("p", 1+rest%len(empty))
			l := append(before, parsed(t, text)...)
			s, err := Print(l)
			if over == 0 && (len(s) != api.MaxText || !strings.HasSuffix(s, empty+text) || err != api.OK) {
				t.Errorf("%d bytes with %q, error %d", len(s), text, err)
			}
			if over > 0 && (s != "" || err != api.ErrLimit) {
				t.Errorf("%d bytes more than MaxText, with %q: %d bytes, error %d", over, text, len(s), err)
			}
		}
	}
}

// Units may be much longer than a text, and functions nested much deeper.
func TestP7_1VeryLong(t *testing.T) {
	null := api.Stmt{Op: api.SNull}
	many := slices.Repeat([]api.Stmt{null}, 50000)
	wantNone(t, []api.Unit{module(process(many...))}, api.ErrLimit)
	wantNone(t, []api.Unit{module(slices.Repeat([]api.Conc{process()}, 30000)...)}, api.ErrLimit)
	wantNone(t, slices.Repeat([]api.Unit{module()}, 50000), api.ErrLimit)
	wantNone(t, []api.Unit{module(api.Conc{Op: api.CInst, Label: "l", Name: "n", Ports: slices.Repeat([]api.Expr{name("a")}, 50000)})}, api.ErrLimit)
	wantNone(t, []api.Unit{module(process(append(many, api.Stmt{})...))}, api.ErrArg)
	var decls []api.Decl
	for range 1 << 16 {
		decls = []api.Decl{{Op: api.DFun, Name: "f", Params: []api.Param{{Name: "a", Ref: api.TypeRef{Name: "t"}}}, Ref: api.TypeRef{Name: "t"}, Decls: decls}}
	}
	wantNone(t, []api.Unit{{Op: api.UPackage, Name: "p", Decls: decls}}, api.ErrLimit)
	sum := name("a")
	for range 50000 {
		sum = api.Expr{Op: api.ECall, Name: "+", Kids: []api.Expr{sum, name("a")}}
	}
	wantNone(t, []api.Unit{module(process(api.Stmt{Op: api.SReturn, Expr: sum}))}, api.ErrLimit)
}
