package parser

import (
	"fmt"
	"math/rand/v2"
	"reflect"
	"slices"
	"strings"
	"testing"

	"netwright/api"
	"netwright/expr"
	"netwright/lexer"
)

// copied returns a copy that shares no memory.
func copied[T any](v T) T {
	return copyOf(reflect.ValueOf(v)).Interface().(T)
}

func copyOf(v reflect.Value) reflect.Value {
	c := reflect.New(v.Type()).Elem()
	switch v.Kind() {
	case reflect.Struct:
		for i := range v.NumField() {
			c.Field(i).Set(copyOf(v.Field(i)))
		}
	case reflect.Slice:
		for i := range v.Len() {
			c.Set(reflect.Append(c, copyOf(v.Index(i))))
		}
	default:
		c.Set(v)
	}
	return c
}

// alike reports whether two trees are the same but for positions, equal whether these are the same too.
func alike[T any](a, b T) bool { return match(reflect.ValueOf(a), reflect.ValueOf(b), true) }

func equal[T any](a, b T) bool { return match(reflect.ValueOf(a), reflect.ValueOf(b), false) }

func match(a, b reflect.Value, anyPlace bool) bool {
	switch a.Kind() {
	case reflect.Struct:
		for i := range a.NumField() {
			isPlace := isPlaceName(a.Type().Field(i).Name)
			if !(anyPlace && isPlace) && !match(a.Field(i), b.Field(i), anyPlace) {
				return false
			}
		}
		return true
	case reflect.Slice:
		if a.Len() != b.Len() {
			return false
		}
		for i := range a.Len() {
			if !match(a.Index(i), b.Index(i), anyPlace) {
				return false
			}
		}
		return true
	}
	return a.Equal(b)
}

func isPlaceName(field string) bool { return field == "Line" || field == "Col" }

// change changes one field after the other of a tree, in several ways, calls try each time with the name of the field, and takes it back.
func change(v reflect.Value, field string, try func(field string)) {
	set := func(other reflect.Value) {
		old := reflect.New(v.Type()).Elem()
		old.Set(v)
		v.Set(other.Convert(v.Type()))
		try(field)
		v.Set(old)
	}
	switch v.Kind() {
	case reflect.Struct:
		for i := range v.NumField() {
			change(v.Field(i), field+"."+v.Type().Field(i).Name, try)
		}
	case reflect.Slice:
		changeList(v, set)
		for i := range v.Len() {
			change(v.Index(i), fmt.Sprint(field, "[", i, "]"), try)
		}
	case reflect.Bool:
		set(reflect.ValueOf(!v.Bool()))
	case reflect.String:
		for _, s := range []string{"", "q", "end", "vec", "1", "+", "a b", "a\"b", strings.Repeat("a", 41)} {
			set(reflect.ValueOf(s))
		}
	case reflect.Int:
		for _, n := range []int{0, 1, 2, -1, int(v.Int()) + 1, 1 << 40} {
			set(reflect.ValueOf(n))
		}
	default:
		for b := range 5 {
			set(reflect.ValueOf(b))
		}
	}
}

// changeList makes a list shorter and longer.
func changeList(v reflect.Value, set func(other reflect.Value)) {
	n := v.Len()
	zero := reflect.Zero(v.Type().Elem())
	set(reflect.Append(v.Slice3(0, n, n), zero))
	if n == 0 {
		return
	}
	set(reflect.Zero(v.Type()))
	set(v.Slice(0, n-1))
	set(v.Slice(1, n))
	set(reflect.Append(v.Slice3(0, n, n), v.Index(0)))
}

// visit calls f with everything that a tree has, and then with the tree.
func visit(v reflect.Value, f func(v reflect.Value)) {
	switch v.Kind() {
	case reflect.Struct:
		for i := range v.NumField() {
			visit(v.Field(i), f)
		}
	case reflect.Slice:
		for i := range v.Len() {
			visit(v.Index(i), f)
		}
	}
	f(v)
}

// with returns a copy of a tree in which f has changed everything.
func with[T any](tree T, f func(v reflect.Value)) T {
	c := copied(tree)
	visit(reflect.ValueOf(&c).Elem(), f)
	return c
}

// emptied returns a copy with empty slices instead of nil ones.
func emptied[T any](tree T) T {
	return with(tree, func(v reflect.Value) {
		if v.Kind() == reflect.Slice && v.IsNil() {
			v.Set(reflect.MakeSlice(v.Type(), 0, 3))
		}
	})
}

// bare returns a copy without positions.
func bare[T any](tree T) T {
	return with(tree, func(v reflect.Value) {
		if v.Kind() != reflect.Struct {
			return
		}
		for i := range v.NumField() {
			if isPlaceName(v.Type().Field(i).Name) {
				v.Field(i).SetInt(0)
			}
		}
	})
}

// ex returns the expression of a string, without positions.
func ex(s string) api.Expr {
	l, _ := lexer.Lex(s)
	e, next, fault := expr.Parse(l, 0)
	if next != len(l) || fault != (api.Fault{}) {
		panic("no expression: " + s)
	}
	return bare(e)
}

// exs returns the expressions of strings.
func exs(l ...string) []api.Expr {
	var all []api.Expr
	for _, s := range l {
		all = append(all, ex(s))
	}
	return all
}

// ty returns the type of a string, without positions.
func ty(s string) api.TypeRef {
	l, _ := lexer.Lex(s)
	r, next, fault := expr.Type(l, 0)
	if next != len(l) || fault != (api.Fault{}) {
		panic("no type: " + s)
	}
	return bare(r)
}

// parsed returns the units of a string that has no fault.
func parsed(t *testing.T, s string) []api.Unit {
	t.Helper()
	l, fault := Parse(s)
	if fault != (api.Fault{}) {
		t.Fatalf("Parse(%.300q): fault %v", s, fault)
	}
	return l
}

// wantFault checks the fault of a string.
func wantFault(t *testing.T, s string, want api.Fault) {
	t.Helper()
	if l, fault := Parse(s); fault != want || fault != (api.Fault{}) && len(l) > 0 {
		t.Errorf("Parse(%.300q) = %d units, fault %v; want %v", s, len(l), fault, want)
	}
}

// maker makes random trees, smaller ones from one level to the next.
type maker struct{ *rand.Rand }

func newMaker(seed uint64) maker { return maker{rand.New(rand.NewPCG(6, seed))} }

// pick returns one of several strings.
func (m maker) pick(l ...string) string { return l[m.IntN(len(l))] }

func (m maker) name() string {
	return m.pick("a", "b", "Z9", "x_1", "is_", "int", "bit", "false", "B", "ends", strings.Repeat("q", 40))
}

func (m maker) expr() api.Expr {
	return ex(m.pick("a", "b", "0", "2147483647", "'z'", `b"01xz"`, "a + 1", "not a", "- ( a - b )", "f ( a , 1 , '0' )", "a ( 1 ) ( 2 )", "a <= b", "( a = b ) = c", "s ( 7 downto 4 ) & x", "( a + b ) ( 1 )", "a and b or c", "- - 1", "a * b mod c shl 3"))
}

func (m maker) target() api.Expr {
	return ex(m.pick("a", "q ( 1 )", "q ( i + 1 )", "q ( 3 downto 0 )", "q ( 1 ) ( 2 )", "q ( 1 ) ( 3 downto i ) ( 0 )"))
}

func (m maker) ref() api.TypeRef {
	return ty(m.pick("bit", "int", "t", "vec ( 4 )", "vec ( n + 1 )", "array ( 3 ) of bit", "array ( n ) of vec ( a ( 1 ) )"))
}

// some returns from least to most parts.
func some[T any](m maker, least, most int, part func() T) []T {
	var l []T
	for range least + m.IntN(most-least+1) {
		l = append(l, part())
	}
	return l
}

func (m maker) named() api.Expr { return api.Expr{Op: api.EName, Name: m.name()} }

func (m maker) param() api.Param { return api.Param{Name: m.name(), Ref: m.ref()} }

func (m maker) units() []api.Unit {
	return some(m, 0, 3, func() api.Unit {
		u := api.Unit{Op: api.UPackage, Name: m.name(), Decls: m.decls(3)}
		if m.IntN(3) > 0 {
			u.Op = api.UModule
			u.Generics = some(m, 0, 2, func() api.Param {
				p := m.param()
				p.Init = some(m, 0, 1, m.expr)
				return p
			})
			u.Ports = some(m, 0, 3, func() api.Param {
				p := m.param()
				p.Mode = []api.Mode{api.In, api.Out}[m.IntN(2)]
				return p
			})
			u.Body = m.concs(3)
		}
		return u
	})
}

func (m maker) decls(size int) []api.Decl {
	return some(m, 0, size, func() api.Decl {
		d := api.Decl{Op: api.DConst + api.DeclOp(m.IntN(6)), Name: m.name()}
		switch d.Op {
		case api.DConst:
			d.Ref, d.Init = m.ref(), some(m, 1, 1, m.expr)
		case api.DType:
			d.Names = some(m, 1, 4, m.name)
		case api.DSignal, api.DVar:
			d.Ref, d.Init = m.ref(), some(m, 0, 1, m.expr)
		case api.DFun:
			d.Params, d.Ref = some(m, 1, 3, m.param), m.ref()
			d.Decls, d.Body = m.decls(size-1), m.stmts(size)
		}
		return d
	})
}

func (m maker) concs(size int) []api.Conc {
	return some(m, 0, size, func() api.Conc {
		c := api.Conc{Op: api.CProcess + api.ConcOp(m.IntN(6)), Label: m.name()}
		switch c.Op {
		case api.CProcess:
			c.Decls, c.Body = m.decls(size-1), m.stmts(size)
			c.All = m.IntN(3) == 0
			if !c.All {
				c.Sens = some(m, 0, 3, m.named)
			}
		case api.CAssign:
			c.Label, c.Body = "", []api.Stmt{m.signal()}
		case api.CInst:
			c.Name, c.Generics, c.Ports = m.name(), some(m, 0, 3, m.expr), some(m, 0, 3, m.expr)
		case api.CFor:
			c.Name, c.Expr, c.Last, c.Then = m.name(), m.expr(), m.expr(), m.concs(size-1)
		case api.CIf:
			c.Expr, c.Then, c.Else = m.expr(), m.concs(size-1), m.concs(size-1)
		case api.CAssert:
			c.Label, c.Body = "", []api.Stmt{m.assertion()}
		}
		return c
	})
}

func (m maker) signal() api.Stmt {
	return api.Stmt{Op: api.SSig, Target: m.target(), Transport: m.IntN(2) == 0, Waves: some(m, 1, 3, func() api.Wave {
		return api.Wave{Expr: m.expr(), After: some(m, 0, 1, m.expr)}
	})}
}

func (m maker) assertion() api.Stmt {
	return api.Stmt{Op: api.SAssert, Expr: m.expr(), Text: m.pick("", "..", "end ; -- b", strings.Repeat("~", 60))}
}

func (m maker) stmts(size int) []api.Stmt {
	if size < 0 {
		return nil
	}
	return some(m, 0, size, func() api.Stmt {
		s := api.Stmt{Op: api.SVar + api.StmtOp(m.IntN(10))}
		body := func() []api.Stmt { return m.stmts(size - 1) }
		switch s.Op {
		case api.SVar:
			s.Target, s.Expr = m.target(), m.expr()
		case api.SSig:
			s = m.signal()
		case api.SIf:
			s.Conds = some(m, 1, 3, m.expr)
			s.Bodies = some(m, len(s.Conds), len(s.Conds)+1, body)
		case api.SCase:
			s.Expr, s.Choices = m.expr(), some(m, 0, 3, func() []api.Expr { return some(m, 1, 3, m.expr) })
			s.Bodies = some(m, len(s.Choices), len(s.Choices)+1, body)
		case api.SFor:
			s.Name, s.Expr, s.Last, s.Bodies = m.name(), m.expr(), m.expr(), some(m, 1, 1, body)
		case api.SWhile:
			s.Expr, s.Bodies = m.expr(), some(m, 1, 1, body)
		case api.SWait:
			s.On, s.Until, s.For = some(m, 0, 3, m.named), some(m, 0, 1, m.expr), some(m, 0, 1, m.expr)
		case api.SReturn:
			s.Expr = m.expr()
		case api.SAssert:
			s = m.assertion()
		}
		return s
	})
}

// gap returns a random gap between two tokens: nothing, if they are still two without one.
func (m maker) gap(before, behind string) string {
	if before != "" && behind != "" && m.IntN(4) == 0 && apart(before, behind) {
		return ""
	}
	gap := m.pick(" ", "\n", "\t", "\r\n", " -- ; end \" ' ! \x00\n", "\n\n", " --\n", "  \t ", "\n---- b\"\n ")
	if m.IntN(3) == 0 {
		gap += m.pick(" ", "\n", "--x\n")
	}
	return gap
}

// apart reports whether two tokens are still the same without a gap.
func apart(before, behind string) bool {
	l, fault := lexer.Lex(before + behind)
	return fault == (api.Fault{}) && len(l) == 2 && slices.IndexFunc(l, func(t api.Token) bool { return t.Col == len(before)+1 }) == 1
}
