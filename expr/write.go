package expr

import (
	"netwright/api"
	"netwright/lexer"
	"netwright/trees"
)

// writer collects the tokens of an expression or a type. It panics with ErrArg at what is not valid.
type writer struct {
	words []string // each token as it is written
	names []string // of these the names
	depth int      // how many brackets, not and - of one are open
	level int      // how many expressions are open
}

// write returns what a rule writes of a part of a string.
func write[T any](part *T, rule func(*writer, *T)) (w writer, err api.Errno) {
	defer func() {
		if failure := recover(); failure != nil {
			w, err = writer{}, failure.(api.Errno)
		}
	}()
	rule(&w, part)
	return w, api.OK
}

// put writes a token. Which names, ints, bits and vectors can be one is left to the lexer.
func (w *writer) put(t api.Token) {
	word, err := lexer.Text([]api.Token{t})
	if err != api.OK {
		panic(api.ErrArg)
	}
	w.words = append(w.words, word)
	if t.Op == api.TokName {
		w.names = append(w.names, t.Text)
	}
}

// fixed writes a reserved word or a sign.
func (w *writer) fixed(text string) {
	op := api.TokSign
	if lexer.IsWord(text) {
		op = api.TokWord
	}
	w.put(api.Token{Op: op, Text: text})
}

// open writes a bracket, not or - of one, behind which everything is one deeper.
func (w *writer) open(text string) {
	if w.depth == api.MaxNest {
		panic(api.ErrArg)
	}
	w.depth++
	w.fixed(text)
}

// shut writes the bracket that ends what the last one opened.
func (w *writer) shut() {
	w.fixed(")")
	w.depth--
}

func (w *writer) expression(e *api.Expr) {
	if w.level == trees.MaxLevels || !hasOwnFields(e) {
		panic(api.ErrArg)
	}
	w.level++
	switch e.Op {
	case api.EInt:
		w.put(api.Token{Op: api.TokInt, N: e.N})
	case api.EBit:
		w.put(api.Token{Op: api.TokBit, Text: lettersOf(e.Bits)})
	case api.EVec:
		w.put(api.Token{Op: api.TokVec, Text: lettersOf(e.Bits)})
	case api.EName:
		w.put(api.Token{Op: api.TokName, Text: e.Name})
	case api.ECall:
		w.call(e)
	case api.EIndex, api.ESlice:
		w.piece(e)
	}
	w.level--
}

// kid writes a part of an expression, in brackets if it is bound less strongly than its place needs.
func (w *writer) kid(e *api.Expr, least int) {
	if strengthOf(e) >= least {
		w.expression(e)
		return
	}
	w.open("(")
	w.expression(e)
	w.shut()
}

func (w *writer) call(e *api.Expr) {
	switch strength := strengthOf(e); strength {
	case primary:
		w.named(e)
	case prefix:
		w.open(e.Name)
		w.kid(&e.Kids[0], prefix)
		w.depth--
	case comparison:
		w.kid(&e.Kids[0], sum)
		w.fixed(e.Name)
		w.kid(&e.Kids[1], sum)
	default:
		w.kid(&e.Kids[0], strength)
		w.fixed(e.Name)
		w.kid(&e.Kids[1], strength+1)
	}
}

// named writes a call by a name.
func (w *writer) named(e *api.Expr) {
	if len(e.Kids) < 1 || len(e.Kids) > maxArgs {
		panic(api.ErrArg)
	}
	w.put(api.Token{Op: api.TokName, Text: e.Name})
	w.open("(")
	for i := range e.Kids {
		if i > 0 {
			w.fixed(",")
		}
		w.expression(&e.Kids[i])
	}
	w.shut()
}

// piece writes an index or a slice.
func (w *writer) piece(e *api.Expr) {
	isSlice := e.Op == api.ESlice
	if isSlice && len(e.Kids) != 3 || !isSlice && (len(e.Kids) != 2 || e.Kids[0].Op == api.EName) {
		panic(api.ErrArg)
	}
	w.kid(&e.Kids[0], primary)
	w.open("(")
	w.expression(&e.Kids[1])
	if isSlice {
		w.fixed("downto")
		w.expression(&e.Kids[2])
	}
	w.shut()
}

func (w *writer) target(e *api.Expr) {
	w.expression(e)
	for e.Op == api.EIndex || e.Op == api.ESlice {
		e = &e.Kids[0]
	}
	isPlace := e.Op == api.EName || e.Op == api.ECall && len(e.Kids) == 1 && !isPrefix(e.Name)
	if !isPlace {
		panic(api.ErrArg)
	}
}

func (w *writer) typeRef(r *api.TypeRef) {
	lengths, elements := 0, 0
	switch r.Name {
	case "vec":
		lengths = 1
	case "array":
		lengths, elements = 1, 1
	}
	if len(r.Len) != lengths || len(r.Elem) != elements {
		panic(api.ErrArg)
	}
	if lengths == 0 {
		w.put(api.Token{Op: api.TokName, Text: r.Name})
		return
	}
	w.fixed(r.Name)
	w.open("(")
	w.expression(&r.Len[0])
	w.shut()
	if elements == 1 {
		w.fixed("of")
		w.element(&r.Elem[0])
	}
}

// element writes the type of an array's elements, which is no array.
func (w *writer) element(r *api.TypeRef) {
	if r.Name == "array" {
		panic(api.ErrArg)
	}
	w.typeRef(r)
}

// hasOwnFields reports whether an expression is one of a string, and everything that its kind does not use is zero.
func hasOwnFields(e *api.Expr) bool {
	rest := *e
	switch e.Op {
	case api.EInt:
		rest.N = 0
	case api.EBit, api.EVec:
		rest.Bits = nil
	case api.EName:
		rest.Name = ""
	case api.ECall:
		rest.Name, rest.Kids = "", nil
	case api.EIndex, api.ESlice:
		rest.Kids = nil
	default:
		return false
	}
	return Same(rest, api.Expr{Op: e.Op})
}

// lettersOf returns bits as letters, the highest one first.
func lettersOf(l []api.Bit) string {
	letters := make([]byte, len(l))
	for i, b := range l {
		if b > api.BZ {
			panic(api.ErrArg)
		}
		letters[len(l)-1-i] = bitLetters[b]
	}
	return string(letters)
}
