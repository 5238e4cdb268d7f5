package printer

import (
	"strings"

	"netwright/api"
	"netwright/expr"
	"netwright/lexer"
)

// indent is what each line begins with for each body in which it is.
const indent = "  "

// writer writes valid units by the rules of the grammar. It panics with an api.Errno where the text gets too long.
type writer struct {
	text  []byte
	depth int // in how many bodies the line is
}

// write returns the lines of parts that are in no body.
func write[T any](l []T, part func(*writer, *T)) (text string, err api.Errno) {
	defer func() {
		if failure := recover(); failure != nil {
			text, err = "", failure.(api.Errno)
		}
	}()
	w := writer{}
	for i := range l {
		part(&w, &l[i])
	}
	return string(w.text), api.OK
}

// put writes tokens into the line.
func (w *writer) put(words ...string) {
	for _, word := range words {
		if w.isAtLine() {
			w.add(strings.Repeat(indent, w.depth))
		} else {
			w.add(" ")
		}
		w.add(word)
	}
}

// end writes tokens, the last ones of the line.
func (w *writer) end(words ...string) {
	w.put(words...)
	w.add("\n")
}

// isAtLine reports whether a line begins.
func (w *writer) isAtLine() bool {
	count := len(w.text)
	return count == 0 || w.text[count-1] == '\n'
}

// add gives up at once where the text gets too long: that of valid units may be longer than there is memory for.
func (w *writer) add(s string) {
	if len(w.text)+len(s) > api.MaxText {
		panic(api.ErrLimit)
	}
	w.text = append(w.text, s...)
}

// quote writes what another layer has made a string of.
func (w *writer) quote(s string, err api.Errno) {
	if err != api.OK {
		panic(err)
	}
	w.put(s)
}

// row writes parts of a line with a sign between them.
func row[T any](w *writer, l []T, part func(*T), sign string) {
	for i := range l {
		if i > 0 {
			w.put(sign)
		}
		part(&l[i])
	}
}

// bracketed writes a row in brackets.
func bracketed[T any](w *writer, l []T, part func(*T), sign string) {
	w.put("(")
	row(w, l, part, sign)
	w.put(")")
}

// generics writes what belongs to the word generic, which is not there without them.
func generics[T any](w *writer, l []T, part func(*T), sign string) {
	if len(l) > 0 {
		w.put("generic")
		bracketed(w, l, part, sign)
	}
}

// body writes parts with lines of their own, one deeper.
func body[T any](w *writer, l []T, part func(*T)) {
	w.depth++
	for i := range l {
		part(&l[i])
	}
	w.depth--
}

// scope writes declarations and a body, from the word is to the word end.
func scope[T any](w *writer, decls []api.Decl, l []T, part func(*T)) {
	w.end("is")
	body(w, decls, w.decl)
	w.end("begin")
	body(w, l, part)
	w.put("end")
}

func (w *writer) name(s *string) { w.put(*s) }

func (w *writer) expression(e *api.Expr) { w.quote(expr.Text(*e)) }

func (w *writer) ref(r *api.TypeRef) { w.quote(expr.TypeText(*r)) }

func (w *writer) literal(s string) {
	w.quote(lexer.Text([]api.Token{{Op: api.TokText, Text: s}}))
}

// optional writes an expression behind a word or sign, if it is there.
func (w *writer) optional(word string, l []api.Expr) {
	if len(l) > 0 {
		w.put(word)
		w.expression(&l[0])
	}
}

// counter writes what the loops and the generate statements over numbers have in common.
func (w *writer) counter(name string, first, last *api.Expr) {
	w.put("for", name, "in")
	w.expression(first)
	w.put("to")
	w.expression(last)
}
