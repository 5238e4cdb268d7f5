// Package tokens goes over the tokens of a string, for the layers that read by the rules of the grammar.
package tokens

import (
	"strconv"

	"netwright/api"
)

// Reader goes over tokens. Where they are not what has to be there, it panics with the fault, an api.Fault.
type Reader struct {
	List []api.Token
	At   int       // the index of the next token
	End  api.Fault // the fault where no token is left
}

// Next returns the next token, a token of no kind at the end.
func (r *Reader) Next() api.Token {
	if r.At == len(r.List) {
		return api.Token{}
	}
	return r.List[r.At]
}

// Fixed returns the text of the next token if it is a reserved word or a sign, which a string's text may look like, else nothing.
func (r *Reader) Fixed() string {
	t := r.Next()
	if t.Op == api.TokWord || t.Op == api.TokSign {
		return t.Text
	}
	return ""
}

// Sees reports whether the next token is a reserved word or a sign.
func (r *Reader) Sees(text string) bool { return r.Fixed() == text }

// Accept goes over a reserved word or a sign if it is the next token.
func (r *Reader) Accept(text string) bool {
	if !r.Sees(text) {
		return false
	}
	r.At++
	return true
}

// Expect goes over a reserved word or a sign, which has to be there.
func (r *Reader) Expect(text string) {
	if !r.Accept(text) {
		panic(r.Fault(api.ErrSyntax))
	}
}

// Need goes over a token of a kind, which has to be there.
func (r *Reader) Need(op api.TokOp) api.Token {
	if r.Next().Op != op {
		panic(r.Fault(api.ErrSyntax))
	}
	return r.Take()
}

// Take goes over the next token, whatever it is.
func (r *Reader) Take() api.Token {
	if r.At == len(r.List) {
		panic(r.End)
	}
	r.At++
	return r.List[r.At-1]
}

// Fault returns a fault at the next token, that of the end if there is none.
func (r *Reader) Fault(code api.Errno) api.Fault {
	if r.At == len(r.List) {
		return r.End
	}
	return FaultAt(r.Next(), code)
}

// FaultAt returns a fault at a token.
func FaultAt(t api.Token, code api.Errno) api.Fault {
	name := t.Text
	if t.Op == api.TokInt {
		name = strconv.Itoa(t.N)
	}
	return api.Fault{Code: code, Name: name, Line: t.Line, Col: t.Col}
}
