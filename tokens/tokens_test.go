package tokens

import (
	"testing"

	"netwright/api"
)

var list = []api.Token{
	{Op: api.TokWord, Text: "end", Line: 1, Col: 2},
	{Op: api.TokText, Text: "end", Line: 3, Col: 4},
	{Op: api.TokSign, Text: ";", Line: 5, Col: 6},
	{Op: api.TokInt, N: 70, Line: 7, Col: 8},
	{Op: api.TokName, Text: "a", Line: 9, Col: 10},
}

var end = api.Fault{Code: api.ErrLex, Name: "!", Line: 11, Col: 12}

// caught returns the fault with which f panics.
func caught(f func()) (fault api.Fault) {
	defer func() {
		if failure := recover(); failure != nil {
			fault = failure.(api.Fault)
		}
	}()
	f()
	return api.Fault{}
}

func TestFixed(t *testing.T) {
	for at, want := range []string{"end", "", ";", "", "", ""} {
		r := Reader{List: list, At: at, End: end}
		if got := r.Fixed(); got != want || r.At != at {
			t.Errorf("Fixed at %d = %q, then at %d", at, got, r.At)
		}
		for _, text := range []string{"end", ";", "a", "("} {
			sees := r.Sees(text)
			if sees != (text == want) || r.Accept(text) != sees || sees != (r.At == at+1) {
				t.Errorf("Sees(%q) at %d: %v, then at %d", text, at, sees, r.At)
			}
			r.At = at
		}
	}
}

func TestFaults(t *testing.T) {
	names := []string{"end", "end", ";", "70", "a"}
	for at := range len(list) + 1 {
		r := Reader{List: list, At: at, End: end}
		want := end
		if at < len(list) {
			want = api.Fault{Code: api.ErrSyntax, Name: names[at], Line: 2*at + 1, Col: 2*at + 2}
		}
		if got := r.Fault(api.ErrSyntax); got != want {
			t.Errorf("Fault at %d = %v; want %v", at, got, want)
		}
		if got := caught(func() { r.Expect("(") }); got != want || r.At != at {
			t.Errorf("Expect at %d: %v, then at %d", at, got, r.At)
		}
		if got := caught(func() { r.Need(api.TokBit) }); got != want || r.At != at {
			t.Errorf("Need at %d: %v, then at %d", at, got, r.At)
		}
	}
	if got, want := FaultAt(list[3], api.ErrDeep), (api.Fault{Code: api.ErrDeep, Name: "70", Line: 7, Col: 8}); got != want {
		t.Errorf("FaultAt = %v; want %v", got, want)
	}
}

func TestTake(t *testing.T) {
	r := Reader{List: list, End: end}
	for at, want := range list {
		next := r.Next()
		if next != want || r.At != at {
			t.Errorf("Next at %d = %v", at, next)
		}
		var got api.Token
		fault := caught(func() {
			switch at {
			case 0:
				r.Expect("end")
				got = want
			case 1:
				got = r.Need(api.TokText)
			default:
				got = r.Take()
			}
		})
		if got != want || fault != (api.Fault{}) || r.At != at+1 {
			t.Errorf("the token at %d is %v, fault %v, then at %d", at, got, fault, r.At)
		}
	}
	if r.Next() != (api.Token{}) || caught(func() { r.Take() }) != end || r.At != len(list) {
		t.Errorf("behind the last token is %v", r.Next())
	}
}
