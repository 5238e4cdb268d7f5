package types

import (
	"fmt"
	"math/big"
	"regexp"
	"strings"
	"testing"

	"netwright/api"
)

func TestP4_4Text(t *testing.T) {
	for _, k := range everyKind() {
		for _, s := range k.samples {
			if got, err := Text(k.t, s.v); got != s.text || err != api.OK {
				t.Errorf("Text of a value of %s = %q, %d; want %q", k.name, got, err, s.text)
			}
		}
	}
}

func TestP4_4Examples(t *testing.T) {
	for _, x := range []struct {
		t    api.Type
		v    api.Value
		text string
	}{
		{vecType(4), vecOf("010x"), `b"x010"`},
		{arrayType(2, intType()), listOf(numberOf(api.TInt, 3), numberOf(api.TInt, -1)), "[3,-1]"},
		{bitType(), bitOf("z"), "'z'"},
		{boolType(), numberOf(api.TBool, 1), "true"},
		{intType(), numberOf(api.TInt, -2147483648), "-2147483648"},
		{enumType("p.t", "idle", "Run", "x"), numberOf(api.TEnum, 1), "Run"},
		{arrayType(3, enumType("p.t", "idle", "Run")), listOf(numberOf(api.TEnum, 1), numberOf(api.TEnum, 0), numberOf(api.TEnum, 1)), "[Run,idle,Run]"},
		{arrayType(2, bitType()), listOf(bitOf("0"), bitOf("x")), "['0','x']"},
		{arrayType(1, vecType(2)), listOf(vecOf("0z")), `[b"z0"]`},
		{arrayType(2, boolType()), listOf(numberOf(api.TBool, 0), numberOf(api.TBool, 1)), "[false,true]"},
	} {
		if got, err := Text(x.t, x.v); got != x.text || err != api.OK {
			t.Errorf("Text = %q, %d; want %q", got, err, x.text)
		}
		wantValue(t, "Parse of "+x.text, x.v)(Parse(x.t, x.text))
	}
}

func TestP4_4TextRefuses(t *testing.T) {
	refused := func(u api.Type, v api.Value) {
		t.Helper()
		if got, err := Text(u, v); got != "" || err != api.ErrArg {
			t.Errorf("Text of %s = %.100q, %d", brief(u), got, err)
		}
	}
	for _, k := range everyKind() {
		for _, bad := range noValues(k) {
			refused(k.t, bad)
		}
	}
	for _, bad := range noTypes() {
		for _, v := range []api.Value{{}, {Kind: bad.Kind}, bitOf("0"), vecOf("0101"), numberOf(api.TEnum, 0), listOf(bitOf("0"))} {
			refused(bad, v)
		}
	}
}

func TestP4_4Parse(t *testing.T) {
	for _, k := range everyKind() {
		for _, s := range k.samples {
			wantValue(t, fmt.Sprintf("Parse(%s, %s)", k.name, s.text), s.v)(Parse(k.t, s.text))
		}
	}
}

// shape returns what the strings of a type's values look like, but for the range of ints.
func shape(u api.Type) string {
	switch u.Kind {
	case api.TBit:
		return `'[01xz]'`
	case api.TBool:
		return `(false|true)`
	case api.TInt:
		return `(0|-?[1-9][0-9]*)`
	case api.TVec:
		return fmt.Sprintf(`b"[01xz]{%d}"`, u.Len)
	case api.TEnum:
		return `(` + strings.Join(u.Names, "|") + `)`
	}
	elem := shape(u.Elem[0])
	return fmt.Sprintf(`\[(%s,){%d}%s\]`, elem, u.Len-1, elem)
}

var digits = regexp.MustCompile(`-?[0-9]+`)

// isText reports whether s is the string of a value of a type of that shape.
func isText(u api.Type, form *regexp.Regexp, s string) bool {
	if !form.MatchString(s) {
		return false
	}
	isInt := u.Kind == api.TInt || u.Kind == api.TArray && u.Elem[0].Kind == api.TInt
	for _, number := range digits.FindAllString(s, -1) {
		n, _ := new(big.Int).SetString(number, 10)
		if isInt && (n.Cmp(big.NewInt(2147483647)) > 0 || n.Cmp(big.NewInt(-2147483648)) < 0) {
			return false
		}
	}
	return true
}

// agree checks Parse by the shape of a type's strings: what it gives has that string.
func agree(t *testing.T, k kind, form *regexp.Regexp, s string) {
	t.Helper()
	v, err := Parse(k.t, s)
	if !isText(k.t, form, s) {
		if !sameValue(v, api.Value{}) || err != api.ErrForm {
			t.Errorf("Parse(%s, %.100q) = %v, %d", k.name, s, v, err)
		}
		return
	}
	if back, _ := Text(k.t, v); back != s || err != api.OK || !Has(k.t, v) {
		t.Errorf("Parse(%s, %.100q) = %v, %d", k.name, s, v, err)
	}
}

// formOf returns the whole shape of a type's strings.
func formOf(u api.Type) *regexp.Regexp { return regexp.MustCompile(`^` + shape(u) + `\z`) }

// Strings with one byte more, less or another one, and with pieces more, are read only if they are strings of a value.
func TestP4_4ParseNear(t *testing.T) {
	pieces := strings.Split(`|0|1|x|z|9|-|+| |,|[|]|'|"|b|b"|_|.|a|true|\n|-0|00|[]|''`, "|")
	for _, k := range smallKinds() {
		form := formOf(k.t)
		for n, s := range k.samples {
			if n > 3 && k.places > 1 {
				break
			}
			for i := range len(s.text) + 1 {
				if i > 8 && i < len(s.text)-4 {
					continue
				}
				for _, piece := range pieces {
					agree(t, k, form, s.text[:i]+piece+s.text[i:])
					if i < len(s.text) {
						agree(t, k, form, s.text[:i]+piece+s.text[i+1:])
					}
				}
			}
		}
	}
}

// Over all short strings of parts that a type's strings have, Parse takes just those of the type's shape.
func TestP4_4ParseEveryShortString(t *testing.T) {
	for _, x := range []struct {
		t     kind
		n     int
		parts string
	}{
		{scalarKinds()[0], 4, `' 0 1 x z b 2 "`},
		{scalarKinds()[1], 3, `f false alse true t rue 0 1 False TRUE`},
		{scalarKinds()[2], 5, `- + 0 1 9 _ x .`},
		{scalarKinds()[2], 3, `- 0 214748364 2147483647 2147483648 7 8 9223372036854775807 18446744073709551616`},
		{vecKind(1), 5, `b " b" 0 x 1 '`},
		{vecKind(2), 5, `b" " 0 x 1 z 2`},
		{enumKind("t", []string{"a", "b", "ab", "false"}, 2), 4, `a b A false [ , t.`},
		{arrayKind(1, scalarKinds()[2]), 5, `[ ] , 0 -1 2 x`},
		{arrayKind(2, scalarKinds()[2]), 6, `[ ] , 0 -1 01`},
		{arrayKind(3, scalarKinds()[1]), 7, `[ ] , true`},
		{arrayKind(2, scalarKinds()[0]), 7, `[ ] , '0' 'z'`},
		{arrayKind(2, vecKind(1)), 6, `[ ] , b"0" b"10" "`},
		{arrayKind(2, enumKind("t", []string{"a", "aa"}, 1)), 6, `[ ] , a aa`},
	} {
		form := formOf(x.t.t)
		for _, blank := range []string{"", " "} {
			everyText(x.n, append(strings.Fields(x.parts), blank), func(s string) { agree(t, x.t, form, s) })
		}
	}
}

// everyText calls f with all strings of at most n of the parts.
func everyText(n int, parts []string, f func(s string)) {
	f("")
	if n == 0 {
		return
	}
	for _, part := range parts {
		everyText(n-1, parts, func(s string) { f(part + s) })
	}
}

func TestP4_4ParseRefuses(t *testing.T) {
	for _, x := range []struct {
		t api.Type
		l []string
	}{
		{bitType(), []string{"", "0", "'", "''", "'0", "0'", "'01'", "'2'", "'X'", "' 0'", "'0' ", " '0'", `"0"`, `b"0"`, "0'0'", "''0''"}},
		{boolType(), []string{"", "0", "1", "True", "FALSE", "t", "true ", " true", "tru", "falsee", "false,"}},
		{intType(), []string{"", "-", "+", "+1", "-0", "00", "01", "-01", "--1", "- 1", " 1", "1 ", "1.0", "1e3", "0x1", "1_000", "2147483648", "-2147483649", "9223372036854775808", "-9223372036854775809", strings.Repeat("9", 1000), strings.Repeat("0", 1000), "a", "1\n", "\u0661"}},
		{vecType(2), []string{"", `b""`, `b"0"`, `b"000"`, `b"01`, `"01"`, `01`, `b'01'`, `B"01"`, `b"0X"`, `b"02"`, `b "01"`, `b"0 1"`, ` b"01"`, `b"01" `, `b"01""`, `b""01"`, `b"b"01""`}},
		{vecType(64), []string{`b"` + strings.Repeat("0", 63) + `"`, `b"` + strings.Repeat("0", 65) + `"`, `b"` + strings.Repeat("0", 1000000) + `"`}},
		{enumType("p.t", "a", "bb", "Q"), []string{"", "b", "A", "q", "a ", " a", "aa", "0", "p.t", "p.t.a", "a,bb", "'a'"}},
		{arrayType(2, intType()), []string{"", "[]", "[1]", "[1,2,3]", "[1,+2]", "[1,2", "1,2]", "1,2", "[01,2]", "[1, 2]", "[ 1,2]", "[1,2 ]", "[1,2] ", " [1,2]", "[1,2,]", "[,1,2]", "[1,,2]", "[1;2]", "(1,2)", "[[1,2]]", "[1,2]]", "[[1,2]", "[1,true]", "[-0,0]", "[1,2147483648]", "[,]"}},
		{arrayType(1, bitType()), []string{"", "[]", "['0'", "'0']", "'0'", "['0','1']", "[0]", "['0',]", "[['0']]", "[b\"0\"]"}},
		{arrayType(2, vecType(2)), []string{`[b"01"]`, `[b"01",b"1"]`, `[b"1",b"01"]`, `[b"01",b"011"]`, `[b"01" b"01"]`, `[b"01,b"01"]`, `[b"01,01"]`, `b"0101"`}},
		{arrayType(64, boolType()), []string{"[" + strings.Repeat("true,", 62) + "true]", "[" + strings.Repeat("true,", 64) + "true]", "[" + strings.Repeat("true,", 64) + "]", strings.Repeat(",", 1000000), "[" + strings.Repeat("true,", 1000000) + "true]"}},
	} {
		for _, s := range x.l {
			wantNoValue(t, fmt.Sprintf("Parse(%v, %.100q)", x.t, s), api.ErrForm)(Parse(x.t, s))
		}
	}
}

// The string of another type's value is read only where it is one of this type's, too.
func TestP4_4ParseOtherTypes(t *testing.T) {
	all := smallKinds()
	for _, k := range all {
		form := formOf(k.t)
		for _, other := range all {
			for _, s := range other.samples {
				agree(t, k, form, s.text)
			}
		}
	}
	for _, bad := range noTypes() {
		for _, s := range []string{"", "'0'", "true", "0", `b"0101"`, "a", "['0']", "[0,0]"} {
			wantNoValue(t, "Parse of "+brief(bad), api.ErrArg)(Parse(bad, s))
		}
	}
}

func TestP4_5Name(t *testing.T) {
	for _, k := range everyKind() {
		if got, err := Name(k.t); got != k.name || err != api.OK {
			t.Errorf("Name = %q, %d; want %q", got, err, k.name)
		}
	}
	for want, u := range map[string]api.Type{
		"bit": bitType(), "bool": boolType(), "int": intType(), "vec(1)": vecType(1), "vec(64)": vecType(64), "p.t": enumType("p.t", "a"),
		"array(3) of vec(4)": arrayType(3, vecType(4)), "array(64) of int": arrayType(64, intType()), "array(1) of p.t": arrayType(1, enumType("p.t", "a", "b")),
	} {
		if got, err := Name(u); got != want || err != api.OK {
			t.Errorf("Name = %q, %d; want %q", got, err, want)
		}
	}
	for _, bad := range noTypes() {
		if got, err := Name(bad); got != "" || err != api.ErrArg {
			t.Errorf("Name of %s = %.100q, %d", brief(bad), got, err)
		}
	}
}
