package logic

import (
	"slices"
	"testing"

	"netwright/api"
)

func TestP1_8OrderOfOperands(t *testing.T) {
	for _, name := range everyOp() {
		for _, a := range everyBit() {
			for _, b := range everyBit() {
				if op(t, name, a, b) != op(t, name, b, a) {
					t.Errorf("%s of %d and %d depends on their order", name, a, b)
				}
			}
		}
	}
}

func TestP1_8OrderOfResolve(t *testing.T) {
	for n := range 6 {
		for _, l := range everyVector(n) {
			rising := slices.Clone(l)
			slices.Sort(rising)
			falling := slices.Clone(rising)
			slices.Reverse(falling)
			want := resolve(t, l...)
			if resolve(t, rising...) != want || resolve(t, falling...) != want {
				t.Errorf("Resolve(%v) depends on the order", l)
			}
		}
	}
}

func TestP1_8Associative(t *testing.T) {
	for _, name := range []string{"and", "or"} {
		for _, v := range everyVector(3) {
			left := op(t, name, op(t, name, v[0], v[1]), v[2])
			right := op(t, name, v[0], op(t, name, v[1], v[2]))
			if left != right {
				t.Errorf("%s of %v is %d or %d", name, v, left, right)
			}
		}
	}
}

func TestP1_8Numbers(t *testing.T) {
	for _, a := range []api.Bit{b0, b1} {
		for _, b := range []api.Bit{b0, b1} {
			numbers := map[string]api.Bit{
				"and": a & b, "or": a | b, "xor": a ^ b,
				"nand": 1 &^ (a & b), "nor": 1 &^ (a | b), "xnor": 1 &^ (a ^ b),
			}
			for _, name := range everyOp() {
				if got := op(t, name, a, b); got != numbers[name] {
					t.Errorf("%s of %d and %d is %d", name, a, b, got)
				}
			}
		}
	}
}

func TestP1_9Opposites(t *testing.T) {
	for _, a := range everyBit() {
		for _, b := range everyBit() {
			if not(t, op(t, "and", a, b)) != op(t, "or", not(t, a), not(t, b)) {
				t.Errorf("not (%d and %d)", a, b)
			}
			for plain, inverse := range map[string]string{"and": "nand", "or": "nor", "xor": "xnor"} {
				if not(t, op(t, plain, a, b)) != op(t, inverse, a, b) {
					t.Errorf("not (%d %s %d) is not %s", a, plain, b, inverse)
				}
			}
		}
	}
}

func TestP1_10MoreKnown(t *testing.T) {
	for _, name := range everyOp() {
		for _, v := range everyVector(4) {
			a, b, moreA, moreB := v[0], v[1], v[2], v[3]
			if !covers(t, []api.Bit{a}, []api.Bit{moreA}) || !covers(t, []api.Bit{b}, []api.Bit{moreB}) {
				continue
			}
			less, more := op(t, name, a, b), op(t, name, moreA, moreB)
			if !covers(t, []api.Bit{less}, []api.Bit{more}) {
				t.Errorf("%s of %d and %d is %d, of %d and %d %d", name, a, b, less, moreA, moreB, more)
			}
		}
	}
}

func TestP1_11Resolving(t *testing.T) {
	for _, b := range everyBit() {
		if resolve(t, b, bz) != b || resolve(t, bz, b) != b {
			t.Errorf("z changes %d", b)
		}
		if resolve(t, b, b) != b {
			t.Errorf("%d with itself is %d", b, resolve(t, b, b))
		}
		if resolve(t, b, bx) != bx || resolve(t, bx, b) != bx {
			t.Errorf("x does not stay x with %d", b)
		}
	}
	for _, v := range everyVector(4) {
		if slices.Contains(v, bx) && resolve(t, v...) != bx {
			t.Errorf("x does not stay x in %v", v)
		}
		if resolve(t, append(slices.Clone(v), bz)...) != resolve(t, v...) {
			t.Errorf("z changes %v", v)
		}
	}
}

func TestP1_12Strings(t *testing.T) {
	vectors := longVectors()
	for n := 1; n <= 5; n++ {
		vectors = append(vectors, everyVector(n)...)
	}
	for _, v := range vectors {
		s, err := Text(v)
		if err != api.OK {
			t.Fatalf("Text(%v): error %d", v, err)
		}
		back, err := Parse(s)
		if !slices.Equal(back, v) || err != api.OK {
			t.Errorf("Parse(Text(%v)) = %v, %d", v, back, err)
		}
		if again, err := Text(back); again != s || err != api.OK {
			t.Errorf("Text(Parse(%q)) = %q, %d", s, again, err)
		}
	}
}
