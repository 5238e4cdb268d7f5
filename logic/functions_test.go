package logic

import (
	"slices"
	"strings"
	"testing"

	"netwright/api"
)

// The results of P1.1 are written out here once more, row by row as the chapter has them, so that no table of the package checks itself.
func TestP1_1Op(t *testing.T) {
	pairs := [6][2]api.Bit{{b0, b0}, {b0, b1}, {b1, b1}, {b0, bx}, {b1, bx}, {bx, bx}}
	rows := map[string][6]api.Bit{
		"and":  {b0, b0, b1, b0, bx, bx},
		"or":   {b0, b1, b1, bx, b1, bx},
		"xor":  {b0, b1, b0, bx, bx, bx},
		"nand": {b1, b1, b0, b1, bx, bx},
		"nor":  {b1, b0, b0, bx, b0, bx},
		"xnor": {b1, b0, b1, bx, bx, bx},
	}
	for _, name := range everyOp() {
		seen := 0
		for _, a := range everyBit() {
			for _, b := range everyBit() {
				low, high := operand(a), operand(b)
				if low > high {
					low, high = high, low
				}
				i := slices.Index(pairs[:], [2]api.Bit{low, high})
				if got, err := Op(name, a, b); got != rows[name][i] || err != api.OK {
					t.Errorf("Op(%q, %d, %d) = %d, %d; want %d", name, a, b, got, err, rows[name][i])
				}
				seen++
			}
		}
		if seen != 16 {
			t.Errorf("%s: %d pairs", name, seen)
		}
	}
}

// operand returns a bit as an operand: z counts as x.
func operand(b api.Bit) api.Bit {
	if b == bz {
		return bx
	}
	return b
}

func TestP1_1OpRefuses(t *testing.T) {
	for _, name := range noOps() {
		for _, a := range everyBit() {
			for _, b := range everyBit() {
				if got, err := Op(name, a, b); got != 0 || err != api.ErrArg {
					t.Errorf("Op(%.20q, %d, %d) = %d, %d", name, a, b, got, err)
				}
			}
		}
	}
	for _, name := range append(everyOp(), "not") {
		for _, bad := range noBits() {
			for _, b := range append(everyBit(), noBits()...) {
				if got, err := Op(name, bad, b); got != 0 || err != api.ErrArg {
					t.Errorf("Op(%q, %d, %d) = %d, %d", name, bad, b, got, err)
				}
				if got, err := Op(name, b, bad); got != 0 || err != api.ErrArg {
					t.Errorf("Op(%q, %d, %d) = %d, %d", name, b, bad, got, err)
				}
			}
		}
	}
}

func TestP1_1Not(t *testing.T) {
	for a, want := range []api.Bit{b1, b0, bx, bx} {
		if got, err := Not(api.Bit(a)); got != want || err != api.OK {
			t.Errorf("Not(%d) = %d, %d; want %d", a, got, err, want)
		}
	}
	for _, bad := range noBits() {
		if got, err := Not(bad); got != 0 || err != api.ErrArg {
			t.Errorf("Not(%d) = %d, %d", bad, got, err)
		}
	}
}

func TestP1_2Resolve(t *testing.T) {
	for _, c := range []struct {
		l    []api.Bit
		want api.Bit
	}{
		{nil, bz}, {[]api.Bit{}, bz},
		{[]api.Bit{b0}, b0}, {[]api.Bit{b1}, b1}, {[]api.Bit{bx}, bx}, {[]api.Bit{bz}, bz},
		{[]api.Bit{bz, b1, bz}, b1}, {[]api.Bit{b0, b1}, bx}, {[]api.Bit{b1, b0}, bx},
		{[]api.Bit{bz, bz}, bz}, {[]api.Bit{b0, b0}, b0}, {[]api.Bit{b1, b1}, b1}, {[]api.Bit{bx, bx}, bx},
		{[]api.Bit{bz, b0}, b0}, {[]api.Bit{b0, bz}, b0}, {[]api.Bit{bz, bx}, bx}, {[]api.Bit{bx, bz}, bx},
		{[]api.Bit{bx, b0}, bx}, {[]api.Bit{bx, b1}, bx}, {[]api.Bit{b0, bx}, bx}, {[]api.Bit{b1, bx}, bx},
		{[]api.Bit{b0, b1, b0}, bx}, {[]api.Bit{b0, b1, bz}, bx}, {[]api.Bit{b1, b1, b1, b0}, bx},
		{filled(65, bz), bz}, {filled(5000, b1, bz), b1}, {append(filled(5000, b1, bz), b0), bx},
	} {
		if got, err := Resolve(c.l); got != c.want || err != api.OK {
			t.Errorf("Resolve(%.10v) = %d, %d; want %d", c.l, got, err, c.want)
		}
	}
}

func TestP1_2ResolveRefuses(t *testing.T) {
	for _, bad := range noBits() {
		for _, l := range [][]api.Bit{{bad}, {bad, b0}, {b0, bad}, {b0, b1, bad}, {bx, bad}, {bad, bad}, append(filled(100, bz), bad)} {
			if got, err := Resolve(l); got != 0 || err != api.ErrArg {
				t.Errorf("Resolve(%v) = %d, %d", l, got, err)
			}
		}
	}
}

func TestP1_3Is(t *testing.T) {
	for n := 1; n <= 64; n++ {
		if !Is(filled(n, b0, bx, b1, bz)) {
			t.Errorf("%d bits are a vector", n)
		}
	}
	for _, v := range everyVector(3) {
		if !Is(v) {
			t.Errorf("%v is a vector", v)
		}
	}
	for _, v := range noVectors() {
		if Is(v) {
			t.Errorf("%v is no vector", v)
		}
	}
}

func TestP1_3Known(t *testing.T) {
	for _, v := range append(everyVector(3), longVectors()...) {
		want := !slices.Contains(v, bx) && !slices.Contains(v, bz)
		if got, err := Known(v); got != want || err != api.OK {
			t.Errorf("Known(%v) = %t, %d", v, got, err)
		}
	}
	for i := range 64 {
		for _, b := range []api.Bit{bx, bz} {
			v := filled(64, b1, b0)
			v[i] = b
			if got, err := Known(v); got || err != api.OK {
				t.Errorf("Known with %d at %d = %t, %d", b, i, got, err)
			}
		}
	}
	for _, v := range noVectors() {
		if got, err := Known(v); got || err != api.ErrArg {
			t.Errorf("Known(%v) = %t, %d", v, got, err)
		}
	}
}

func TestP1_4Map(t *testing.T) {
	for _, name := range everyOp() {
		for _, a := range everyVector(2) {
			for _, b := range everyVector(2) {
				checkMap(t, name, a, b)
			}
		}
		for _, n := range []int{1, 63, 64} {
			for _, b := range everyBit() {
				checkMap(t, name, filled(n, b0, b1, bx, bz, b1), filled(n, b, b1, bx, b0, bz, b))
			}
		}
	}
}

func checkMap(t *testing.T, name string, a, b []api.Bit) {
	t.Helper()
	keptA, keptB := slices.Clone(a), slices.Clone(b)
	got, err := Map(name, a, b)
	if err != api.OK || len(got) != len(a) {
		t.Fatalf("Map(%q, %v, %v) = %v, %d", name, a, b, got, err)
	}
	for i := range got {
		if got[i] != op(t, name, a[i], b[i]) {
			t.Errorf("Map(%q, %v, %v) = %v", name, a, b, got)
		}
		got[i] = 9
	}
	if !slices.Equal(a, keptA) || !slices.Equal(b, keptB) {
		t.Errorf("Map(%q, %v, %v) changes an argument or shares its memory", name, keptA, keptB)
	}
}

func TestP1_4MapRefuses(t *testing.T) {
	refused := func(name string, a, b []api.Bit) {
		t.Helper()
		if got, err := Map(name, a, b); len(got) != 0 || err != api.ErrArg {
			t.Errorf("Map(%.20q, %v, %v) = %v, %d", name, a, b, got, err)
		}
	}
	for _, name := range noOps() {
		refused(name, []api.Bit{b1}, []api.Bit{b0})
		refused(name, filled(64, b1), filled(64, b0))
		refused(name, nil, nil)
	}
	for _, name := range everyOp() {
		for _, v := range noVectors() {
			refused(name, v, v)
			refused(name, v, filled(max(1, min(64, len(v))), b1))
			refused(name, filled(max(1, min(64, len(v))), b1), v)
		}
		refused(name, filled(1, b1), filled(2, b1))
		refused(name, filled(2, b1), filled(1, b1))
		refused(name, filled(64, b1), filled(63, b1))
		refused(name, filled(63, b1), filled(64, b1))
	}
}

func TestP1_4Inverse(t *testing.T) {
	for _, v := range append(everyVector(3), longVectors()...) {
		kept := slices.Clone(v)
		got, err := Inverse(v)
		if err != api.OK || len(got) != len(v) {
			t.Fatalf("Inverse(%v) = %v, %d", v, got, err)
		}
		for i := range got {
			if got[i] != not(t, v[i]) {
				t.Errorf("Inverse(%v) = %v", v, got)
			}
			got[i] = 9
		}
		if !slices.Equal(v, kept) {
			t.Errorf("Inverse(%v) changes its argument or shares its memory", kept)
		}
	}
	for _, v := range noVectors() {
		if got, err := Inverse(v); len(got) != 0 || err != api.ErrArg {
			t.Errorf("Inverse(%v) = %v, %d", v, got, err)
		}
	}
}

func TestP1_4Join(t *testing.T) {
	for _, a := range everyVector(2) {
		checkJoin(t, a)
		for _, b := range everyVector(2) {
			checkJoin(t, a, b)
			for _, c := range everyVector(2) {
				checkJoin(t, a, b, c)
			}
		}
	}
	long := filled(64, b0, b1, bx, bz, bz)
	checkJoin(t, long)
	checkJoin(t, long, filled(64, bz), filled(64, b1, bz, bz), long)
	checkJoin(t, slices.Repeat([][]api.Bit{{b1}, {bz}}, 100)...)
}

func checkJoin(t *testing.T, l ...[]api.Bit) {
	t.Helper()
	var kept [][]api.Bit
	for _, v := range l {
		kept = append(kept, slices.Clone(v))
	}
	got, err := Join(l)
	if err != api.OK || len(got) != len(l[0]) {
		t.Fatalf("Join(%v) = %v, %d", l, got, err)
	}
	for i := range got {
		var column []api.Bit
		for _, v := range kept {
			column = append(column, v[i])
		}
		if got[i] != resolve(t, column...) {
			t.Errorf("Join(%v) = %v", kept, got)
		}
		got[i] = 9
	}
	if !slices.EqualFunc(l, kept, slices.Equal) {
		t.Errorf("Join(%v) changes its argument or shares its memory", kept)
	}
}

func TestP1_4JoinRefuses(t *testing.T) {
	refused := func(l ...[]api.Bit) {
		t.Helper()
		if got, err := Join(l); len(got) != 0 || err != api.ErrArg {
			t.Errorf("Join(%v) = %v, %d", l, got, err)
		}
	}
	refused()
	if got, err := Join([][]api.Bit{}); len(got) != 0 || err != api.ErrArg {
		t.Errorf("Join of nothing = %v, %d", got, err)
	}
	for _, v := range noVectors() {
		good := filled(max(1, min(64, len(v))), bz)
		refused(v)
		refused(v, v)
		refused(v, good)
		refused(good, v)
		refused(good, good, v)
	}
	refused(filled(1, b1), filled(2, b1))
	refused(filled(2, b1), filled(1, b1))
	refused(filled(64, b1), filled(64, b1), filled(63, b1))
	refused(filled(63, b1), filled(64, b1), filled(63, b1))
}

func TestP1_5Edge(t *testing.T) {
	for _, before := range everyBit() {
		for _, now := range everyBit() {
			want := 0
			switch [2]api.Bit{before, now} {
			case [2]api.Bit{b0, b1}:
				want = 1
			case [2]api.Bit{b1, b0}:
				want = -1
			}
			if got, err := Edge(before, now); got != want || err != api.OK {
				t.Errorf("Edge(%d, %d) = %d, %d; want %d", before, now, got, err, want)
			}
		}
		for _, bad := range noBits() {
			if got, err := Edge(before, bad); got != 0 || err != api.ErrArg {
				t.Errorf("Edge(%d, %d) = %d, %d", before, bad, got, err)
			}
			if got, err := Edge(bad, before); got != 0 || err != api.ErrArg {
				t.Errorf("Edge(%d, %d) = %d, %d", bad, before, got, err)
			}
			if got, err := Edge(bad, bad); got != 0 || err != api.ErrArg {
				t.Errorf("Edge(%d, %d) = %d, %d", bad, bad, got, err)
			}
		}
	}
}

func TestP1_6Text(t *testing.T) {
	for _, c := range []struct {
		v    []api.Bit
		want string
	}{
		{[]api.Bit{b1, b0, b0, bx}, "x001"},
		{[]api.Bit{b0}, "0"}, {[]api.Bit{b1}, "1"}, {[]api.Bit{bx}, "x"}, {[]api.Bit{bz}, "z"},
		{[]api.Bit{b0, b1}, "10"}, {[]api.Bit{b0, b1, bx, bz}, "zx10"},
		{filled(64, b1), strings.Repeat("1", 64)},
		{filled(64, b0, b1, bx, bz), strings.Repeat("zx10", 16)},
		{append(filled(63, bz), b1), "1" + strings.Repeat("z", 63)},
	} {
		if got, err := Text(c.v); got != c.want || err != api.OK {
			t.Errorf("Text(%v) = %q, %d; want %q", c.v, got, err, c.want)
		}
	}
	for _, v := range noVectors() {
		if got, err := Text(v); got != "" || err != api.ErrArg {
			t.Errorf("Text(%v) = %q, %d", v, got, err)
		}
	}
}

func TestP1_6Parse(t *testing.T) {
	for _, c := range []struct {
		s    string
		want []api.Bit
	}{
		{"x001", []api.Bit{b1, b0, b0, bx}},
		{"0", []api.Bit{b0}}, {"1", []api.Bit{b1}}, {"x", []api.Bit{bx}}, {"z", []api.Bit{bz}},
		{"10", []api.Bit{b0, b1}}, {"zx10", []api.Bit{b0, b1, bx, bz}},
		{strings.Repeat("1", 64), filled(64, b1)},
		{"x" + strings.Repeat("0", 63), append(filled(63, b0), bx)},
	} {
		if got, err := Parse(c.s); !slices.Equal(got, c.want) || err != api.OK {
			t.Errorf("Parse(%q) = %v, %d; want %v", c.s, got, err, c.want)
		}
	}
}

func TestP1_6ParseRefuses(t *testing.T) {
	bad := []string{"", strings.Repeat("0", 65), strings.Repeat("z", 66), strings.Repeat("1", 100000), "01 ", " 01", "0 1", "é", "0\n", "01é", "-1", "0b1", "b\"01\"", "'0'", "0_1", "X", "Z", "x0Z1", "\xf0"}
	for c := range 256 {
		if strings.IndexByte("01xz", byte(c)) < 0 {
			one := string([]byte{byte(c)})
			bad = append(bad, one, "0"+one, one+"1", "x"+one+"z", strings.Repeat("1", 63)+one)
		}
	}
	for _, s := range bad {
		if got, err := Parse(s); len(got) != 0 || err != api.ErrForm {
			t.Errorf("Parse(%.80q) = %v, %d", s, got, err)
		}
	}
}

func TestP1_7Covers(t *testing.T) {
	for _, c := range []struct {
		a, b []api.Bit
		want bool
	}{
		{[]api.Bit{b1, b0, b0, bx}, []api.Bit{b1, b0, b0, b1}, true},
		{[]api.Bit{b1, b0, b0, b1}, []api.Bit{b1, b0, b0, bx}, false},
		{[]api.Bit{b1, b0}, []api.Bit{b1, b1}, false},
		{[]api.Bit{b0, b1}, []api.Bit{b1, b1}, false},
		{filled(64, bx), filled(64, b0, b1, bz, bx), true},
		{filled(64, bz), filled(64, b0, b1, bz, bx), true},
		{filled(64, b0, b1), filled(64, b0, b1), true},
		{append(filled(63, b1), b0), filled(64, b1), false},
	} {
		if got := covers(t, c.a, c.b); got != c.want {
			t.Errorf("Covers(%v, %v) = %t", c.a, c.b, got)
		}
	}
	for _, a := range everyVector(2) {
		for _, b := range everyVector(2) {
			want := true
			for i := range a {
				want = want && (a[i] == bx || a[i] == bz || a[i] == b[i])
			}
			if got := covers(t, a, b); got != want {
				t.Errorf("Covers(%v, %v) = %t", a, b, got)
			}
		}
	}
}

func TestP1_7CoversRefuses(t *testing.T) {
	refused := func(a, b []api.Bit) {
		t.Helper()
		if got, err := Covers(a, b); got || err != api.ErrArg {
			t.Errorf("Covers(%v, %v) = %t, %d", a, b, got, err)
		}
	}
	for _, v := range noVectors() {
		good := filled(max(1, min(64, len(v))), bx)
		refused(v, v)
		refused(v, good)
		refused(good, v)
	}
	// The first bits of both decide that b is not covered, and yet the last one is looked at.
	refused([]api.Bit{b0, b0}, []api.Bit{b1, 4})
	refused(filled(1, bx), filled(2, bx))
	refused(filled(2, bx), filled(1, bx))
	refused(filled(64, bx), filled(63, bx))
	refused(filled(63, bx), filled(64, bx))
}
