package vec

import (
	"slices"
	"strings"
	"testing"

	"netwright/api"
	"netwright/logic"
)

type operation = func(a, b []api.Bit) ([]api.Bit, api.Errno)

// of returns what a call gives that is to succeed.
func of(t *testing.T, call operation, a, b []api.Bit) []api.Bit {
	t.Helper()
	got, err := call(a, b)
	if err != api.OK {
		t.Fatalf("of %v and %v: error %d", a, b, err)
	}
	return got
}

// everyTriple calls f with all triples of vectors of one length, 1 to n, of the letters, and with long ones.
func everyTriple(t *testing.T, n int, letters string, f func(a, b, c []api.Bit)) {
	var groups [][]string
	for length := 1; length <= n; length++ {
		groups = append(groups, everyText(length, letters))
	}
	groups = append(groups, knownTexts(31), knownTexts(63), knownTexts(64))
	for _, group := range groups {
		for _, a := range group {
			for _, b := range group {
				for _, c := range group {
					f(vector(t, a), vector(t, b), vector(t, c))
				}
			}
		}
	}
}

func TestP2_8Order(t *testing.T) {
	everyTriple(t, 2, "01xz", func(a, b, c []api.Bit) {
		for name, call := range map[string]operation{"Add": Add, "Mul": Mul} {
			if !slices.Equal(of(t, call, a, b), of(t, call, b, a)) {
				t.Errorf("%s of %v and %v depends on their order", name, a, b)
			}
			if !slices.Equal(of(t, call, of(t, call, a, b), c), of(t, call, a, of(t, call, b, c))) {
				t.Errorf("%s of %v, %v and %v is not associative", name, a, b, c)
			}
		}
	})
}

func TestP2_8Sums(t *testing.T) {
	everyTriple(t, 3, "01", func(a, b, c []api.Bit) {
		if !slices.Equal(of(t, Mul, a, of(t, Add, b, c)), of(t, Add, of(t, Mul, a, b), of(t, Mul, a, c))) {
			t.Errorf("%v times the sum of %v and %v is not the sum of the products", a, b, c)
		}
		if !slices.Equal(of(t, Sub, of(t, Add, a, b), b), a) {
			t.Errorf("Sub of Add of %v is not %v", b, a)
		}
	})
}

func TestP2_9LeftIsMul(t *testing.T) {
	texts := shortTexts(5, "01")
	for _, n := range longLengths() {
		texts = append(texts, knownTexts(n)...)
	}
	for _, s := range texts {
		v := vector(t, s)
		for k := range len(v) {
			power, err := Of(1<<k, len(v))
			if err != api.OK {
				t.Fatalf("Of(1<<%d, %d): error %d", k, len(v), err)
			}
			shifted, err := Left(v, k)
			if !slices.Equal(shifted, of(t, Mul, v, power)) || err != api.OK {
				t.Errorf("Left(%q, %d) = %v, %d", s, k, shifted, err)
			}
		}
	}
}

func TestP2_9RightOfLeft(t *testing.T) {
	for _, s := range somePieces() {
		for k := range len(s) + 3 {
			shifted, err := Left(vector(t, s), k)
			if err != api.OK {
				t.Fatalf("Left(%q, %d): error %d", s, k, err)
			}
			zeros := min(k, len(s))
			wantVector(t, "Right of Left of "+s, strings.Repeat("0", zeros)+s[zeros:])(Right(shifted, k))
		}
	}
}

func TestP2_10Cat(t *testing.T) {
	for _, s := range somePieces() {
		v := vector(t, s)
		for place := 1; place < len(v); place++ {
			high, err := Slice(v, len(v)-1, place)
			if err != api.OK {
				t.Fatalf("Slice above %d of %q: error %d", place, s, err)
			}
			low, err := Slice(v, place-1, 0)
			if err != api.OK {
				t.Fatalf("Slice below %d of %q: error %d", place, s, err)
			}
			wantVector(t, "Cat of the Slices of "+s, s)(Cat(high, low))
		}
	}
}

func TestP2_10Put(t *testing.T) {
	for _, s := range somePieces() {
		for h := range len(s) {
			for l := range h + 1 {
				w := strings.Repeat("0x1z", 16)[:h-l+1]
				put, err := Put(vector(t, s), h, l, vector(t, w))
				if err != api.OK {
					t.Fatalf("Put(%q, %d, %d, %q): error %d", s, h, l, w, err)
				}
				wantVector(t, "Slice of Put", w)(Slice(put, h, l))
				if h+1 < len(s) {
					wantVector(t, "above Put", s[:len(s)-1-h])(Slice(put, len(s)-1, h+1))
				}
				if l > 0 {
					wantVector(t, "below Put", s[len(s)-l:])(Slice(put, l-1, 0))
				}
			}
		}
	}
}

func TestP2_11Order(t *testing.T) {
	everyTriple(t, 3, "01", func(a, b, _ []api.Bit) {
		for _, less := range comparisons()[:2] {
			held := 0
			for _, c := range []struct {
				call comparison
				a, b []api.Bit
			}{{less, a, b}, {less, b, a}, {comparison{"Same", Same}, a, b}} {
				holds, err := c.call.of(c.a, c.b)
				if err != api.OK {
					t.Fatalf("%s(%v, %v): error %d", c.call.name, c.a, c.b, err)
				}
				if holds {
					held++
				}
			}
			if held != 1 {
				t.Errorf("%d of %s, its opposite and Same hold for %v and %v", held, less.name, a, b)
			}
		}
	})
}

func TestP2_12MoreKnown(t *testing.T) {
	for n := 1; n <= 2; n++ {
		var pairs [][2][]api.Bit
		for _, less := range everyText(n, "01xz") {
			for _, more := range everyText(n, "01xz") {
				if covers(t, vector(t, less), vector(t, more)) {
					pairs = append(pairs, [2][]api.Bit{vector(t, less), vector(t, more)})
				}
			}
		}
		for _, s := range sums() {
			for _, a := range pairs {
				for _, b := range pairs {
					less, more := of(t, s.of, a[0], b[0]), of(t, s.of, a[1], b[1])
					if !covers(t, less, more) {
						t.Errorf("%s of %v and %v is %v, of %v and %v %v", s.name, a[0], b[0], less, a[1], b[1], more)
					}
				}
			}
		}
	}
}

func covers(t *testing.T, a, b []api.Bit) bool {
	t.Helper()
	got, err := logic.Covers(a, b)
	if err != api.OK {
		t.Fatalf("Covers(%v, %v): error %d", a, b, err)
	}
	return got
}

func TestP2_13Ints(t *testing.T) {
	for _, a := range someInts() {
		for _, b := range someInts() {
			if b == 0 {
				continue
			}
			rest, err := Int("mod", a, b)
			if err != api.OK {
				t.Fatalf("Int(mod, %d, %d): error %d", a, b, err)
			}
			if b > 0 && (rest < 0 || rest >= b) || b < 0 && (rest > 0 || rest <= b) {
				t.Errorf("Int(mod, %d, %d) = %d", a, b, rest)
			}
			quotient, err := Int("/", a, b)
			if err == api.ErrRange && a == -1<<31 && b == -1 {
				continue
			}
			if a != b*quotient+rest || err != api.OK {
				t.Errorf("of %d and %d: quotient %d, %d, mod %d", a, b, quotient, err, rest)
			}
		}
	}
}
