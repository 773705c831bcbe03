package tests

import (
	"math"
	"regexp"
	"slices"
	"strings"
	"testing"

	"loop.example/loopnests/impl"
)

func lin(constant int, coefs ...int) impl.Affine {
	return impl.Affine{Coefs: coefs, Const: constant}
}

func parsed(t *testing.T, text string) impl.Affine {
	t.Helper()
	a, ok := impl.ParseAffine(text)
	if !ok {
		t.Fatalf("ParseAffine(%q) returns false", text)
	}
	return a
}

func isZero(a impl.Affine) bool {
	return len(a.Coefs) == 0 && a.Const == 0
}

// invalidAffines are expressions with a wrong number of coefficients, or with numbers beyond the limits.
func invalidAffines() []impl.Affine {
	list := []impl.Affine{
		{},
		lin(0),
		lin(1, 1),
		lin(1, 1, 2, 3),
		lin(1, 1, 2, 3, 4, 0),
		lin(100, 0, 0, 0, 0),
		lin(-100, 0, 0, 0, 0),
		lin(math.MaxInt, 1, 0, 0, 0),
		lin(math.MinInt, 1, 0, 0, 0),
	}
	for v := range impl.MaxVars {
		for _, n := range []int{10, -10, math.MaxInt, math.MinInt} {
			a := lin(1, 1, 1, 1, 1)
			a.Coefs[v] = n
			list = append(list, a)
		}
	}
	return list
}

// sampleAffines are valid expressions, with all limits among their numbers.
func sampleAffines() []impl.Affine {
	var list []impl.Affine
	for _, c := range []int{-99, -7, 0, 1, 99} {
		for _, n := range []int{-9, -1, 0, 4, 9} {
			list = append(list,
				lin(c, n, 0, 0, 0), lin(c, 0, n, 0, 0), lin(c, 0, 0, n, 0), lin(c, 0, 0, 0, n),
				lin(c, n, 1, -1, n), lin(-c, 2, n, -n, 3))
		}
	}
	return list
}

func samplePoints() [][]int {
	return [][]int{
		{}, {5}, {-3, 8}, {1, 2, 3}, {7, -11, 13, -17}, {0, 0, 0, 1},
		{9999, -9999, 9999, -9999}, {-9999, -9999, -9999, -9999}, {9999, 9999, 9999, 9999},
	}
}

// badPoints are lists that are no points.
func badPoints() [][]int {
	return [][]int{
		{0, 0, 0, 0, 0}, {1, 2, 3, 4, 5, 6}, {10000}, {-10000}, {0, 10000}, {0, 0, 0, -10000},
		{math.MaxInt}, {math.MinInt, 0}, {0, 0, math.MinInt},
	}
}

// valueAt computes the value of an expression directly from the definition.
func valueAt(a impl.Affine, point []int) int {
	sum := a.Const
	for v, n := range a.Coefs {
		if v < len(point) {
			sum += n * point[v]
		}
	}
	return sum
}

func TestAffineValid(t *testing.T) {
	for _, a := range append(sampleAffines(), lin(0, 0, 0, 0, 0), lin(99, 9, 9, 9, 9), lin(-99, -9, -9, -9, -9)) {
		if !impl.AffineValid(a) {
			t.Errorf("AffineValid(%v) = false", a)
		}
	}
	for _, a := range invalidAffines() {
		if impl.AffineValid(a) {
			t.Errorf("AffineValid(%v) = true", a)
		}
	}
}

func TestAffineSame(t *testing.T) {
	cases := []struct {
		a, b impl.Affine
		same bool
	}{
		{lin(3, 2, -1, 0, 0), lin(3, 2, -1, 0, 0), true},
		{lin(3, 2, -1, 0, 0), lin(4, 2, -1, 0, 0), false},
		{lin(3, 2, -1, 0, 0), lin(3, -1, 2, 0, 0), false},
		{lin(3, 2, -1, 0, 0), lin(3, 2, -1, 0, 1), false},
		{lin(3, 2, -1, 0, 0), lin(-3, 2, -1, 0, 0), false},
		{lin(3, 2, -1, 0, 0), lin(3, 2, -1), false},
		{impl.Affine{}, impl.Affine{Coefs: []int{}}, true},
		{impl.Affine{}, lin(0, 0, 0, 0, 0), false},
		{lin(500, 77), lin(500, 77), true},
		{lin(500, 77), lin(501, 77), false},
		{lin(1, 1, 2, 3, 4, 5), lin(1, 1, 2, 3, 4, 5), true},
		{lin(1, 1, 2, 3, 4, 5), lin(1, 1, 2, 3, 4), false},
	}
	for _, c := range cases {
		if impl.AffineSame(c.a, c.b) != c.same || impl.AffineSame(c.b, c.a) != c.same {
			t.Errorf("AffineSame(%v, %v) is not %v", c.a, c.b, c.same)
		}
	}
}

func TestAffineTexts(t *testing.T) {
	cases := []struct {
		a    impl.Affine
		text string
	}{
		{lin(0, 0, 0, 0, 0), "0"},
		{lin(5, 0, 0, 0, 0), "5"},
		{lin(-5, 0, 0, 0, 0), "-5"},
		{lin(10, 0, 0, 0, 0), "10"},
		{lin(99, 0, 0, 0, 0), "99"},
		{lin(-99, 0, 0, 0, 0), "-99"},
		{lin(0, 1, 0, 0, 0), "i"},
		{lin(0, -1, 0, 0, 0), "-i"},
		{lin(0, 0, 1, 0, 0), "j"},
		{lin(0, 0, 0, 1, 0), "k"},
		{lin(0, 0, 0, 0, -1), "-l"},
		{lin(0, 2, 0, 0, 0), "2*i"},
		{lin(0, -2, 0, 0, 0), "-2*i"},
		{lin(3, 2, -1, 0, 0), "2*i-j+3"},
		{lin(-1, 0, -3, 0, 1), "-3*j+l-1"},
		{lin(1, 1, 1, 1, 1), "i+j+k+l+1"},
		{lin(-1, -1, -1, -1, -1), "-i-j-k-l-1"},
		{lin(99, 9, 9, 9, 9), "9*i+9*j+9*k+9*l+99"},
		{lin(-99, -9, -9, -9, -9), "-9*i-9*j-9*k-9*l-99"},
	}
	for _, c := range cases {
		if s := impl.FormatAffine(c.a); s != c.text {
			t.Errorf("FormatAffine(%v) = %q, not %q", c.a, s, c.text)
		}
		if a, ok := impl.ParseAffine(c.text); !ok || !impl.AffineSame(a, c.a) {
			t.Errorf("ParseAffine(%q) = %v, %v", c.text, a, ok)
		}
	}
	for _, a := range invalidAffines() {
		if s := impl.FormatAffine(a); s != "" {
			t.Errorf("FormatAffine(%v) = %q", a, s)
		}
	}
}

func TestAffineTextsAreReadBack(t *testing.T) {
	coefs := []int{-9, -2, -1, 0, 1, 5, 9}
	for _, i := range coefs {
		for _, j := range coefs {
			for _, k := range coefs {
				for _, l := range coefs {
					for _, c := range []int{-99, -10, -1, 0, 1, 99} {
						a := lin(c, i, j, k, l)
						text := impl.FormatAffine(a)
						if b, ok := impl.ParseAffine(text); !ok || !impl.AffineSame(a, b) {
							t.Fatalf("ParseAffine(%q) = %v, %v, not %v", text, b, ok, a)
						}
					}
				}
			}
		}
	}
}

func TestParseAffineRefuses(t *testing.T) {
	texts := []string{
		"", "+", "-", "*", "+i", "+5", "+0", "-0", "--i", "-+i", "+-i", "i++j", "i+-j", "i-", "i+", "5-", "5+",
		"1*i", "-1*i", "0*i", "00", "01", "-01", "2*j+01", "02*i", "10*i", "-10*i", "100", "-100", "i+100", "i-100",
		"i+0", "i-0", "0+i", "j+i", "i+i", "i-i", "2*i+3*i", "1+i", "3+4", "i+3+4", "2i", "i2", "i*2", "2*", "*i",
		"2**i", "2*3", "2*-i", "m", "h", "I", "ij", "i j", " i", "i ", "i +j", "i\n", "\ni", "i\x00", "\x00", "\xff", "é",
		"0x1", "1_0", "1e1", "1.0", "(i)", "i,j", "{i}",
		"99999999999999999999", "-99999999999999999999*i", "99999999999999999999i", "18446744073709551617",
		"18446744073709551617*i", "9223372036854775807+i", "-9223372036854775808",
		strings.Repeat("i+", 5000) + "i", strings.Repeat("9", 5000), strings.Repeat("-", 5000),
	}
	for _, s := range texts {
		if a, ok := impl.ParseAffine(s); ok || !isZero(a) {
			t.Errorf("ParseAffine(%.40q) = %v, %v", s, a, ok)
		}
	}
}

// TestParseAffineAllShortTexts compares ParseAffine with a regular expression for all short texts.
func TestParseAffineAllShortTexts(t *testing.T) {
	// A text that does not begin with a sign is matched with `+` in front of it.
	form := regexp.MustCompile(`^([+-]([2-9]\*)?i)?([+-]([2-9]\*)?j)?([+-]([2-9]\*)?k)?([+-]([2-9]\*)?l)?([+-][1-9][0-9]?)?$`)
	expected := func(s string) bool {
		if s == "" || s[0] == '+' {
			return false
		}
		return s == "0" || s[0] == '-' && form.MatchString(s) || s[0] != '-' && form.MatchString("+"+s)
	}
	accepted := 0
	var visit func(s string)
	visit = func(s string) {
		a, ok := impl.ParseAffine(s)
		if ok != expected(s) || ok && impl.FormatAffine(a) != s || !ok && !isZero(a) {
			t.Errorf("ParseAffine(%q) = %v, %v", s, a, ok)
		}
		if ok {
			accepted++
		}
		if len(s) == 5 {
			return
		}
		for _, b := range "+-*0129ijlm" {
			visit(s + string(b))
		}
	}
	visit("")
	if accepted < 200 {
		t.Errorf("only %d texts are accepted", accepted)
	}
}

func TestEvalAffine(t *testing.T) {
	a := lin(3, 2, -1, 4, -9)
	cases := []struct {
		point []int
		value int
	}{
		{nil, 3},
		{[]int{}, 3},
		{[]int{2}, 7},
		{[]int{2, 1}, 6},
		{[]int{2, 1, -2}, -2},
		{[]int{2, 1, -2, 1}, -11},
		{[]int{9999, -9999, 9999, -9999}, 3 + 16*9999},
		{[]int{-9999, 9999, -9999, 9999}, 3 - 16*9999},
	}
	for _, c := range cases {
		if n := impl.EvalAffine(a, c.point); n != c.value {
			t.Errorf("EvalAffine(%v) = %d, not %d", c.point, n, c.value)
		}
	}
	for _, a := range sampleAffines() {
		for _, p := range samplePoints() {
			if n := impl.EvalAffine(a, p); n != valueAt(a, p) {
				t.Errorf("EvalAffine(%v, %v) = %d", a, p, n)
			}
		}
	}
}

func TestEvalAffineRefuses(t *testing.T) {
	for _, p := range badPoints() {
		if n := impl.EvalAffine(lin(3, 2, 1, 1, 1), p); n != 0 {
			t.Errorf("EvalAffine at %v = %d", p, n)
		}
	}
	for _, a := range invalidAffines() {
		if n := impl.EvalAffine(a, []int{1}); n != 0 {
			t.Errorf("EvalAffine(%v) = %d", a, n)
		}
	}
}

// checkResult checks that a result is exactly the expression want, or that it is refused if want is not valid.
func checkResult(t *testing.T, what string, got impl.Affine, ok bool, want impl.Affine) {
	t.Helper()
	if ok != impl.AffineValid(want) {
		t.Errorf("%s returns %v, not %v", what, ok, !ok)
	} else if ok && !impl.AffineSame(got, want) {
		t.Errorf("%s = %v, not %v", what, got, want)
	} else if !ok && !isZero(got) {
		t.Errorf("%s = %v with false", what, got)
	}
}

func TestAddAffine(t *testing.T) {
	for _, a := range sampleAffines() {
		for _, b := range sampleAffines() {
			want := lin(a.Const+b.Const, 0, 0, 0, 0)
			for v := range want.Coefs {
				want.Coefs[v] = a.Coefs[v] + b.Coefs[v]
			}
			sum, ok := impl.AddAffine(a, b)
			checkResult(t, "AddAffine", sum, ok, want)
			for _, p := range samplePoints() {
				if ok && impl.EvalAffine(sum, p) != valueAt(a, p)+valueAt(b, p) {
					t.Errorf("AddAffine(%v, %v) is wrong at %v", a, b, p)
				}
			}
		}
	}
}

func TestScaleAffine(t *testing.T) {
	for _, a := range sampleAffines() {
		for k := -120; k <= 120; k++ {
			want := lin(k*a.Const, 0, 0, 0, 0)
			for v := range want.Coefs {
				want.Coefs[v] = k * a.Coefs[v]
			}
			if k < -99 || k > 99 {
				want = impl.Affine{}
			}
			product, ok := impl.ScaleAffine(a, k)
			checkResult(t, "ScaleAffine", product, ok, want)
			for _, p := range samplePoints() {
				if ok && impl.EvalAffine(product, p) != k*valueAt(a, p) {
					t.Errorf("ScaleAffine(%v, %d) is wrong at %v", a, k, p)
				}
			}
		}
	}
}

// TestScaleAffineFactors checks the limits of the factor with expressions that any factor would leave valid.
func TestScaleAffineFactors(t *testing.T) {
	zero, one := lin(0, 0, 0, 0, 0), lin(1, 0, 0, 0, 0)
	for _, k := range []int{-99, -1, 0, 1, 99} {
		a, ok := impl.ScaleAffine(one, k)
		checkResult(t, "ScaleAffine", a, ok, lin(k, 0, 0, 0, 0))
		a, ok = impl.ScaleAffine(zero, k)
		checkResult(t, "ScaleAffine", a, ok, zero)
	}
	for _, k := range []int{-100, 100, math.MaxInt, math.MinInt} {
		a, ok := impl.ScaleAffine(zero, k)
		checkResult(t, "ScaleAffine", a, ok, impl.Affine{})
	}
	// Twice this factor is 0 in 64 bits.
	a, ok := impl.ScaleAffine(lin(2, 2, 0, 0, 0), math.MinInt)
	checkResult(t, "ScaleAffine", a, ok, impl.Affine{})
}

func TestSubstAffine(t *testing.T) {
	for _, a := range sampleAffines() {
		for _, b := range sampleAffines() {
			for v := range impl.MaxVars {
				n := a.Coefs[v]
				want := lin(a.Const+n*b.Const, 0, 0, 0, 0)
				for w := range want.Coefs {
					want.Coefs[w] = n * b.Coefs[w]
					if w != v {
						want.Coefs[w] += a.Coefs[w]
					}
				}
				got, ok := impl.SubstAffine(a, v, b)
				checkResult(t, "SubstAffine", got, ok, want)
				if ok {
					checkSubstValues(t, a, v, b, got)
				}
			}
		}
	}
}

// checkSubstValues checks that got has the value of a where the variable v has the value of b.
func checkSubstValues(t *testing.T, a impl.Affine, v int, b impl.Affine, got impl.Affine) {
	t.Helper()
	for _, p := range samplePoints() {
		q := make([]int, impl.MaxVars)
		copy(q, p)
		q[v] = valueAt(b, p)
		if impl.EvalAffine(got, p) != valueAt(a, q) {
			t.Errorf("SubstAffine(%v, %d, %v) is wrong at %v", a, v, b, p)
		}
	}
}

func TestSubstAffineTexts(t *testing.T) {
	cases := []struct {
		a    string
		v    int
		b    string
		want string
	}{
		{"2*i-j+3", 1, "i+1", "i+2"},
		{"i", 0, "i", "i"},
		{"i", 0, "i+1", "i+1"},
		{"2*i+j", 0, "3*i-j", "6*i-j"},
		{"-i", 0, "-i", "i"},
		{"i+j", 0, "-j", "0"},
		{"3*i", 0, "0", "0"},
		{"3*i+j", 0, "-5", "j-15"},
		{"j+7", 0, "9*i+9*j+99", "j+7"},
		{"0", 3, "l", "0"},
		{"l", 3, "-9*i", "-9*i"},
		// The multiple of b is beyond the limits, but the result is not.
		{"9*i-9*j", 0, "2*j", "9*j"},
		{"2*i-99", 0, "60", "21"},
		{"2*i", 0, "5*i", ""},
		{"2*i", 0, "50", ""},
		{"9*i+9*j", 0, "j", ""},
	}
	for _, c := range cases {
		got, ok := impl.SubstAffine(parsed(t, c.a), c.v, parsed(t, c.b))
		if ok != (c.want != "") || impl.FormatAffine(got) != c.want {
			t.Errorf("SubstAffine(%s, %d, %s) = %v, %v", c.a, c.v, c.b, got, ok)
		}
	}
}

func TestOperationsRefuse(t *testing.T) {
	zero := lin(0, 0, 0, 0, 0)
	for _, bad := range invalidAffines() {
		for _, good := range []impl.Affine{zero, lin(1, 1, 0, 0, 0), lin(-1, -1, -1, -1, -1), bad} {
			a, ok := impl.AddAffine(bad, good)
			checkResult(t, "AddAffine", a, ok, impl.Affine{})
			a, ok = impl.AddAffine(good, bad)
			checkResult(t, "AddAffine", a, ok, impl.Affine{})
			a, ok = impl.SubstAffine(bad, 0, good)
			checkResult(t, "SubstAffine", a, ok, impl.Affine{})
			a, ok = impl.SubstAffine(good, 3, bad)
			checkResult(t, "SubstAffine", a, ok, impl.Affine{})
		}
		for _, k := range []int{0, 1, -1} {
			a, ok := impl.ScaleAffine(bad, k)
			checkResult(t, "ScaleAffine", a, ok, impl.Affine{})
		}
	}
	for _, v := range []int{-1, 4, 5, math.MaxInt, math.MinInt} {
		a, ok := impl.SubstAffine(zero, v, zero)
		checkResult(t, "SubstAffine", a, ok, impl.Affine{})
	}
}

func TestAffineDepth(t *testing.T) {
	cases := map[string]int{
		"0": 0, "7": 0, "i": 1, "-9*i+3": 1, "j": 2, "i+j": 2, "k-1": 3, "i-k": 3, "l": 4, "-l": 4, "i+j+k+l": 4,
	}
	for text, depth := range cases {
		if n := impl.AffineDepth(parsed(t, text)); n != depth {
			t.Errorf("AffineDepth(%s) = %d", text, n)
		}
	}
	for _, a := range invalidAffines() {
		if n := impl.AffineDepth(a); n != 0 {
			t.Errorf("AffineDepth(%v) = %d", a, n)
		}
	}
}

func TestVarAffine(t *testing.T) {
	for v, text := range []string{"i", "j", "k", "l"} {
		a, ok := impl.VarAffine(v)
		if !ok || impl.FormatAffine(a) != text {
			t.Errorf("VarAffine(%d) = %v, %v", v, a, ok)
		}
		for _, p := range samplePoints() {
			want := 0
			if v < len(p) {
				want = p[v]
			}
			if impl.EvalAffine(a, p) != want {
				t.Errorf("VarAffine(%d) is wrong at %v", v, p)
			}
		}
	}
	for _, v := range []int{-1, 4, math.MaxInt, math.MinInt} {
		if a, ok := impl.VarAffine(v); ok || !isZero(a) {
			t.Errorf("VarAffine(%d) = %v, %v", v, a, ok)
		}
	}
}

// TestAffineMemory checks that results are in memory of their own, and that arguments stay as they are.
func TestAffineMemory(t *testing.T) {
	backing := []int{1, 2, -3, 0, 5, 6}
	a := impl.Affine{Coefs: backing[:4], Const: 2}
	zero := lin(0, 0, 0, 0, 0)
	var results []impl.Affine
	keep := func(r impl.Affine, ok bool) {
		if !ok {
			t.Fatal("an operation returns false")
		}
		results = append(results, r)
	}
	for range 2 {
		keep(impl.AddAffine(a, zero))
		keep(impl.AddAffine(zero, a))
		keep(impl.ScaleAffine(a, 1))
		keep(impl.SubstAffine(a, 3, zero))
		keep(impl.SubstAffine(parsed(t, "i"), 0, a))
		keep(impl.ParseAffine("i+2*j-3*k+2"))
		keep(impl.VarAffine(1))
	}
	var before []impl.Affine
	for _, r := range results {
		before = append(before, lin(r.Const, slices.Clone(r.Coefs)...))
	}
	for n, r := range results {
		for v := range r.Coefs {
			r.Coefs[v] = 1000 + n
		}
		_ = append(r.Coefs, 2000+n)
		for m := n + 1; m < len(results); m++ {
			if !impl.AffineSame(results[m], before[m]) {
				t.Fatalf("the results %d and %d share memory", n, m)
			}
		}
	}
	point := []int{1, 2, 3}
	impl.EvalAffine(a, point[:2])
	if !slices.Equal(backing, []int{1, 2, -3, 0, 5, 6}) || !slices.Equal(point, []int{1, 2, 3}) {
		t.Errorf("arguments are changed to %v, %v", backing, point)
	}
}
