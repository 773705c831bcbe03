package tests

import (
	"iter"
	"math"
	"math/rand"
	"regexp"
	"slices"
	"strings"
	"testing"

	"loop.example/loopnests/impl"
)

// nestOf reads the text of a nest whose lines are separated by `/`.
func nestOf(t *testing.T, lines string) []impl.Loop {
	t.Helper()
	text := nestText(lines)
	nest, ok := impl.ParseNest(text)
	if !ok {
		t.Fatalf("ParseNest(%q) returns false", text)
	}
	return nest
}

// nestText returns the text of the loops with the given bounds, which are separated by `/`.
func nestText(lines string) string {
	if lines == "" {
		return ""
	}
	return "for " + strings.ReplaceAll(lines, "/", "\nfor ") + "\n"
}

// side returns the constant bounds of a side of a loop.
func side(numbers ...int) []impl.Affine {
	var list []impl.Affine
	for _, n := range numbers {
		list = append(list, lin(n, 0, 0, 0, 0))
	}
	return list
}

// variable returns the bound that is a variable.
func variable(v int) impl.Affine {
	a := lin(0, 0, 0, 0, 0)
	a.Coefs[v] = 1
	return a
}

// copyNest returns nest in new memory.
func copyNest(nest []impl.Loop) []impl.Loop {
	var result []impl.Loop
	for _, l := range nest {
		result = append(result, impl.Loop{Lo: copySide(l.Lo), Hi: copySide(l.Hi)})
	}
	return result
}

func copySide(list []impl.Affine) []impl.Affine {
	var result []impl.Affine
	for _, a := range list {
		result = append(result, lin(a.Const, slices.Clone(a.Coefs)...))
	}
	return result
}

// validNests are the bounds of nests of all numbers of loops.
func validNests() []string {
	return []string{
		"", "0 0", "0 3", "-99 99", "99 -99", "0,1 3", "0 3,4", "0,-1 3,2", "5,5 7,7",
		"0 3/i 3", "0 9/0,i-2 i+1,5", "0 2/9*i-99 -9*i+99", "0 1/0 1/0 1", "0 2/i i+2/j,i i+j,3",
		"0 1/0 1/0 1/0 1", "0 2/0 i/i+j j,2", "0 2/i 3/j 4/k 5", "-3 3/-i i/i+j,-j 4/i-9*j+9*k-99,0 2*k,i+j+k+99",
	}
}

// invalidNests are lists of loops that are no nests.
func invalidNests() [][]impl.Loop {
	one := impl.Loop{Lo: side(0), Hi: side(1)}
	list := [][]impl.Loop{
		{one, one, one, one, one},
		{one, one, one, one, one, one},
		{{}},
		{one, {}},
		{{Hi: side(1)}},
		{{Lo: side(0)}},
		{{Lo: []impl.Affine{}, Hi: side(1)}},
		{{Lo: side(0, 1, 2), Hi: side(1)}},
		{{Lo: side(0), Hi: side(1, 2, 3)}},
		{one, one, one, {Lo: side(0, 0, 0), Hi: side(1, 1, 1)}},
	}
	for n := range impl.MaxVars {
		for v := n; v < impl.MaxVars; v++ {
			for _, bad := range []impl.Loop{
				{Lo: []impl.Affine{variable(v)}, Hi: side(1)},
				{Lo: side(0), Hi: []impl.Affine{variable(v)}},
				{Lo: []impl.Affine{lin(0, 0, 0, 0, 0), variable(v)}, Hi: side(1)},
				{Lo: side(0), Hi: []impl.Affine{lin(0, 0, 0, 0, 0), variable(v)}},
			} {
				nest := []impl.Loop{one, one, one, one}
				nest[n] = bad
				list = append(list, nest, nest[:n+1])
			}
		}
	}
	for _, a := range invalidAffines() {
		list = append(list,
			[]impl.Loop{{Lo: []impl.Affine{a}, Hi: side(1)}},
			[]impl.Loop{{Lo: side(0), Hi: []impl.Affine{a}}},
			[]impl.Loop{one, one, one, {Lo: append(side(0), a), Hi: side(1)}},
			[]impl.Loop{one, one, one, {Lo: side(0), Hi: append(side(1), a)}})
	}
	return list
}

// badNestTexts are texts that are not the text of a nest.
func badNestTexts() []string {
	return []string{
		"\n", " ", "for", "for\n", "for \n", "for  \n", "for 0\n", "for 0 \n", "for  0\n", "for 0 3", "for 0 3\n\n", "\nfor 0 3\n",
		"for 0 3\r\n", "for 0 3 \n", " for 0 3\n", "for  0 3\n", "for 0  3\n", "for 0\t3\n", "for\t0 3\n", "for 0 3 4\n",
		"fro 0 3\n", "For 0 3\n", "fo 0 3\n", "forr 0 3\n", "for0 3\n", "0 3\n", "for 0 3 for 0 3\n", "for 0 3\nfor 0 3",
		"for 0,1,2 3\n", "for 0 1,2,3\n", "for ,0 3\n", "for 0, 3\n", "for 0 3,\n", "for 0 ,3\n", "for , ,\n", "for 0,,1 3\n", "for 0, 1 3\n",
		"for i 3\n", "for 0 i\n", "for 0,i 3\n", "for 0 3,j\n", "for 0 1\nfor j 3\n", "for 0 1\nfor 0 k\n", "for l 3\n",
		"for 0 1\nfor 0 1\nfor 0 k\n", "for 0 1\nfor 0 1\nfor 0 1\nfor 0 l\n",
		"for 0 1\nfor 0 1\nfor 0 1\nfor 0 1\nfor 0 1\n", strings.Repeat("for 0 1\n", 5000),
		"for +0 3\n", "for 00 3\n", "for 0 03\n", "for 0 100\n", "for -100 3\n", "for -0 3\n", "for 0 1+2\n",
		"for 0 1\nfor 10*i 3\n", "for 0 1\nfor 1*i 3\n", "for 0 1\nfor i+0 3\n", "for 0 1\nfor 1+i 3\n",
		"for 0 3\x00\n", "for 0 \xff\n", "for 0 m\n", "for 0 3\n\x00", "for 0 " + strings.Repeat("1,", 5000) + "1\n",
	}
}

func TestNestValid(t *testing.T) {
	for _, lines := range validNests() {
		if !impl.NestValid(nestOf(t, lines)) {
			t.Errorf("NestValid(%s) = false", lines)
		}
	}
	for _, nest := range [][]impl.Loop{
		nil,
		{},
		{{Lo: side(1), Hi: side(0)}},
		{{Lo: side(1, 2), Hi: side(0)}},
		{{Lo: side(1), Hi: side(0, 99)}},
		{{Lo: side(-99, 2), Hi: side(0, 2)}},
		{{Lo: side(0), Hi: side(2)}, {Lo: []impl.Affine{variable(0)}, Hi: []impl.Affine{lin(-99, -9, 0, 0, 0), lin(99, 9, 0, 0, 0)}}},
	} {
		if !impl.NestValid(nest) {
			t.Errorf("NestValid(%v) = false", nest)
		}
	}
	for _, nest := range invalidNests() {
		if impl.NestValid(nest) {
			t.Errorf("NestValid(%v) = true", nest)
		}
	}
}

func TestNestSame(t *testing.T) {
	nests := [][]impl.Loop{{{}}, {{}, {}}, {{Lo: side(1, 2, 3)}}, {{Hi: side(1, 2, 3)}}, {{Lo: []impl.Affine{{}}}}, {{Lo: side(777)}}}
	firstValid := len(nests)
	for _, lines := range append(validNests(), "1 0", "0 4", "1 3", "1,0 3", "0 4,3", "0 3/i-1 3", "0 3/0 3", "0 3/0 4", "0 4/0 3") {
		nests = append(nests, nestOf(t, lines))
	}
	for n, a := range nests {
		for m, b := range nests {
			same := impl.FormatNest(a) == impl.FormatNest(b) && (n == m || min(n, m) >= firstValid)
			if impl.NestSame(a, copyNest(b)) != same {
				t.Errorf("NestSame(%v, %v) is not %v", a, b, same)
			}
		}
	}
	if !impl.NestSame(nil, []impl.Loop{}) || !impl.NestSame([]impl.Loop{{}}, []impl.Loop{{Lo: []impl.Affine{}, Hi: []impl.Affine{}}}) {
		t.Error("NestSame tells nil slices from empty ones")
	}
}

func TestNestTexts(t *testing.T) {
	cases := []struct {
		nest []impl.Loop
		text string
	}{
		{nil, ""},
		{[]impl.Loop{{Lo: side(0), Hi: side(3)}}, "for 0 3\n"},
		{[]impl.Loop{{Lo: side(-99), Hi: side(99)}}, "for -99 99\n"},
		{[]impl.Loop{{Lo: side(1, 0), Hi: side(5)}}, "for 1,0 5\n"},
		{[]impl.Loop{{Lo: side(0), Hi: side(5, 5)}}, "for 0 5,5\n"},
		{[]impl.Loop{{Lo: side(0), Hi: side(3)}, {Lo: []impl.Affine{variable(0)}, Hi: side(3)}}, "for 0 3\nfor i 3\n"},
		{[]impl.Loop{{Lo: side(0), Hi: side(9)}, {Lo: append(side(0), lin(-2, 1, 0, 0, 0)), Hi: append([]impl.Affine{lin(1, 1, 0, 0, 0)}, side(5)...)}},
			"for 0 9\nfor 0,i-2 i+1,5\n"},
		{[]impl.Loop{{Lo: side(0), Hi: side(1)}, {Lo: side(0), Hi: side(2)}, {Lo: side(0), Hi: side(3)}, {Lo: []impl.Affine{lin(-1, 2, -1, 9, 0)}, Hi: side(4)}},
			"for 0 1\nfor 0 2\nfor 0 3\nfor 2*i-j+9*k-1 4\n"},
	}
	for _, c := range cases {
		if s := impl.FormatNest(c.nest); s != c.text {
			t.Errorf("FormatNest = %q, not %q", s, c.text)
		}
		if nest, ok := impl.ParseNest(c.text); !ok || !impl.NestSame(nest, c.nest) {
			t.Errorf("ParseNest(%q) = %v, %v", c.text, nest, ok)
		}
	}
	for _, nest := range invalidNests() {
		if s := impl.FormatNest(nest); s != "" {
			t.Errorf("FormatNest(%v) = %q", nest, s)
		}
	}
}

func TestParseNestRefuses(t *testing.T) {
	for _, s := range badNestTexts() {
		if nest, ok := impl.ParseNest(s); ok || len(nest) != 0 {
			t.Errorf("ParseNest(%.60q) = %v, %v", s, nest, ok)
		}
	}
}

// nestForm returns a function that reports whether a text is that of a nest, by a regular expression for each loop.
func nestForm() func(text string) bool {
	term := func(v string) string { return `([+-]([2-9]\*)?` + v + `)?` }
	var forms []*regexp.Regexp
	for n := range impl.MaxVars {
		sum := ""
		for _, v := range []string{"i", "j", "k", "l"}[:n] {
			sum += term(v)
		}
		// Each bound is preceded by `+` where it does not begin with a sign.
		bound := `(\+0|` + sum + `([+-][1-9][0-9]?)?)`
		forms = append(forms, regexp.MustCompile(`^for `+bound+`(,`+bound+`)? `+bound+`(,`+bound+`)?$`))
	}
	signed := regexp.MustCompile(`([ ,])([0-9ijkl])`)
	return func(text string) bool {
		lines := strings.Split(text, "\n")
		if lines[len(lines)-1] != "" || len(lines) > impl.MaxVars+1 {
			return false
		}
		for n, line := range lines[:len(lines)-1] {
			explicit := signed.ReplaceAllString(line, "$1+$2")
			if strings.Contains(line, " +") || strings.Contains(line, ",+") || regexp.MustCompile(`[ ,]([ ,]|$)`).MatchString(line) || !forms[n].MatchString(explicit) {
				return false
			}
		}
		return true
	}
}

// nearTexts yields a text, and those that differ from it in a byte, which is one of the given ones where it is new.
func nearTexts(text string, bytes string) iter.Seq[string] {
	return func(yield func(string) bool) {
		for n := range len(text) {
			for _, b := range bytes {
				if !yield(text[:n]+string(b)+text[n:]) || !yield(text[:n]+string(b)+text[n+1:]) {
					return
				}
			}
			if !yield(text[:n] + text[n+1:]) {
				return
			}
		}
		for _, b := range bytes {
			if !yield(text + string(b)) {
				return
			}
		}
		yield(text)
	}
}

// tally counts the arguments that are accepted and refused, so that a test is known to have tried both.
type tally struct{ accepted, refused int }

func (c *tally) add(accepted bool) {
	if accepted {
		c.accepted++
	} else {
		c.refused++
	}
}

func (c *tally) check(t *testing.T, least int) {
	t.Helper()
	if c.accepted < least || c.refused < least {
		t.Errorf("%d arguments are accepted and %d are refused", c.accepted, c.refused)
	}
}

// TestParseNestNearTexts compares ParseNest with regular expressions for texts that differ in a byte from that of a nest.
func TestParseNestNearTexts(t *testing.T) {
	expected := nestForm()
	var counts tally
	check := func(s string) {
		nest, ok := impl.ParseNest(s)
		if ok != expected(s) || ok && impl.FormatNest(nest) != s || !ok && len(nest) != 0 {
			t.Errorf("ParseNest(%q) = %v, %v", s, nest, ok)
		}
		counts.add(ok)
	}
	for _, lines := range validNests() {
		for s := range nearTexts(nestText(lines), "\n ,+-*0129ijklmrf\x00") {
			check(s)
		}
	}
	for _, s := range badNestTexts() {
		check(s)
	}
	counts.check(t, 500)
}

func TestNestPoints(t *testing.T) {
	cases := []struct {
		lines  string
		points [][]int
	}{
		{"", [][]int{{}}},
		{"0 0", nil},
		{"0 1", [][]int{{0}}},
		{"-2 1", [][]int{{-2}, {-1}, {0}}},
		{"3 1", nil},
		{"99 -99", nil},
		{"0,2 5", [][]int{{2}, {3}, {4}}},
		{"2,0 5", [][]int{{2}, {3}, {4}}},
		{"0 5,3", [][]int{{0}, {1}, {2}}},
		{"0 3,5", [][]int{{0}, {1}, {2}}},
		{"-1,1 3,2", [][]int{{1}}},
		{"0 3/i 3", [][]int{{0, 0}, {0, 1}, {0, 2}, {1, 1}, {1, 2}, {2, 2}}},
		{"0 3/0 i", [][]int{{1, 0}, {2, 0}, {2, 1}}},
		{"0 0/0 3", nil},
		{"0 3/0 0", nil},
		{"0 9/0,i-1 i+1,2", [][]int{{0, 0}, {1, 0}, {1, 1}, {2, 1}}},
		{"0 2/0 2/i+j 2/k 2", [][]int{{0, 0, 0, 0}, {0, 0, 0, 1}, {0, 0, 1, 1}, {0, 1, 1, 1}, {1, 0, 1, 1}}},
		{"-1 1/-i -i+1/-j -j+1/-k -k+1", [][]int{{-1, 1, -1, 1}, {0, 0, 0, 0}}},
	}
	for _, c := range cases {
		points, ok := impl.NestPoints(nestOf(t, c.lines))
		if !ok || !slices.EqualFunc(points, c.points, slices.Equal[[]int]) {
			t.Errorf("NestPoints(%s) = %v, %v, not %v", c.lines, points, ok, c.points)
		}
	}
	for _, nest := range invalidNests() {
		if points, ok := impl.NestPoints(nest); ok || len(points) != 0 {
			t.Errorf("NestPoints(%v) = %v, %v", nest, points, ok)
		}
	}
}

// TestNestPointsLimits checks nests with the greatest number of points or iterations, and with one more.
func TestNestPointsLimits(t *testing.T) {
	cases := []struct {
		lines string
		count int // or -1 if NestPoints returns false
	}{
		{"-60 60", 120},
		{"-60 61", -1},
		{"0 10/0 12", 120},
		{"0 11/0 11", -1},
		{"0 15/0 i+1", 120},
		{"0 16/0 i", 120},
		{"0 17/0 i,8", 0 + 1 + 2 + 3 + 4 + 5 + 6 + 7 + 8*9},
		{"0 17/0 i", -1},
		{"0 2/0 3/0 4/0 5", 120},
		{"0 1/0 1/0 1/-60 60", 120},
		{"0 1/0 1/0 1/-60 61", -1},
		{"0 99/0 99", -1},
		// The outer loops take 11 + 11 * 108 = 1199 iterations, and 12 + 12 * 99 = 1200.
		{"0 11/-9 99/0 0", 0},
		{"0 12/0 99/0 0", -1},
		// The outermost loop takes the iteration that is one too many.
		{"0 12/-9 99/0 0", -1},
		// 109 + 109 * 10 = 1199, and 100 + 100 * 11 = 1200.
		{"-10 99/0 10/1 0", 0},
		{"-1 99/0 11/1 0", -1},
		// 1 + 1198 and 1 + 1199.
		{"98 99/-9*i-99 2*i+21/1 0", 0},
		{"98 99/-9*i-99 2*i+22/1 0", -1},
		// Iterations that have points count as well: 11 + 11 * 105 + 11 * 3 = 1199, and 12 + 12 * 96 + 12 * 3 = 1200.
		{"0 11/-9 96/93 j", 33},
		{"0 12/0 96/93 j", -1},
		{"0 1/0 1/0 1/0 0", 0},
		{"0 0/-99 99/-99 99/-99 99", 0},
	}
	for _, c := range cases {
		points, ok := impl.NestPoints(nestOf(t, c.lines))
		if ok != (c.count >= 0) || len(points) != max(c.count, 0) {
			t.Errorf("NestPoints(%s) returns %d points, %v, not %d", c.lines, len(points), ok, c.count)
		}
	}
}

// boundRange returns the bounds of a loop directly from the definition.
func boundRange(l impl.Loop, p []int) (int, int) {
	lo, hi := math.MinInt, math.MaxInt
	for _, a := range l.Lo {
		lo = max(lo, valueAt(a, p))
	}
	for _, a := range l.Hi {
		hi = min(hi, valueAt(a, p))
	}
	return lo, hi
}

// isMember reports whether p is a point of nest, directly from the definition.
func isMember(nest []impl.Loop, p []int) bool {
	for n, l := range nest {
		lo, hi := boundRange(l, p[:n])
		if p[n] < lo || p[n] >= hi {
			return false
		}
	}
	return true
}

// boxPoints returns the lists of numbers that are between -limit and limit for the first variable, twice as far for the next, and so on.
func boxPoints(count int, limit int) [][]int {
	list := [][]int{{}}
	for range count {
		var longer [][]int
		for _, p := range list {
			for n := -limit; n <= limit; n++ {
				longer = append(longer, append(slices.Clone(p), n))
			}
		}
		list, limit = longer, 2*limit
	}
	return list
}

// randomNest returns a nest with small coefficients, and constants between -limit and limit.
func randomNest(r *rand.Rand, count int, limit int) []impl.Loop {
	// With a small width the sides are far from each other, so that there are nests with many points.
	width := 1 + r.Intn(limit+2)
	randomSide := func(n int, sign int) []impl.Affine {
		var list []impl.Affine
		for range 1 + r.Intn(5)/4 {
			a := lin(sign*(limit-r.Intn(width)), 0, 0, 0, 0)
			if n > 0 && r.Intn(2) == 0 {
				a.Coefs[r.Intn(n)] = r.Intn(3) - 1
			}
			list = append(list, a)
		}
		return list
	}
	var nest []impl.Loop
	for n := range count {
		nest = append(nest, impl.Loop{Lo: randomSide(n, -1), Hi: randomSide(n, 1)})
	}
	return nest
}

// TestNestPointsAreThoseOfPointIn compares NestPoints and PointIn with the definition for all points near a nest.
func TestNestPointsAreThoseOfPointIn(t *testing.T) {
	r := rand.New(rand.NewSource(2))
	accepted, refused := 0, 0
	for count, limit := range []int{1, 4, 4, 3, 2} {
		for range []int{1, 200, 200, 200, 60}[count] {
			nest := randomNest(r, count, limit)
			var want [][]int
			visits := 1
			for n := range count + 1 {
				want = nil
				for _, p := range boxPoints(n, limit) {
					if isMember(nest[:n], p) {
						want = append(want, p)
					}
					if n == count && impl.PointIn(nest, p) != isMember(nest, p) {
						t.Fatalf("PointIn(%q, %v) is not %v", impl.FormatNest(nest), p, isMember(nest, p))
					}
				}
				if n > 0 {
					visits += len(want)
				}
			}
			fits := len(want) <= 120 && visits <= 1200
			if !fits {
				want = nil
				refused++
			} else if len(want) > 0 {
				accepted++
			}
			points, ok := impl.NestPoints(nest)
			if ok != fits || !slices.EqualFunc(points, want, slices.Equal[[]int]) {
				t.Fatalf("NestPoints(%q) = %v, %v, not %v", impl.FormatNest(nest), points, ok, want)
			}
			for n := 1; n < len(points); n++ {
				if !impl.LexLess(points[n-1], points[n]) || impl.LexLess(points[n], points[n-1]) {
					t.Fatalf("NestPoints(%q) is not in lexicographic order", impl.FormatNest(nest))
				}
			}
		}
	}
	if accepted < 200 || refused < 50 {
		t.Errorf("%d nests are accepted and %d are refused", accepted, refused)
	}
}

// TestNestPointsBeyondCoordinates checks that NestPoints returns points beyond the limits of a point, which PointIn refuses.
func TestNestPointsBeyondCoordinates(t *testing.T) {
	for sign, lines := range map[int]string{
		1:  "98 99/9*i+98 9*i+99/9*i+9*j+97 9*i+9*j+98/2*i+k+3 2*i+k+7",
		-1: "-98 -97/9*i-98 9*i-97/9*i+9*j-97 9*i+9*j-96/2*i+k-6 2*i+k-2",
	} {
		nest := nestOf(t, lines)
		points, ok := impl.NestPoints(nest)
		if !ok || len(points) != 4 {
			t.Fatalf("NestPoints(%s) = %v, %v", lines, points, ok)
		}
		for n, p := range points {
			last := []int{9998, 9999, 10000, 10001}[n]
			if sign < 0 {
				last = -[]int{10001, 10000, 9999, 9998}[n]
			}
			if !slices.Equal(p, []int{sign * 98, sign * 980, sign * 9799, last}) {
				t.Errorf("the point %d of %s is %v", n, lines, p)
			}
			if impl.PointIn(nest, p) != (-9999 <= last && last <= 9999) {
				t.Errorf("PointIn(%s, %v) = %v", lines, p, impl.PointIn(nest, p))
			}
		}
	}
	// The greatest coordinates that a nest can have.
	nest := nestOf(t, "98 99/9*i+98 9*i+99/9*i+9*j+98 9*i+9*j+99/9*i+9*j+9*k+98 9*i+9*j+9*k+99")
	points, ok := impl.NestPoints(nest)
	if !ok || len(points) != 1 || !slices.Equal(points[0], []int{98, 980, 9800, 98000}) || impl.PointIn(nest, []int{98, 980, 9800, 98000}) {
		t.Errorf("NestPoints = %v, %v", points, ok)
	}
}

func TestPointIn(t *testing.T) {
	cases := []struct {
		lines string
		point []int
		in    bool
	}{
		{"", nil, true},
		{"", []int{0}, false},
		{"0 3", nil, false},
		{"0 3", []int{-1}, false},
		{"0 3", []int{0}, true},
		{"0 3", []int{2}, true},
		{"0 3", []int{3}, false},
		{"0 3", []int{0, 0}, false},
		{"0,1 3", []int{0}, false},
		{"1,0 3", []int{0}, false},
		{"0,1 3", []int{1}, true},
		{"0 3,2", []int{2}, false},
		{"0 2,3", []int{2}, false},
		{"0 0", []int{0}, false},
		{"3 0", []int{1}, false},
		{"0 3/i 3", []int{1, 2}, true},
		{"0 3/i 3", []int{2, 1}, false},
		{"0 3/i 3", []int{3, 3}, false},
		{"0 3/i 3", []int{1}, false},
		{"0 3/i 3", []int{1, 2, 0}, false},
		// Nests for which NestPoints returns false have points, too.
		{"0 99/0 99/0 99/0 99", []int{98, 0, 5, 98}, true},
		{"0 99/0 99/0 99/0 99", []int{98, 0, 99, 98}, false},
		{"0 99/0 99/0 99/0 99", []int{98, 0, 5, 98, 0}, false},
		{"-99 99/9*i 9*i+1/9*j 9*j+1", []int{-99, -891, -8019}, true},
		{"-99 99/9*i 9*i+1/9*j 9*j+1", []int{-99, -891, -8018}, false},
	}
	for _, c := range cases {
		if impl.PointIn(nestOf(t, c.lines), c.point) != c.in {
			t.Errorf("PointIn(%s, %v) is not %v", c.lines, c.point, c.in)
		}
	}
	for _, p := range badPoints() {
		for _, lines := range validNests() {
			if impl.PointIn(nestOf(t, lines), p) {
				t.Errorf("PointIn(%s, %v) = true", lines, p)
			}
		}
	}
	for _, nest := range invalidNests() {
		for n := range 6 {
			if impl.PointIn(nest, make([]int, n)) {
				t.Errorf("PointIn(%v) = true", nest)
			}
		}
	}
}

func TestLexLess(t *testing.T) {
	// Each list is before those behind it.
	ascending := [][]int{
		{},
		{math.MinInt},
		{math.MinInt, math.MaxInt},
		{-5, 3},
		{-1},
		{0},
		{0, -1},
		{0, 0},
		{0, 0, 0, 0, 0, 0, 0},
		{0, 1},
		{1},
		{1, math.MinInt},
		{1, 0},
		{1, 2},
		{1, 2, 3},
		{1, 3},
		{2, 1},
		{10000},
		{math.MaxInt - 1, 1},
		{math.MaxInt, 0},
		{math.MaxInt, math.MaxInt, math.MinInt},
	}
	for n, p := range ascending {
		for m, q := range ascending {
			if impl.LexLess(p, q) != (n < m) {
				t.Errorf("LexLess(%v, %v) is not %v", p, q, n < m)
			}
		}
	}
	if impl.LexLess(nil, []int{}) || impl.LexLess([]int{}, nil) || impl.LexLess(nil, nil) || !impl.LexLess(nil, []int{0}) {
		t.Error("LexLess of an empty list is wrong")
	}
}

func TestBoxNest(t *testing.T) {
	for _, c := range []struct {
		sizes []int
		lines string
	}{
		{nil, ""},
		{[]int{}, ""},
		{[]int{0}, "0 0"},
		{[]int{99}, "0 99"},
		{[]int{2, 3}, "0 2/0 3"},
		{[]int{1, 0, 99}, "0 1/0 0/0 99"},
		{[]int{4, 3, 2, 1}, "0 4/0 3/0 2/0 1"},
	} {
		nest, ok := impl.BoxNest(c.sizes)
		if !ok || impl.FormatNest(nest) != nestText(c.lines) || !impl.RectNest(nest) || len(nest) != len(c.sizes) {
			t.Errorf("BoxNest(%v) = %q, %v", c.sizes, impl.FormatNest(nest), ok)
		}
	}
	for _, sizes := range [][]int{
		{-1}, {100}, {2, -1}, {2, 100}, {-1, 2}, {100, 2}, {1, 1, 1, 100}, {1, 1, 1, -1}, {math.MaxInt}, {math.MinInt},
		{1, 1, 1, 1, 1}, {0, 0, 0, 0, 0}, {1, 1, 1, 1, 100}, {1, 1, 1, 1, 1, 1},
	} {
		if nest, ok := impl.BoxNest(sizes); ok || len(nest) != 0 {
			t.Errorf("BoxNest(%v) = %v, %v", sizes, nest, ok)
		}
	}
}

func TestRectNest(t *testing.T) {
	cases := map[string]bool{
		"": true, "0 3": true, "3 0": true, "0,1 3,2": true, "0 1/-5 7": true, "0 1/0 1/0 1/0,99 1,-99": true,
		"0 3/i 3": false, "0 3/0 i": false, "0 3/0,i 3": false, "0 3/0 3,i": false, "0 3/i-5 i+5": false,
		"0 1/0 1/0 1/0 k": false, "0 1/0 1/0 1/j,0 1": false, "0 1/0 1/i 1/0 1": false, "0 1/0 9*i/0 1": false,
	}
	for lines, rect := range cases {
		if impl.RectNest(nestOf(t, lines)) != rect {
			t.Errorf("RectNest(%s) is not %v", lines, rect)
		}
	}
	for _, nest := range invalidNests() {
		if impl.RectNest(nest) {
			t.Errorf("RectNest(%v) = true", nest)
		}
	}
}

func TestLoopRange(t *testing.T) {
	cases := []struct {
		lines  string
		point  []int
		lo, hi int
	}{
		{"0 9", nil, 0, 9},
		{"9 -9", nil, 9, -9},
		{"1,4 7,5", []int{}, 4, 5},
		{"0 9/0,i-2 i+1,5", nil, 0, 9},
		{"0 9/0,i-2 i+1,5", []int{6}, 4, 5},
		{"0 9/0,i-2 i+1,5", []int{1}, 0, 2},
		{"0 9/i-2,0 5,i+1", []int{6}, 4, 5},
		{"0 9/i-2,0 5,i+1", []int{1}, 0, 2},
		// The point need not be one of the nest's.
		{"0 9/0,i-2 i+1,5", []int{-3}, 0, -2},
		{"0 9/0,i-2 i+1,5", []int{9999}, 9997, 5},
		{"0 0/i i+7", []int{5}, 5, 12},
		{"0 1/0 1/i-j 2*j", []int{3, 8}, -5, 16},
		{"0 1/0 1/i-j 2*j", []int{3}, 0, 1},
		{"0 1/0 1/0 1/9*i+9*j-9*k-99 9*k+99", []int{-9999, -9999, 9999}, -27*9999 - 99, 9*9999 + 99},
	}
	for _, c := range cases {
		if lo, hi, ok := impl.LoopRange(nestOf(t, c.lines), c.point); !ok || lo != c.lo || hi != c.hi {
			t.Errorf("LoopRange(%s, %v) = %d, %d, %v, not %d, %d", c.lines, c.point, lo, hi, ok, c.lo, c.hi)
		}
	}
	refuses := func(nest []impl.Loop, p []int) {
		t.Helper()
		if lo, hi, ok := impl.LoopRange(nest, p); ok || lo != 0 || hi != 0 {
			t.Errorf("LoopRange(%v, %v) = %d, %d, %v", nest, p, lo, hi, ok)
		}
	}
	for _, lines := range validNests() {
		nest := nestOf(t, lines)
		for n := len(nest); n < 7; n++ {
			refuses(nest, make([]int, n))
		}
	}
	for _, p := range badPoints() {
		refuses(nestOf(t, "1 5/1 5/1 5/1 5"), p)
	}
	for _, nest := range invalidNests() {
		for n := range 4 {
			refuses(nest, make([]int, n))
		}
	}
}

// TestLoopRangeAtPoints compares LoopRange with the definition at points of a nest and at others.
func TestLoopRangeAtPoints(t *testing.T) {
	r := rand.New(rand.NewSource(3))
	for range 300 {
		nest := randomNest(r, 4, 9)
		for n, l := range nest {
			for range 10 {
				p := []int{r.Intn(200) - 100, r.Intn(200) - 100, r.Intn(19999) - 9999, r.Intn(20)}[:n]
				wantLo, wantHi := boundRange(l, p)
				if lo, hi, ok := impl.LoopRange(nest, p); !ok || lo != wantLo || hi != wantHi {
					t.Fatalf("LoopRange(%q, %v) = %d, %d, %v", impl.FormatNest(nest), p, lo, hi, ok)
				}
			}
		}
	}
}

// renumber sets the coefficients of both sides to new numbers, and appends to the slices of the first one.
func renumber(list []impl.Affine, expected []impl.Affine, number int) int {
	_ = append(list, impl.Affine{})
	for n, a := range list {
		_ = append(a.Coefs, -1)
		for v := range a.Coefs {
			number++
			a.Coefs[v] = number
			expected[n].Coefs[v] = number
		}
	}
	return number
}

// TestNestMemory checks that results are in memory of their own, and that arguments stay as they are.
func TestNestMemory(t *testing.T) {
	var nests, expected [][]impl.Loop
	for range 2 {
		box, okBox := impl.BoxNest([]int{1, 2, 1, 2})
		read, okRead := impl.ParseNest("for 0,0 1,1\nfor 0,0 1,1\nfor i,i 1,1\n")
		if !okBox || !okRead {
			t.Fatal("BoxNest or ParseNest returns false")
		}
		nests = append(nests, box, read)
		expected = append(expected, copyNest(box), copyNest(read))
	}
	// Every slice is appended to and every coefficient becomes another number, which must change nothing else.
	number := 100
	for m, nest := range nests {
		_ = append(nest, impl.Loop{})
		for n, l := range nest {
			number = renumber(l.Lo, expected[m][n].Lo, number)
			number = renumber(l.Hi, expected[m][n].Hi, number)
		}
	}
	for n, nest := range nests {
		if !impl.NestSame(nest, expected[n]) {
			t.Errorf("slices of the nest %d share memory", n)
		}
	}
	points, ok := impl.NestPoints(nestOf(t, "0 2/0 2"))
	if !ok || len(points) != 4 {
		t.Fatalf("NestPoints = %v, %v", points, ok)
	}
	for n, p := range points {
		p[0], p[1] = 10*n, 10*n+1
		_ = append(p, 77)
	}
	if !slices.EqualFunc(points, [][]int{{0, 1}, {10, 11}, {20, 21}, {30, 31}}, slices.Equal[[]int]) {
		t.Errorf("points share memory: %v", points)
	}
}

// TestNestArguments checks that no function changes an argument or the memory behind it.
func TestNestArguments(t *testing.T) {
	whole := nestOf(t, "0 2,3/i,0 3/j,i 4/7 9")
	kept := copyNest(whole)
	nest := whole[:3]
	list := []int{1, 2, 2, 5, 6}
	for n := range 4 {
		impl.PointIn(nest, list[:n])
		impl.LoopRange(nest, list[:n])
		impl.BoxNest(list[:n])
		impl.LexLess(list[:n], list[1:3])
	}
	impl.NestPoints(nest)
	impl.NestValid(nest)
	impl.NestSame(nest, whole)
	impl.FormatNest(nest)
	impl.RectNest(nest)
	if !impl.NestSame(whole, kept) || !slices.Equal(list, []int{1, 2, 2, 5, 6}) {
		t.Errorf("arguments are changed to %v, %v", whole, list)
	}
}
