package impl

import (
	"slices"
	"strconv"
	"strings"
)

// Affine is a linear function of the variables i, j, k and l with a constant.
type Affine struct {
	Coefs []int
	Const int
}

// Limits of affine expressions.
const (
	MaxVars  = 4
	MaxCoef  = 9
	MaxConst = 99
	MaxCoord = 9999
)

// varNames has the name of each variable at its number.
const varNames = "ijkl"

// signs are in front of terms and constants.
const signs = "+-"

// AffineValid reports whether a is valid.
func AffineValid(a Affine) bool {
	return len(a.Coefs) == MaxVars && allWithin(a.Coefs, MaxCoef) && within(a.Const, MaxConst)
}

// AffineSame reports whether a and b are equal.
func AffineSame(a Affine, b Affine) bool {
	return a.Const == b.Const && slices.Equal(a.Coefs, b.Coefs)
}

// FormatAffine returns the text of a.
func FormatAffine(a Affine) string {
	x, ok := linearOf(a)
	if !ok {
		return ""
	}
	return x.text()
}

// ParseAffine parses the text of an affine expression.
func ParseAffine(text string) (Affine, bool) {
	c := cursor{text: text}
	x, ok := c.terms()
	// The cursor accepts terms in any order and number and need not be at the end, but each expression has only one text.
	if !ok || x.text() != text {
		return Affine{}, false
	}
	return x.affine()
}

// EvalAffine returns the value of a at a point.
func EvalAffine(a Affine, point []int) int {
	x, ok := linearOf(a)
	if !ok || !pointValid(point) {
		return 0
	}
	return x.at(point)
}

// AddAffine returns the sum of a and b.
func AddAffine(a Affine, b Affine) (Affine, bool) {
	x, okX := linearOf(a)
	y, okY := linearOf(b)
	if !okX || !okY {
		return Affine{}, false
	}
	return x.plus(y).affine()
}

// ScaleAffine returns k times a.
func ScaleAffine(a Affine, k int) (Affine, bool) {
	x, ok := linearOf(a)
	if !ok || !within(k, MaxConst) {
		return Affine{}, false
	}
	return x.times(k).affine()
}

// SubstAffine replaces a variable of a by b.
func SubstAffine(a Affine, v int, b Affine) (Affine, bool) {
	x, okX := linearOf(a)
	y, okY := linearOf(b)
	if !okX || !okY || !varValid(v) {
		return Affine{}, false
	}
	return x.replace(v, y).affine()
}

// AffineDepth returns the number of variables up to the last one that occurs in a.
func AffineDepth(a Affine) int {
	x, ok := linearOf(a)
	if !ok {
		return 0
	}
	return x.depth()
}

// VarAffine returns the affine expression that is a variable.
func VarAffine(v int) (Affine, bool) {
	if !varValid(v) {
		return Affine{}, false
	}
	return variable(v).affine()
}

// linear is an affine expression that need not be within the limits, so that only final results are checked.
type linear struct {
	coefs    [MaxVars]int
	constant int
}

// variable returns the expression that is the variable v.
func variable(v int) linear {
	var x linear
	x.coefs[v] = 1
	return x
}

// constant returns the expression that is the number n.
func constant(n int) linear {
	return linear{constant: n}
}

// linearOf returns the valid expression a as a linear, and whether a is valid.
func linearOf(a Affine) (linear, bool) {
	if !AffineValid(a) {
		return linear{}, false
	}
	x := linear{constant: a.Const}
	copy(x.coefs[:], a.Coefs)
	return x, true
}

// linearWithin returns a as a linear, and whether a is valid and uses only the variables of a number of loops.
func linearWithin(a Affine, loops int) (linear, bool) {
	x, ok := linearOf(a)
	return x, ok && x.depth() <= loops
}

// linears returns valid expressions as linears.
func linears(list []Affine) []linear {
	var result []linear
	for _, a := range list {
		x, _ := linearOf(a)
		result = append(result, x)
	}
	return result
}

// affines returns expressions in new memory; one that is beyond the limits becomes the zero value, which is not valid.
func affines(list []linear) []Affine {
	var result []Affine
	for _, x := range list {
		a, _ := x.affine()
		result = append(result, a)
	}
	return result
}

// rewriteAll returns expressions with each of them changed.
func rewriteAll(list []linear, change func(linear) linear) []linear {
	var result []linear
	for _, x := range list {
		result = append(result, change(x))
	}
	return result
}

// affine returns x in new memory, and whether x is within the limits.
func (x linear) affine() (Affine, bool) {
	a := Affine{Coefs: slices.Clone(x.coefs[:]), Const: x.constant}
	if !AffineValid(a) {
		return Affine{}, false
	}
	return a, true
}

// at returns the value of x at a point; variables without a coordinate are 0.
func (x linear) at(point []int) int {
	sum := x.constant
	for v, n := range point {
		sum += x.coefs[v] * n
	}
	return sum
}

// plus returns the sum of x and y.
func (x linear) plus(y linear) linear {
	for v, n := range y.coefs {
		x.coefs[v] += n
	}
	x.constant += y.constant
	return x
}

// times returns k times x.
func (x linear) times(k int) linear {
	for v := range x.coefs {
		x.coefs[v] *= k
	}
	x.constant *= k
	return x
}

// replace returns x with the variable v replaced by y.
func (x linear) replace(v int, y linear) linear {
	n := x.coefs[v]
	// v is removed before y is added, since y may contain v itself.
	x.coefs[v] = 0
	return x.plus(y.times(n))
}

// makeRoom returns x with the numbers of the variables from v on increased by 1, if the last variable is not used.
func (x linear) makeRoom(v int) linear {
	copy(x.coefs[v+1:], x.coefs[v:])
	x.coefs[v] = 0
	return x
}

// depth returns the number of variables up to the last one with a coefficient.
func (x linear) depth() int {
	for v := MaxVars - 1; v >= 0; v-- {
		if x.coefs[v] != 0 {
			return v + 1
		}
	}
	return 0
}

// text returns the terms of x and its constant.
func (x linear) text() string {
	var out strings.Builder
	for v, n := range x.coefs {
		if n == 0 {
			continue
		}
		writeSign(&out, n)
		if n != 1 && n != -1 {
			out.WriteString(digits(n))
			out.WriteByte('*')
		}
		out.WriteByte(varNames[v])
	}
	if x.constant != 0 {
		writeSign(&out, x.constant)
		out.WriteString(digits(x.constant))
	}
	if out.Len() == 0 {
		return "0"
	}
	return out.String()
}

// writeSign writes the sign of n, but no `+` at the beginning.
func writeSign(out *strings.Builder, n int) {
	if n < 0 {
		out.WriteByte('-')
	} else if out.Len() > 0 {
		out.WriteByte('+')
	}
}

// digits returns n in decimal without its sign.
func digits(n int) string {
	return strings.TrimPrefix(strconv.Itoa(n), "-")
}

// within reports whether n is between -limit and limit.
func within(n int, limit int) bool {
	return -limit <= n && n <= limit
}

// allWithin reports whether every number of a list is between -limit and limit.
func allWithin(list []int, limit int) bool {
	for _, n := range list {
		if !within(n, limit) {
			return false
		}
	}
	return true
}

// varValid reports whether v is the number of a variable.
func varValid(v int) bool {
	return 0 <= v && v < MaxVars
}

// pointValid reports whether p is a point.
func pointValid(p []int) bool {
	return len(p) <= MaxVars && allWithin(p, MaxCoord)
}

// cursor reads a text from its beginning to its end.
type cursor struct {
	text string
	next int
}

// done reports whether the text is at its end.
func (c *cursor) done() bool {
	return c.next == len(c.text)
}

// take passes over the byte b if it comes next, and reports whether it did.
func (c *cursor) take(b byte) bool {
	if c.done() || c.text[c.next] != b {
		return false
	}
	c.next++
	return true
}

// number reads a number without a sign.
func (c *cursor) number() (int, bool) {
	start := c.next
	for !c.done() && '0' <= c.text[c.next] && c.text[c.next] <= '9' {
		c.next++
	}
	n, err := strconv.Atoi(c.text[start:c.next])
	return n, err == nil
}

// oneOf passes over the next byte if it is one of a list, and returns its index there.
func (c *cursor) oneOf(list string) (int, bool) {
	for n := range len(list) {
		if c.take(list[n]) {
			return n, true
		}
	}
	return 0, false
}

// terms reads terms and constants as long as signs follow, and returns their sum.
func (c *cursor) terms() (linear, bool) {
	var sum linear
	sign, _ := c.oneOf(signs)
	for more := true; more; sign, more = c.oneOf(signs) {
		x, ok := c.term()
		if !ok {
			return linear{}, false
		}
		sum = sum.plus(x.times(1 - 2*sign))
	}
	return sum, true
}

// term reads a term or a constant without its sign.
func (c *cursor) term() (linear, bool) {
	var x linear
	n, counted := c.number()
	if counted && !c.take('*') {
		x.constant = n
		return x, true
	}
	if !counted {
		n = 1
	}
	v, ok := c.oneOf(varNames)
	if !ok {
		return linear{}, false
	}
	x.coefs[v] = n
	return x, true
}
