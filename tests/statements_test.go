package tests

import (
	"math"
	"math/rand"
	"regexp"
	"slices"
	"strconv"
	"strings"
	"testing"

	"loop.example/loopnests/impl"
)

// stmtOf reads the text of a statement.
func stmtOf(t *testing.T, text string) impl.Stmt {
	t.Helper()
	s, ok := impl.ParseStmt(text)
	if !ok {
		t.Fatalf("ParseStmt(%q) returns false", text)
	}
	return s
}

func access(array string, subs ...impl.Affine) impl.Access {
	return impl.Access{Array: array, Subs: subs}
}

func numExpr(n int) impl.Expr {
	return impl.Expr{Kind: impl.ExprNum, Num: n}
}

func indexExpr(a impl.Affine) impl.Expr {
	return impl.Expr{Kind: impl.ExprIndex, Index: a}
}

func readExpr(array string, subs ...impl.Affine) impl.Expr {
	return impl.Expr{Kind: impl.ExprRead, Read: access(array, subs...)}
}

func nodeExpr(kind int, kids ...impl.Expr) impl.Expr {
	return impl.Expr{Kind: kind, Kids: kids}
}

// assign returns the statement that assigns the value of an expression to the element A[0].
func assign(value impl.Expr) impl.Stmt {
	return impl.Stmt{Write: access("A", lin(0, 0, 0, 0, 0)), Value: value}
}

func copyAccess(a impl.Access) impl.Access {
	return access(a.Array, copySide(a.Subs)...)
}

// copyExpr returns an expression in new memory.
func copyExpr(e impl.Expr) impl.Expr {
	result := impl.Expr{Kind: e.Kind, Num: e.Num, Index: lin(e.Index.Const, slices.Clone(e.Index.Coefs)...), Read: copyAccess(e.Read)}
	for _, kid := range e.Kids {
		result.Kids = append(result.Kids, copyExpr(kid))
	}
	return result
}

func copyStmt(s impl.Stmt) impl.Stmt {
	return impl.Stmt{Write: copyAccess(s.Write), Value: copyExpr(s.Value)}
}

func stmtIsZero(s impl.Stmt) bool {
	e := s.Value
	return s.Write.Array == "" && len(s.Write.Subs) == 0 && e.Kind == 0 && e.Num == 0 && isZero(e.Index) &&
		e.Read.Array == "" && len(e.Read.Subs) == 0 && len(e.Kids) == 0
}

// nodesOf returns e and the nodes below it, from left to right.
func nodesOf(e *impl.Expr) []*impl.Expr {
	list := []*impl.Expr{e}
	for n := range e.Kids {
		list = append(list, nodesOf(&e.Kids[n])...)
	}
	return list
}

// affinesOf returns all affine expressions of a statement, those of the element that it writes before the others.
func affinesOf(s *impl.Stmt) []*impl.Affine {
	var list []*impl.Affine
	for n := range s.Write.Subs {
		list = append(list, &s.Write.Subs[n])
	}
	for _, e := range nodesOf(&s.Value) {
		if e.Kind == impl.ExprIndex {
			list = append(list, &e.Index)
		}
		for n := range e.Read.Subs {
			list = append(list, &e.Read.Subs[n])
		}
	}
	return list
}

// depthOf returns the number of variables up to the last one that occurs in a statement.
func depthOf(s impl.Stmt) int {
	depth := 0
	for _, a := range affinesOf(&s) {
		for v, n := range a.Coefs {
			if n != 0 {
				depth = max(depth, v+1)
			}
		}
	}
	return depth
}

// validStmts are the texts of statements with expressions of every kind, and at the limits.
func validStmts() []string {
	return []string{
		"A[0]=0", "A[0]=99", "D[99]=7", "B[-99]={0}", "A[0]={-99}", "C[i]={i}", "A[l]={9*i+9*j+9*k+9*l+99}", "A[-9*i-9*j-9*k-9*l-99]=1",
		"A[0]=A[0]", "A[i]=A[i]", "A[i]=(A[i]+1)", "B[i,j]=(B[i,j]-B[j,i])", "A[i]=B[i]", "A[i,j]=C[k,l]", "A[k]={j}", "A[0]=D[-i,2*l]",
		"A[0]=(1+2)", "A[0]=(1-2)", "A[0]=(1*2)", "A[0]=((1+2)-(3*4))", "A[i]=(B[i,j+1]*{2*i})", "A[i]=({-i}-{-1})", "A[i]=(((A[i]+B[j])+C[k])+D[l])",
		"A[0]=((((1+2)+3)+4)+5)", "A[0]=(1-(2-(3-(4-5))))", "A[0]=(1*((2*(3*4))*5))", "A[0]=(((1+2)*(3+4))-(5*6))",
		"A[0]=(((1+A[i])+2)+((3+4)+{5}))", "A[i,j]=((1*(B[i-1]-(2+3)))+5)", "B[i,i]=((({i}+{j})-({k}*{l}))+(B[i,i]*10))",
	}
}

// badOperands are expressions that are valid nowhere in a statement.
func badOperands() []impl.Expr {
	zero, one := lin(0, 0, 0, 0, 0), numExpr(1)
	var list []impl.Expr
	for _, kind := range []int{0, 7, 8, -1, math.MaxInt, math.MinInt} {
		list = append(list, impl.Expr{Kind: kind}, nodeExpr(kind, one, one), impl.Expr{Kind: kind, Num: 1}, impl.Expr{Kind: kind, Index: zero},
			impl.Expr{Kind: kind, Read: access("A", zero)})
	}
	for _, n := range []int{-1, 100, -100, math.MaxInt, math.MinInt} {
		list = append(list, numExpr(n))
	}
	for _, kind := range []int{impl.ExprAdd, impl.ExprSub, impl.ExprMul} {
		list = append(list, nodeExpr(kind), nodeExpr(kind, one), nodeExpr(kind, one, one, one), nodeExpr(kind, slices.Repeat([]impl.Expr{one}, 500)...),
			nodeExpr(kind, impl.Expr{}, one), nodeExpr(kind, one, impl.Expr{}))
	}
	for _, e := range []impl.Expr{numExpr(0), numExpr(5), indexExpr(zero), indexExpr(variable(1)), readExpr("B", zero), readExpr("C", zero, variable(0)),
		nodeExpr(impl.ExprAdd, one, one), nodeExpr(impl.ExprSub, one, one), nodeExpr(impl.ExprMul, one, one)} {
		list = append(list, foreignFields(e)...)
	}
	list = append(list, indexExpr(impl.Affine{}), impl.Expr{Kind: impl.ExprRead})
	for _, a := range invalidAffines() {
		list = append(list, indexExpr(a))
	}
	for _, a := range badAccesses() {
		list = append(list, impl.Expr{Kind: impl.ExprRead, Read: a})
	}
	return list
}

// foreignFields returns variants of a valid expression in each of which one field is not zero that the kind does not have.
func foreignFields(e impl.Expr) []impl.Expr {
	zero := lin(0, 0, 0, 0, 0)
	var list []impl.Expr
	change := func(apply func(f *impl.Expr)) {
		f := copyExpr(e)
		apply(&f)
		list = append(list, f)
	}
	if e.Kind != impl.ExprNum {
		for _, n := range []int{1, -1, 99, math.MinInt} {
			change(func(f *impl.Expr) { f.Num = n })
		}
	}
	if e.Kind != impl.ExprIndex {
		for _, a := range []impl.Affine{zero, lin(1), lin(-1), lin(0, 0), lin(0, 0, 0, 0, 0, 0), lin(3, 1, 0, 0, 0)} {
			change(func(f *impl.Expr) { f.Index = a })
		}
	}
	if e.Kind != impl.ExprRead {
		for _, a := range []impl.Access{access("A"), access("A", zero), access("", zero), access("", impl.Affine{}), access("E"), access(" ")} {
			change(func(f *impl.Expr) { f.Read = a })
		}
	}
	if e.Kind <= impl.ExprRead {
		for count := range 3 {
			change(func(f *impl.Expr) { f.Kids = slices.Repeat([]impl.Expr{numExpr(1)}, count+1) })
		}
		change(func(f *impl.Expr) { f.Kids = []impl.Expr{{}} })
	}
	return list
}

// badAccesses are accesses that are valid nowhere in a statement.
func badAccesses() []impl.Access {
	zero := lin(0, 0, 0, 0, 0)
	list := []impl.Access{
		{}, access("A"), access("D"), access("A", zero, zero, zero), access("B", slices.Repeat([]impl.Affine{zero}, 4)...),
		access("C", slices.Repeat([]impl.Affine{zero}, 500)...),
	}
	for _, name := range []string{"", "E", "@", "a", "b", "AA", "AB", "BC", "ABCD", "A ", " A", "[", "0", "i", "\x00", "A\x00", "\xff", "Ä", "array"} {
		list = append(list, access(name, zero), access(name, zero, zero))
	}
	for _, a := range invalidAffines() {
		list = append(list, access("A", a), access("A", a, zero), access("A", zero, a))
	}
	return list
}

// invalidStmts are statements that are not valid within any number of loops.
func invalidStmts() []impl.Stmt {
	one := numExpr(1)
	list := []impl.Stmt{{}, {Value: one}, {Write: access("A", lin(0, 0, 0, 0, 0))}}
	for _, a := range badAccesses() {
		list = append(list, impl.Stmt{Write: a, Value: one})
	}
	for _, e := range badOperands() {
		list = append(list, assign(e), assign(nodeExpr(impl.ExprAdd, e, one)), assign(nodeExpr(impl.ExprSub, one, e)),
			assign(nodeExpr(impl.ExprMul, nodeExpr(impl.ExprAdd, one, nodeExpr(impl.ExprSub, one, nodeExpr(impl.ExprMul, one, e))), one)))
	}
	for depth := impl.MaxDepth + 1; depth < 10; depth++ {
		list = append(list, assign(chain(depth, true)), assign(chain(depth, false)))
	}
	for leaves := 7; leaves <= 16; leaves++ {
		list = append(list, assign(bush(leaves)))
	}
	return append(list, assign(nodeExpr(impl.ExprAdd, bush(6), one)), assign(cycle(1, 2)), assign(cycle(3, 2)))
}

// chain returns an expression of the given depth that has as few nodes as possible, with the longer operands on one side.
func chain(depth int, left bool) impl.Expr {
	e := numExpr(1)
	for range depth - 1 {
		if left {
			e = nodeExpr(impl.ExprSub, e, numExpr(2))
		} else {
			e = nodeExpr(impl.ExprSub, numExpr(2), e)
		}
	}
	return e
}

// bush returns an expression that is as flat as possible, and has the given number of leaves, and of operators one less.
func bush(leaves int) impl.Expr {
	if leaves == 1 {
		return numExpr(3)
	}
	return nodeExpr(impl.ExprMul, bush(leaves-leaves/2), bush(leaves/2))
}

// cycle returns an expression whose first operand is itself after a number of levels, with the number n as the last second operand.
func cycle(levels int, n int) impl.Expr {
	last := []impl.Expr{{}, numExpr(n)}
	e := nodeExpr(impl.ExprAdd, last...)
	for range levels - 1 {
		e = nodeExpr(impl.ExprAdd, e, numExpr(1))
	}
	last[0] = e
	return e
}

func TestStmtValid(t *testing.T) {
	for _, text := range validStmts() {
		s := stmtOf(t, text)
		for depth := range impl.MaxVars + 1 {
			if impl.StmtValid(s, depth) != (depth >= depthOf(s)) {
				t.Errorf("StmtValid(%s, %d) is not %v", text, depth, depth >= depthOf(s))
			}
		}
		for _, depth := range []int{-1, 5, 6, math.MaxInt, math.MinInt} {
			if impl.StmtValid(s, depth) {
				t.Errorf("StmtValid(%s, %d) = true", text, depth)
			}
		}
	}
	for n, s := range invalidStmts() {
		for depth := -1; depth < 6; depth++ {
			if impl.StmtValid(s, depth) {
				t.Errorf("StmtValid of the invalid statement %d within %d loops = true", n, depth)
			}
		}
	}
}

// TestStmtValidLimits checks expressions with the greatest number of nodes and the greatest depth, and beyond.
func TestStmtValidLimits(t *testing.T) {
	zero := lin(0, 0, 0, 0, 0)
	for _, c := range []struct {
		value impl.Expr
		valid bool
	}{
		{numExpr(0), true},
		{numExpr(99), true},
		{numExpr(100), false},
		{numExpr(-1), false},
		{chain(1, true), true},
		{chain(5, true), true},
		{chain(5, false), true},
		{chain(6, true), false},
		{chain(6, false), false},
		// A tree of operators with two operands has an odd number of nodes.
		{bush(6), true},
		{bush(7), false},
		{bush(8), false},
		{nodeExpr(impl.ExprAdd, bush(5), numExpr(1)), true},
		{nodeExpr(impl.ExprAdd, bush(6), numExpr(1)), false},
		{nodeExpr(impl.ExprAdd, numExpr(1), bush(6)), false},
		{nodeExpr(impl.ExprAdd, chain(4, true), bush(2)), true},
		{nodeExpr(impl.ExprAdd, bush(2), chain(4, false)), true},
		{nodeExpr(impl.ExprAdd, chain(4, true), bush(3)), false},
		{nodeExpr(impl.ExprAdd, chain(5, true), numExpr(1)), false},
		{nodeExpr(impl.ExprAdd, numExpr(1), chain(5, false)), false},
		{readExpr("A", zero, zero), true},
		{readExpr("A", zero, zero, zero), false},
		{readExpr("A", lin(99, 9, 9, 9, 9), lin(-99, -9, -9, -9, -9)), true},
		{readExpr("A", lin(100, 0, 0, 0, 0)), false},
		{indexExpr(lin(99, 9, 9, 9, 9)), true},
		{indexExpr(lin(0, 0, 0, 0, 10)), false},
		// Nil slices and empty ones are the same.
		{impl.Expr{Kind: 1, Index: impl.Affine{Coefs: []int{}}, Read: impl.Access{Subs: []impl.Affine{}}, Kids: []impl.Expr{}}, true},
		{impl.Expr{Kind: 2, Index: zero, Read: impl.Access{Subs: []impl.Affine{}}, Kids: []impl.Expr{}}, true},
		{impl.Expr{Kind: 3, Index: impl.Affine{Coefs: []int{}}, Read: access("A", zero), Kids: []impl.Expr{}}, true},
		{impl.Expr{Kind: 4, Index: impl.Affine{Coefs: []int{}}, Read: impl.Access{Subs: []impl.Affine{}}, Kids: []impl.Expr{numExpr(1), numExpr(2)}}, true},
	} {
		if impl.StmtValid(assign(c.value), 4) != c.valid {
			t.Errorf("StmtValid(%v) is not %v", c.value, c.valid)
		}
	}
}

// TestStmtDepth checks the depth for a variable at each place of a statement.
func TestStmtDepth(t *testing.T) {
	zero := lin(0, 0, 0, 0, 0)
	check := func(s impl.Stmt, want int) {
		t.Helper()
		if n := impl.StmtDepth(s); n != want {
			t.Errorf("StmtDepth(%s) = %d, not %d", impl.FormatStmt(s), n, want)
		}
		for depth := -1; depth < 7; depth++ {
			if impl.StmtValid(s, depth) != (want <= depth && depth <= 4) {
				t.Errorf("StmtValid(%s, %d) = %v", impl.FormatStmt(s), depth, impl.StmtValid(s, depth))
			}
		}
	}
	check(assign(numExpr(5)), 0)
	check(stmtOf(t, "A[1,2]=(B[3]-{4})"), 0)
	for v := range impl.MaxVars {
		a := variable(v)
		check(impl.Stmt{Write: access("A", a), Value: numExpr(1)}, v+1)
		check(impl.Stmt{Write: access("A", a, zero), Value: numExpr(1)}, v+1)
		check(impl.Stmt{Write: access("A", zero, a), Value: numExpr(1)}, v+1)
		for _, e := range []impl.Expr{indexExpr(a), readExpr("A", a), readExpr("B", zero, a), readExpr("C", a, zero)} {
			check(assign(e), v+1)
			check(assign(nodeExpr(impl.ExprAdd, e, numExpr(1))), v+1)
			check(assign(nodeExpr(impl.ExprSub, numExpr(1), e)), v+1)
			check(assign(nodeExpr(impl.ExprMul, e, indexExpr(variable(0)))), v+1)
			check(assign(nodeExpr(impl.ExprMul, indexExpr(variable(3)), nodeExpr(impl.ExprAdd, e, e))), 4)
		}
	}
	for _, text := range validStmts() {
		check(stmtOf(t, text), depthOf(stmtOf(t, text)))
	}
	for n, s := range invalidStmts() {
		if depth := impl.StmtDepth(s); depth != 0 {
			t.Errorf("StmtDepth of the invalid statement %d = %d", n, depth)
		}
	}
}

// TestStmtSame compares different statements with each other, and with copies of themselves.
func TestStmtSame(t *testing.T) {
	var list []impl.Stmt
	for _, text := range append(validStmts(), "A[0]=1", "A[1]=0", "B[0]=0", "A[0,0]=0", "A[0]=(2+1)", "A[0]=(1+3)", "A[0]=A[0,0]", "A[0]={1}") {
		list = append(list, stmtOf(t, text))
	}
	list = append(list, impl.Stmt{}, assign(numExpr(777)), assign(numExpr(-5)), assign(impl.Expr{Kind: 9}), assign(impl.Expr{Kind: 9, Num: 1}),
		assign(impl.Expr{}), assign(nodeExpr(0, impl.Expr{})), assign(nodeExpr(0, impl.Expr{}, impl.Expr{})),
		assign(nodeExpr(0, impl.Expr{}, impl.Expr{Num: 1})), assign(nodeExpr(0, impl.Expr{Num: 1}, impl.Expr{})),
		assign(indexExpr(lin(0, 0))), assign(indexExpr(lin(1))), assign(readExpr("A")), assign(readExpr("", impl.Affine{})), assign(readExpr("", lin(0, 0))),
		assign(chain(30, true)), assign(chain(31, true)), assign(chain(31, false)), assign(bush(30)),
		impl.Stmt{Write: access("xyz")}, impl.Stmt{Write: access("", lin(1, 2, 3))}, impl.Stmt{Write: access("", lin(1, 2, 3), lin(1))})
	for n, a := range list {
		for m, b := range list {
			if impl.StmtSame(a, copyStmt(b)) != (n == m) {
				t.Errorf("StmtSame(%v, %v) is not %v", a, b, n == m)
			}
		}
	}
	empty := impl.Stmt{Write: access("", []impl.Affine{}...), Value: impl.Expr{Index: lin(0), Read: access(""), Kids: []impl.Expr{}}}
	empty.Write.Subs, empty.Value.Index.Coefs, empty.Value.Read.Subs = []impl.Affine{}, []int{}, []impl.Affine{}
	if !impl.StmtSame(impl.Stmt{}, empty) || !impl.StmtSame(empty, impl.Stmt{}) {
		t.Error("StmtSame tells nil slices from empty ones")
	}
}

// TestStmtSameSeesEveryField changes one field after the other, at every level.
func TestStmtSameSeesEveryField(t *testing.T) {
	for _, text := range validStmts() {
		s := stmtOf(t, text)
		changed := copyStmt(s)
		check := func(what string) {
			t.Helper()
			if impl.StmtSame(s, changed) || impl.StmtSame(changed, s) {
				t.Errorf("StmtSame does not see another %s in %s", what, text)
			}
		}
		places := affinesOf(&changed)
		reads := []*impl.Access{&changed.Write}
		for _, e := range nodesOf(&changed.Value) {
			places = append(places, &e.Index)
			reads = append(reads, &e.Read)
			kept := *e
			e.Kind++
			check("kind")
			*e = kept
			e.Num--
			check("number")
			*e = kept
			e.Kids = append(slices.Clone(kept.Kids), impl.Expr{})
			check("number of operands")
			*e = kept
			if len(e.Kids) == 2 {
				e.Kids = e.Kids[:1]
				check("number of operands")
				*e = kept
			}
		}
		for _, a := range reads {
			kept := *a
			a.Array += "A"
			check("array")
			*a = kept
			a.Subs = append(slices.Clone(kept.Subs), impl.Affine{})
			check("number of subscripts")
			*a = kept
		}
		for _, a := range places {
			kept := *a
			a.Const++
			check("constant")
			*a = kept
			a.Coefs = append(slices.Clone(kept.Coefs), 0)
			check("number of coefficients")
			*a = kept
			for v := range a.Coefs {
				a.Coefs[v]++
				check("coefficient")
				a.Coefs[v]--
			}
		}
		if !impl.StmtSame(s, changed) {
			t.Errorf("StmtSame(%s) of a copy = false", text)
		}
	}
}

// TestStmtCycles checks expressions that are operands of themselves, and others of which many nodes share their operands.
func TestStmtCycles(t *testing.T) {
	for levels := 1; levels < 4; levels++ {
		s := assign(cycle(levels, 1))
		if impl.StmtValid(s, 4) || impl.FormatStmt(s) != "" || len(impl.StmtReads(s)) != 0 || impl.StmtDepth(s) != 0 {
			t.Errorf("a cycle of %d levels is valid", levels)
		}
		if _, ok := impl.SubstStmt(s, 0, lin(0, 0, 0, 0, 0)); ok {
			t.Errorf("SubstStmt accepts a cycle of %d levels", levels)
		}
		for others := 1; others < 6; others++ {
			// All these expressions are the same at every level, but for the number at the last level of the first one.
			if !impl.StmtSame(s, assign(cycle(others, 1))) || impl.StmtSame(s, assign(cycle(others, 2))) || impl.StmtSame(assign(cycle(others, 2)), s) {
				t.Errorf("StmtSame of cycles of %d and %d levels is wrong", levels, others)
			}
		}
		if impl.StmtSame(s, assign(chain(20, true))) || impl.StmtSame(assign(chain(20, true)), s) {
			t.Errorf("StmtSame of a cycle of %d levels and a chain = true", levels)
		}
	}
	var shared [3]impl.Expr
	for n := range shared {
		shared[n] = numExpr(n / 2)
		for range 200 {
			shared[n] = nodeExpr(impl.ExprAdd, shared[n], shared[n])
		}
	}
	if !impl.StmtSame(assign(shared[0]), assign(shared[1])) || impl.StmtSame(assign(shared[0]), assign(shared[2])) || impl.StmtValid(assign(shared[0]), 4) {
		t.Error("StmtSame or StmtValid of expressions with shared operands is wrong")
	}
}

func TestStmtTexts(t *testing.T) {
	zero, one := lin(0, 0, 0, 0, 0), lin(1, 0, 0, 0, 0)
	cases := []struct {
		s    impl.Stmt
		text string
	}{
		{assign(numExpr(0)), "A[0]=0"},
		{assign(numExpr(99)), "A[0]=99"},
		{assign(indexExpr(zero)), "A[0]={0}"},
		{assign(indexExpr(lin(-5, 0, 0, 0, 0))), "A[0]={-5}"},
		{assign(indexExpr(lin(99, 9, -1, 1, -9))), "A[0]={9*i-j+k-9*l+99}"},
		{assign(readExpr("A", zero)), "A[0]=A[0]"},
		{assign(readExpr("D", one, variable(3))), "A[0]=D[1,l]"},
		{impl.Stmt{Write: access("B", variable(2), lin(-99, 2, 0, 0, 0)), Value: numExpr(7)}, "B[k,2*i-99]=7"},
		{assign(nodeExpr(impl.ExprAdd, numExpr(1), numExpr(2))), "A[0]=(1+2)"},
		{assign(nodeExpr(impl.ExprSub, numExpr(1), numExpr(2))), "A[0]=(1-2)"},
		{assign(nodeExpr(impl.ExprMul, numExpr(1), numExpr(2))), "A[0]=(1*2)"},
		{assign(nodeExpr(impl.ExprSub, indexExpr(lin(0, -1, 0, 0, 0)), indexExpr(lin(-1, 0, 0, 0, 0)))), "A[0]=({-i}-{-1})"},
		{assign(nodeExpr(impl.ExprSub, nodeExpr(impl.ExprAdd, numExpr(1), numExpr(2)), nodeExpr(impl.ExprMul, numExpr(3), numExpr(4)))), "A[0]=((1+2)-(3*4))"},
		{impl.Stmt{Write: access("A", variable(0)), Value: nodeExpr(impl.ExprMul, readExpr("B", variable(0), lin(1, 0, 1, 0, 0)), indexExpr(lin(0, 2, 0, 0, 0)))},
			"A[i]=(B[i,j+1]*{2*i})"},
		{assign(chain(5, true)), "A[0]=((((1-2)-2)-2)-2)"},
		{assign(chain(5, false)), "A[0]=(2-(2-(2-(2-1))))"},
		{assign(bush(6)), "A[0]=(((3*3)*3)*((3*3)*3))"},
	}
	for _, c := range cases {
		if text := impl.FormatStmt(c.s); text != c.text {
			t.Errorf("FormatStmt(%v) = %q, not %q", c.s, text, c.text)
		}
		if s, ok := impl.ParseStmt(c.text); !ok || !impl.StmtSame(s, c.s) {
			t.Errorf("ParseStmt(%q) = %v, %v", c.text, s, ok)
		}
	}
	for n, s := range invalidStmts() {
		if text := impl.FormatStmt(s); text != "" {
			t.Errorf("FormatStmt of the invalid statement %d = %q", n, text)
		}
	}
}

// badStmtTexts are texts that are not the text of a statement.
func badStmtTexts() []string {
	return []string{
		"", "A", "A[", "A[0", "A[0]", "A[0]=", "=", "=1", "1", "1=1", "A=1", "A[]=1", "[0]=1", "A[0]=1=1", "A[0]==1", "A[0]=1\n", "\nA[0]=1", " A[0]=1",
		"A[0] =1", "A[0]= 1", "A[0]=1 ", "A [0]=1", "A[ 0]=1", "A[0 ]=1", "A[0]:=1", "A[0]=1;", "A[0]=1\x00", "A[0]=\x00", "\xff[0]=1", "A[0]=1A[0]=1",
		"E[0]=1", "@[0]=1", "a[0]=1", "AA[0]=1", "AB[0]=1", "{0}=1", "(1+2)=1", "A(0)=1", "A{0}=1", "A[0}=1", "A(0]=1", "A[[0]]=1", "A[A[0]]=1", "A[{0}]=1", "A[(0)]=1",
		"A[0,0,0]=1", "A[,0]=1", "A[0,]=1", "A[0,,0]=1", "A[,]=1", "A[0;0]=1", "A[0][0]=1", "A[0, 0]=1", "A[m]=1", "A[01]=1", "A[-0]=1", "A[+1]=1", "A[1*i]=1", "A[10*i]=1",
		"A[100]=1", "A[-100]=1", "A[j+i]=1", "A[i+i]=1", "A[1+i]=1", "A[i+0]=1", "A[1+1]=1", "A[i*2]=1", "A[2i]=1", "A[-]=1",
		"A[0]=-1", "A[0]=+1", "A[0]=100", "A[0]=00", "A[0]=01", "A[0]=099", "A[0]=1000", "A[0]=99999999999999999999", "A[0]=18446744073709551617", "A[0]=99999999999999999999B[0]",
		"A[0]=i", "A[0]=2*i", "A[0]=1+2", "A[0]=A[0]+1", "A[0]=(1)", "A[0]=((1+2))", "A[0]=({i})", "A[0]=()", "A[0]=(", "A[0]=)", "A[0]=(1+2", "A[0]=1+2)", "A[0]=(1+2))",
		"A[0]=(1+)", "A[0]=(+2)", "A[0]=(1+", "A[0]=(1", "A[0]=(+)", "A[0]=(1 + 2)", "A[0]=(1/2)", "A[0]=(1%2)", "A[0]=(1,2)", "A[0]=(1++2)", "A[0]=(1+-2)", "A[0]=(1--2)", "A[0]=(1+2+3)",
		"A[0]=(1+2]", "A[0]=[1+2]", "A[0]={1+2}", "A[0]=(1+2)(3+4)", "A[0]=(1+2)3", "A[0]=1(2+3)", "A[0]=(1(2+3))", "A[0]=(1*100)", "A[0]=(100*1)", "A[0]=(01+2)", "A[0]=(2+01)",
		"A[0]={}", "A[0]={i", "A[0]=i}", "A[0]={i]", "A[0]={i)", "A[0]={i,j}", "A[0]={100}", "A[0]={-100}", "A[0]={+i}", "A[0]={ i}", "A[0]={01}", "A[0]={-0}", "A[0]={j+i}", "A[0]={1*i}", "A[0]={10*i}",
		"A[0]={{i}}", "A[0]={(i)}", "A[0]={A[0]}", "A[0]={m}", "A[0]={i}{j}", "A[0]={i}j",
		"A[0]=B", "A[0]=B[", "A[0]=B[]", "A[0]=B[0", "A[0]=E[0]", "A[0]=b[0]", "A[0]=BB[0]", "A[0]=B[0,0,0]", "A[0]=B[0,]", "A[0]=B[,0]", "A[0]=B[0][0]", "A[0]=B[100]", "A[0]=B[01]", "A[0]=B[0]1", "A[0]=B[0]C[0]",
		"A[0]=(((((1+2)+3)+4)+5)+6)", "A[0]=(1+(2+(3+(4+(5+6)))))", "A[0]=((((1+2)+3)+(4+5))+(6+7))", "A[0]=(((1+2)+(3+4))+((5+6)+7))",
		"A[0]=((((1+2)+(3+4))+((5+6)+(7+8)))+(((1+2)+(3+4))+((5+6)+(7+8))))",
		strings.Repeat("(", 20000000), "A[0]=" + strings.Repeat("(", 20000000), "A[0]=" + strings.Repeat("(1+", 5000000) + "1" + strings.Repeat(")", 5000000),
		"A[" + strings.Repeat("0,", 50000) + "0]=1", "A[0]=B[" + strings.Repeat("0,", 50000) + "0]", "A[0]=" + strings.Repeat("1", 50000), "A[0]={" + strings.Repeat("i+", 50000) + "i}",
	}
}

func TestParseStmtRefuses(t *testing.T) {
	for _, text := range badStmtTexts() {
		if s, ok := impl.ParseStmt(text); ok || !stmtIsZero(s) {
			t.Errorf("ParseStmt(%.60q) = %v, %v", text, s, ok)
		}
	}
}

// stmtForm returns a function that reports whether a text is that of a statement, by replacing its operations from the inside out.
func stmtForm() func(text string) bool {
	number := `[1-9][0-9]?`
	sum := `([+-]` + number + `)?`
	affine := `0|-?` + number
	for _, v := range []string{"l", "k", "j", "i"} {
		affine += `|-?([2-9]\*)?` + v + sum
		sum = `([+-]([2-9]\*)?` + v + `)?` + sum
	}
	access := `[A-D]\[(` + affine + `)(,(` + affine + `))?\]`
	// The letters a to e stand for operations of the depth 1 to 5, and have a letter x for each node behind them.
	leaf := `0|` + number + `|\{(` + affine + `)\}|` + access
	write := regexp.MustCompile(`^` + access + `=`)
	leaves := regexp.MustCompile(`^(` + leaf + `)$`)
	inner := regexp.MustCompile(`\([^()]*\)`)
	operand := `(` + leaf + `|[b-e]x+)`
	operation := regexp.MustCompile(`^\(` + operand + `[+*-]` + operand + `\)$`)
	operands := regexp.MustCompile(`[b-e]x+`)
	replace := func(text string) string {
		if !operation.MatchString(text) {
			return "?"
		}
		depth, count := byte('a'), 3
		for _, s := range operands.FindAllString(text, -1) {
			depth, count = max(depth, s[0]), count+len(s)-2
		}
		return string(depth+1) + strings.Repeat("x", count)
	}
	return func(text string) bool {
		head := write.FindString(text)
		value := text[len(head):]
		if head == "" || strings.ContainsAny(value, "abcdex") {
			return false
		}
		for inner.MatchString(value) {
			value = inner.ReplaceAllStringFunc(value, replace)
		}
		if leaves.MatchString(value) {
			return true
		}
		s := operands.FindString(value)
		return s != "" && s == value && len(s)-1 <= impl.MaxNodes && int(s[0]-'a') < impl.MaxDepth
	}
}

// TestParseStmtNearTexts compares ParseStmt with regular expressions for texts that differ in a byte from that of a statement.
func TestParseStmtNearTexts(t *testing.T) {
	expected := stmtForm()
	var counts tally
	check := func(text string) {
		s, ok := impl.ParseStmt(text)
		if ok != expected(text) || ok && impl.FormatStmt(s) != text || !ok && !stmtIsZero(s) {
			t.Errorf("ParseStmt(%q) = %v, %v", text, s, ok)
		}
		counts.add(ok)
	}
	for _, text := range validStmts() {
		for s := range nearTexts(text, " ,=+-*()[]{}0129ijlmABE\x00") {
			check(s)
		}
		for n := range len(text) {
			// An operator in place of a leaf makes the expression deeper and adds nodes.
			check(text[:n] + "(1+2)" + text[n:])
			check(text[:n] + "(1+2)" + text[n+1:])
			check(text[:n] + "(B[i,j]-({k}*7))" + text[n+1:])
		}
	}
	for _, text := range badStmtTexts() {
		if len(text) < 1000 {
			check(text)
		}
	}
	counts.check(t, 1000)
}

func randomAffine(r *rand.Rand) impl.Affine {
	a := lin(r.Intn(199)-99, 0, 0, 0, 0)
	if r.Intn(2) == 0 {
		a.Const = r.Intn(3) - 1
	}
	for v := range a.Coefs {
		if r.Intn(2) == 0 {
			a.Coefs[v] = r.Intn(19) - 9
		}
	}
	return a
}

func randomAccess(r *rand.Rand) (impl.Access, string) {
	a := access(string("ABCD"[r.Intn(4)]), randomAffine(r))
	if r.Intn(2) == 0 {
		return a, a.Array + "[" + impl.FormatAffine(a.Subs[0]) + "]"
	}
	a.Subs = append(a.Subs, randomAffine(r))
	return a, a.Array + "[" + impl.FormatAffine(a.Subs[0]) + "," + impl.FormatAffine(a.Subs[1]) + "]"
}

// randomExpr returns an expression of at most the given depth and its text.
func randomExpr(r *rand.Rand, depth int) (impl.Expr, string) {
	if depth > 1 && r.Intn(8) > 0 {
		n := r.Intn(3)
		x, textX := randomExpr(r, depth-1)
		y, textY := randomExpr(r, depth-1-r.Intn(depth-1))
		if r.Intn(2) == 0 {
			x, textX, y, textY = y, textY, x, textX
		}
		return nodeExpr(impl.ExprAdd+n, x, y), "(" + textX + string("+-*"[n]) + textY + ")"
	}
	switch r.Intn(3) {
	case 0:
		n := r.Intn(100)
		return numExpr(n), strconv.Itoa(n)
	case 1:
		a := randomAffine(r)
		return indexExpr(a), "{" + impl.FormatAffine(a) + "}"
	}
	a, text := randomAccess(r)
	return impl.Expr{Kind: impl.ExprRead, Read: a}, text
}

// depthOfExpr returns the depth of an expression.
func depthOfExpr(e impl.Expr) int {
	depth := 0
	for _, kid := range e.Kids {
		depth = max(depth, depthOfExpr(kid))
	}
	return depth + 1
}

// TestRandomStmts checks random statements, many of which have too many nodes or are too deep.
func TestRandomStmts(t *testing.T) {
	r := rand.New(rand.NewSource(4))
	accepted, refused := 0, 0
	for range 20000 {
		value, text := randomExpr(r, 6)
		write, textWrite := randomAccess(r)
		s := impl.Stmt{Write: write, Value: value}
		text = textWrite + "=" + text
		valid := len(nodesOf(&value)) <= 12 && depthOfExpr(value) <= 5
		want := ""
		if valid {
			want = text
			accepted++
		} else {
			refused++
		}
		parsed, ok := impl.ParseStmt(text)
		if impl.FormatStmt(s) != want || ok != valid || ok && !impl.StmtSame(parsed, s) || !ok && !stmtIsZero(parsed) {
			t.Fatalf("FormatStmt = %q and ParseStmt(%q) = %v, %v", impl.FormatStmt(s), text, parsed, ok)
		}
		for depth := range impl.MaxVars + 1 {
			if impl.StmtValid(s, depth) != (valid && depth >= depthOf(s)) {
				t.Fatalf("StmtValid(%s, %d) = %v", text, depth, impl.StmtValid(s, depth))
			}
		}
		if valid && impl.StmtDepth(s) != depthOf(s) || !valid && impl.StmtDepth(s) != 0 {
			t.Fatalf("StmtDepth(%s) = %d", text, impl.StmtDepth(s))
		}
		checkReads(t, s, valid)
	}
	if accepted < 5000 || refused < 5000 {
		t.Errorf("%d statements are accepted and %d are refused", accepted, refused)
	}
}

// checkReads checks that StmtReads returns the accesses of s from left to right, or nothing if s is not valid.
func checkReads(t *testing.T, s impl.Stmt, valid bool) {
	t.Helper()
	var want []impl.Access
	for _, e := range nodesOf(&s.Value) {
		if e.Kind == impl.ExprRead && valid {
			want = append(want, e.Read)
		}
	}
	if list := impl.StmtReads(s); !slices.EqualFunc(list, want, sameAccess) {
		t.Fatalf("StmtReads(%s) = %v, not %v", impl.FormatStmt(s), list, want)
	}
}

func sameAccess(a impl.Access, b impl.Access) bool {
	return a.Array == b.Array && slices.EqualFunc(a.Subs, b.Subs, impl.AffineSame)
}

func TestStmtReads(t *testing.T) {
	for text, want := range map[string]string{
		"A[i]=5":                                 "",
		"A[i]={i}":                               "",
		"A[i]=({i}+(7*8))":                       "",
		"A[i]=A[i]":                              "A[i]",
		"A[i]=(A[i]+1)":                          "A[i]",
		"A[i]=(1+A[i])":                          "A[i]",
		"A[i]=(A[i]+A[i])":                       "A[i] A[i]",
		"A[i]=(D[0]-B[j,i])":                     "D[0] B[j,i]",
		"A[i]=(B[j,i]-D[0])":                     "B[j,i] D[0]",
		"A[i]=(B[i,j+1]*({2*i}-A[0]))":           "B[i,j+1] A[0]",
		"A[0]=(((D[1]+C[2])+B[3])+A[4])":         "D[1] C[2] B[3] A[4]",
		"A[0]=(D[1]+(C[2]+(B[3]+A[4])))":         "D[1] C[2] B[3] A[4]",
		"A[0]=((A[3]+{i})-((A[1]*C[0])*B[l,k]))": "A[3] A[1] C[0] B[l,k]",
	} {
		var texts []string
		for _, a := range impl.StmtReads(stmtOf(t, text)) {
			_, s, _ := strings.Cut(impl.FormatStmt(assign(impl.Expr{Kind: impl.ExprRead, Read: a})), "=")
			texts = append(texts, s)
		}
		if strings.Join(texts, " ") != want {
			t.Errorf("StmtReads(%s) = %v", text, texts)
		}
	}
	for n, s := range invalidStmts() {
		if list := impl.StmtReads(s); len(list) != 0 {
			t.Errorf("StmtReads of the invalid statement %d = %v", n, list)
		}
	}
	// Reads of a statement that is not valid are not returned, either.
	if list := impl.StmtReads(assign(nodeExpr(impl.ExprAdd, readExpr("A", lin(0, 0, 0, 0, 0)), numExpr(100)))); len(list) != 0 {
		t.Errorf("StmtReads = %v", list)
	}
}

func TestSubstStmt(t *testing.T) {
	for _, c := range []struct {
		s    string
		v    int
		a    string
		want string // or empty if SubstStmt returns false
	}{
		{"A[i]=(B[i,j+1]*({2*i}-A[0]))", 0, "i-k", "A[i-k]=(B[i-k,j+1]*({2*i-2*k}-A[0]))"},
		{"A[i]=(B[i,j+1]*{2*i})", 1, "-j", "A[i]=(B[i,-j+1]*{2*i})"},
		{"A[i]=(A[i]+1)", 0, "j", "A[j]=(A[j]+1)"},
		{"A[i,j]=B[j,i]", 0, "j", "A[j,j]=B[j,j]"},
		{"A[i,j]=B[j,i]", 1, "i+j", "A[i,i+j]=B[i+j,i]"},
		{"A[l]={k}", 3, "l+1", "A[l+1]={k}"},
		{"A[l]={k}", 2, "5", "A[l]={5}"},
		{"A[i]=(({i}+{i})+(B[i,i]*{i}))", 0, "-3", "A[-3]=(({-3}+{-3})+(B[-3,-3]*{-3}))"},
		// A statement without variables, and one without the variable.
		{"A[0]=1", 0, "9*i+99", "A[0]=1"},
		{"A[2]=(B[3,4]-{5})", 3, "i", "A[2]=(B[3,4]-{5})"},
		{"A[i]=(B[j]+{k})", 3, "-9*l-99", "A[i]=(B[j]+{k})"},
		{"A[i]=99", 0, "i", "A[i]=99"},
		// Results at the limits, and one beyond.
		{"A[i+98]=1", 0, "j+1", "A[j+99]=1"},
		{"A[i+98]=1", 0, "j+2", ""},
		{"A[0,i-98]=1", 0, "j-1", "A[0,j-99]=1"},
		{"A[0,i-98]=1", 0, "j-2", ""},
		{"A[0]=B[3*i]", 0, "3*k", "A[0]=B[9*k]"},
		{"A[0]=B[3*i]", 0, "4*k", ""},
		{"A[0]=B[0,-3*i]", 0, "3*k", "A[0]=B[0,-9*k]"},
		{"A[0]=B[0,-3*i]", 0, "4*k", ""},
		{"A[0]={9*i}", 0, "11", "A[0]={99}"},
		{"A[0]={9*i}", 0, "12", ""},
		{"A[0]={i+8*j}", 0, "j", "A[0]={9*j}"},
		{"A[0]={i+8*j}", 0, "2*j", ""},
		{"A[0]={i-8*j}", 0, "-j", "A[0]={-9*j}"},
		{"A[0]={i-8*j}", 0, "-2*j", ""},
		{"A[0]=((1+{99})+(2*{l+98}))", 3, "1", "A[0]=((1+{99})+(2*{99}))"},
		{"A[0]=((1+{99})+(2*{l+98}))", 3, "2", ""},
		{"A[0]=((C[l+98]+{99})+2)", 3, "2", ""},
		// The multiple of the expression is beyond the limits, but the result is not.
		{"A[0]={9*i-9*j}", 0, "2*j", "A[0]={9*j}"},
		{"A[2*i-99]={0}", 0, "60", "A[21]={0}"},
	} {
		s, ok := impl.SubstStmt(stmtOf(t, c.s), c.v, parsed(t, c.a))
		if ok != (c.want != "") || impl.FormatStmt(s) != c.want || !ok && !stmtIsZero(s) {
			t.Errorf("SubstStmt(%s, %d, %s) = %q, %v", c.s, c.v, c.a, impl.FormatStmt(s), ok)
		}
	}
}

func TestSubstStmtRefuses(t *testing.T) {
	zero := lin(0, 0, 0, 0, 0)
	refuses := func(what string, s impl.Stmt, v int, a impl.Affine) {
		t.Helper()
		if x, ok := impl.SubstStmt(s, v, a); ok || !stmtIsZero(x) {
			t.Errorf("SubstStmt with %s = %v, %v", what, x, ok)
		}
	}
	for _, text := range []string{"A[0]=1", "A[i]=(B[i,j+1]*{2*i})"} {
		s := stmtOf(t, text)
		for _, a := range invalidAffines() {
			for v := range impl.MaxVars {
				refuses("an invalid expression", s, v, a)
			}
		}
		for _, v := range []int{-1, 4, 5, math.MaxInt, math.MinInt} {
			refuses("no variable", s, v, zero)
		}
	}
	for n, s := range invalidStmts() {
		for v := range impl.MaxVars {
			refuses("the invalid statement "+strconv.Itoa(n), s, v, zero)
		}
	}
	// The result would be valid, but the statement is not.
	refuses("an invalid statement", stmtWithIndex(lin(100, 1, 0, 0, 0)), 0, lin(-1, 0, 0, 0, 0))
	refuses("an invalid statement", stmtWithIndex(lin(0, 10, 0, 0, 0)), 0, zero)
}

func stmtWithIndex(a impl.Affine) impl.Stmt {
	return assign(nodeExpr(impl.ExprAdd, numExpr(1), indexExpr(a)))
}

// TestSubstStmtEverywhere compares SubstStmt with the definition, for all affine expressions of random statements.
func TestSubstStmtEverywhere(t *testing.T) {
	r := rand.New(rand.NewSource(5))
	accepted, refused := 0, 0
	for range 3000 {
		value, _ := randomExpr(r, 1+r.Intn(4))
		write, _ := randomAccess(r)
		s := impl.Stmt{Write: write, Value: value}
		if !impl.StmtValid(s, 4) {
			continue
		}
		// With small coefficients there are enough results within the limits.
		for _, a := range affinesOf(&s) {
			for w := range a.Coefs {
				a.Coefs[w] %= 4
			}
		}
		v, by := r.Intn(impl.MaxVars), randomAffine(r)
		for w := range by.Coefs {
			by.Coefs[w] %= 3
		}
		want, valid := copyStmt(s), true
		for _, a := range affinesOf(&want) {
			old := lin(a.Const, slices.Clone(a.Coefs)...)
			n := a.Coefs[v]
			a.Coefs[v] = 0
			a.Const += n * by.Const
			for w := range a.Coefs {
				a.Coefs[w] += n * by.Coefs[w]
			}
			checkSubstValuesIfValid(t, old, v, by, *a)
			valid = valid && impl.AffineValid(*a)
		}
		got, ok := impl.SubstStmt(s, v, by)
		if ok != valid || ok && !impl.StmtSame(got, want) || !ok && !stmtIsZero(got) {
			t.Fatalf("SubstStmt(%s, %d, %s) = %v, %v", impl.FormatStmt(s), v, impl.FormatAffine(by), got, ok)
		}
		if ok {
			accepted++
		} else {
			refused++
		}
	}
	if accepted < 500 || refused < 500 {
		t.Errorf("%d substitutions are accepted and %d are refused", accepted, refused)
	}
}

// checkSubstValuesIfValid does what checkSubstValues does, if got is valid.
func checkSubstValuesIfValid(t *testing.T, a impl.Affine, v int, b impl.Affine, got impl.Affine) {
	t.Helper()
	if impl.AffineValid(got) {
		checkSubstValues(t, a, v, b, got)
	}
}

// appendEverywhere appends to all slices of a statement, which changes what shares their unused memory.
func appendEverywhere(s *impl.Stmt) {
	accesses := []*impl.Access{&s.Write}
	for _, e := range nodesOf(&s.Value) {
		accesses = append(accesses, &e.Read)
		_ = append(e.Kids, numExpr(55))
	}
	for _, a := range accesses {
		_ = append(a.Subs, lin(66))
	}
	for _, a := range affinesOf(s) {
		_ = append(a.Coefs, 77)
	}
}

// renumberStmt sets the coefficients of a statement to new numbers.
func renumberStmt(s *impl.Stmt, number int) int {
	for _, a := range affinesOf(s) {
		for v := range a.Coefs {
			number++
			a.Coefs[v] = number
		}
	}
	return number
}

// TestStmtMemory checks that results are in memory of their own.
func TestStmtMemory(t *testing.T) {
	argument := stmtOf(t, "A[i,j]=((A[i,j]+B[i,j])*({i}-B[j]))")
	by := lin(0, 0, 1, 0, 0)
	replacement := assign(indexExpr(by))
	statements := []*impl.Stmt{&argument, &replacement}
	for range 2 {
		read := stmtOf(t, "A[i,j]=((A[i,j]+B[i,j])*({i}-B[j]))")
		replaced, okReplaced := impl.SubstStmt(argument, 1, by)
		unchanged, okUnchanged := impl.SubstStmt(argument, 3, by)
		if !okReplaced || !okUnchanged {
			t.Fatal("SubstStmt returns false")
		}
		// The accesses become the elements that statements write, so that they are checked in the same way.
		accesses := impl.StmtReads(argument)
		statements = append(statements, &read, &replaced, &unchanged)
		_ = append(accesses, access("D"))
		for _, a := range accesses {
			statements = append(statements, &impl.Stmt{Write: a, Value: numExpr(1)})
		}
	}
	var expected []impl.Stmt
	number := 100
	for _, s := range statements {
		copied := copyStmt(*s)
		number = renumberStmt(&copied, number)
		expected = append(expected, copied)
	}
	number = 100
	for _, s := range statements {
		appendEverywhere(s)
		number = renumberStmt(s, number)
	}
	for n, s := range statements {
		if !impl.StmtSame(*s, expected[n]) {
			t.Errorf("the statement %d shares memory: %v", n, *s)
		}
	}
}

// TestStmtArguments checks that no function changes an argument or the memory behind it.
func TestStmtArguments(t *testing.T) {
	s := stmtOf(t, "A[i,j]=((A[i,j]+B[i,j])*({i}-B[j]))")
	shorter := copyStmt(s)
	// The subscripts, operands and coefficients of this statement have others behind them.
	shorter.Write.Subs = append(shorter.Write.Subs, lin(7, 7))[:2]
	shorter.Value.Kids = append(shorter.Value.Kids, numExpr(7))[:2]
	read := &shorter.Value.Kids[0].Kids[0].Read
	read.Subs = read.Subs[:1]
	for _, a := range affinesOf(&shorter) {
		a.Coefs = append(a.Coefs, 9)[:4]
	}
	kept := copyStmt(shorter)
	by := lin(1, 1, 1, 0, 0)
	for depth := range 6 {
		impl.StmtValid(shorter, depth)
		impl.SubstStmt(shorter, depth, by)
	}
	impl.StmtSame(shorter, kept)
	impl.FormatStmt(shorter)
	impl.StmtReads(shorter)
	impl.StmtDepth(shorter)
	if !impl.StmtSame(shorter, kept) || !impl.AffineSame(by, lin(1, 1, 1, 0, 0)) {
		t.Errorf("arguments are changed to %v, %v", shorter, by)
	}
	behind := shorter.Write.Subs[:3][2]
	operand := shorter.Value.Kids[:3][2]
	if behind.Const != 7 || operand.Num != 7 || !impl.AffineSame(read.Subs[:2][1], variable(1)) {
		t.Errorf("the memory behind arguments is changed to %v, %v", behind, operand)
	}
	for _, a := range affinesOf(&shorter) {
		if a.Coefs[:5][4] != 9 {
			t.Errorf("the memory behind coefficients is changed to %v", a.Coefs[:5])
		}
	}
}
