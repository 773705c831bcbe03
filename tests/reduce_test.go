package tests

import (
	"fmt"
	"math"
	"math/rand"
	"slices"
	"strings"
	"testing"

	"loop.example/loopnests/impl"
)

// isReduction reports whether a statement is a reduction, by its text.
func isReduction(s impl.Stmt) bool {
	write, value, _ := strings.Cut(impl.FormatStmt(s), "=")
	for _, operator := range []string{"+", "-"} {
		second, ok := strings.CutPrefix(value, "("+write+operator)
		if ok && write != "" && !strings.Contains(second, s.Write.Array) {
			return true
		}
	}
	return false
}

// group returns the array of a reduction, or the empty string for other instances and for indices of none.
func (x accesses) group(n int) string {
	if n < 0 || n >= len(x.instances) || !isReduction(x.stmt(x.instances[n])) {
		return ""
	}
	return x.stmt(x.instances[n]).Write.Array
}

// strict returns the relation of the dependences that are not between reductions of one array.
func (x accesses) strict() relation {
	var deps []impl.Dep
	for _, d := range x.deps() {
		if x.group(d.From) == "" || x.group(d.From) != x.group(d.To) {
			deps = append(deps, d)
		}
	}
	return relation{len(x.instances), deps}
}

// reduceSeen counts what programs and orders have, so that the tests show that they do not lack it.
type reduceSeen struct {
	// free are dependences that are not strict, and across are those of them between different statements.
	free, across, strict, mixed int
	// legal are orders of which some respect only strict dependences.
	legal, relaxed, broken int
}

func (s *reduceSeen) add(x accesses) {
	for _, d := range x.deps() {
		from, to := x.group(d.From), x.group(d.To)
		switch {
		case from == "" || to == "":
			s.strict++
		case from != to:
			s.mixed++
		default:
			s.free++
			if a, b := x.instances[d.From], x.instances[d.To]; a.Part != b.Part || a.Stmt != b.Stmt {
				s.across++
			}
		}
	}
}

// least returns the least of the counts.
func (s *reduceSeen) least() int {
	return min(s.free, s.across, s.strict, s.mixed, s.legal, s.relaxed, s.broken)
}

// checkReductions compares what the functions return for a valid program with the definitions.
func checkReductions(t *testing.T, r *rand.Rand, p impl.Program, s *reduceSeen) {
	t.Helper()
	x := accessesOf(p)
	s.add(x)
	text := impl.FormatProgram(p)
	for at := -2; at < len(x.instances)+2; at++ {
		want := x.group(at)
		if name, ok := impl.ReductionGroup(p, at); name != want || ok != (want != "") {
			t.Errorf("ReductionGroup(%q, %d) = %q, %v, not %q", text, at, name, ok, want)
		}
	}
	y := x.strict()
	if deps := impl.StrictDeps(p); !slices.Equal(deps, y.deps) {
		t.Errorf("StrictDeps(%q) = %v, not %v", text, deps, y.deps)
	}
	if list := impl.ReducedLevels(p); !slices.Equal(list, y.levels()) {
		t.Errorf("ReducedLevels(%q) = %v, not %v", text, list, y.levels())
	}
	checkReducedOrders(t, r, p, y, s)
}

// checkReducedOrders checks many orders of a program.
func checkReducedOrders(t *testing.T, r *rand.Rand, p impl.Program, x relation, s *reduceSeen) {
	t.Helper()
	memories := memoriesOf(r, impl.CountCells(p))[3:]
	// These orders respect all strict dependences.
	for _, order := range [][]int{upTo(x.count), sortedBy(impl.ReducedLevels(p)), sortedBy(x.latest()), impl.GreedyOrder(p, randomChoices(r))} {
		if !checkReducedOrder(t, p, x, memories, order, s) {
			t.Errorf("the order %v of %q does not respect strict dependences", order, impl.FormatProgram(p))
		}
	}
	checkReducedOrder(t, p, x, memories, reversed(upTo(x.count)), s)
	checkReducedOrder(t, p, x, memories, r.Perm(x.count), s)
	for _, choices := range [][]int{nil, {}, {0}, {1}, {-1}, {math.MaxInt}, {math.MinInt}, randomChoices(r), randomChoices(r)} {
		order := impl.ReducedOrder(p, choices)
		if want := x.greedy(choices); !slices.Equal(order, want) {
			t.Errorf("ReducedOrder(%q, %v) = %v, not %v", impl.FormatProgram(p), choices, order, want)
			continue
		}
		if !checkReducedOrder(t, p, x, memories, order, s) {
			t.Errorf("ReducedOrder(%q, %v) = %v, which does not respect strict dependences", impl.FormatProgram(p), choices, order)
		}
	}
}

// checkReducedOrder compares ReducedLegal with the definition; orders that respect strict dependences must lead to the memory of the program.
// It returns whether the order respects them.
func checkReducedOrder(t *testing.T, p impl.Program, x relation, memories [][]int, order []int, s *reduceSeen) bool {
	t.Helper()
	legal := len(x.broken(order)) == 0
	if impl.ReducedLegal(p, order) != legal {
		t.Errorf("ReducedLegal(%q, %v) is %v", impl.FormatProgram(p), order, !legal)
	}
	if !legal {
		s.broken++
		return false
	}
	s.legal++
	if !impl.OrderLegal(p, order) {
		s.relaxed++
	}
	checkSameMemory(t, p, memories, order)
	return true
}

func TestReductionsOfPrograms(t *testing.T) {
	r := rand.New(rand.NewSource(22))
	for _, lines := range validPrograms() {
		checkReductions(t, r, programOf(t, lines), &reduceSeen{})
	}
}

// reducingProgram returns a program of which many statements are nearly reductions; it need not be valid.
func reducingProgram(r *rand.Rand) impl.Program {
	p := denseProgram(r)
	for _, x := range p.Parts {
		for k := range x.Body {
			s := &x.Body[k]
			first := impl.Expr{Kind: impl.ExprRead, Read: copyAccess(s.Write)}
			second := s.Value
			if r.Intn(2) == 0 {
				second = impl.Expr{Kind: impl.ExprRead, Read: randomElement(r, p.Arrays, len(x.Nest))}
			}
			switch r.Intn(12) {
			case 0:
				first, second = second, first
			case 1:
				s.Value = nodeExpr(impl.ExprMul, first, second)
				continue
			case 2:
				first.Read = randomElement(r, p.Arrays, len(x.Nest))
			case 3:
				continue
			}
			s.Value = nodeExpr(impl.ExprAdd+r.Intn(2), first, second)
		}
	}
	randomLeaves(r, &p)
	return p
}

// TestRandomReductions checks random programs, and thus that orders that respect strict dependences lead to the same memory.
func TestRandomReductions(t *testing.T) {
	r := rand.New(rand.NewSource(23))
	var s reduceSeen
	count := 0
	for range 3000 {
		p := reducingProgram(r)
		if !isProgram(p) || len(instancesOf(p)) > 30 {
			continue
		}
		count++
		checkReductions(t, r, p, &s)
	}
	if count < 300 || s.least() < 100 {
		t.Errorf("%d programs have only %+v", count, s)
	}
}

func TestReductionOf(t *testing.T) {
	for text, want := range map[string]bool{
		// Sums and differences of the written element and a term.
		"A[i]=(A[i]+1)": true, "A[i]=(A[i]-1)": true, "A[0]=(A[0]-{i})": true, "A[i]=(A[i]+0)": true, "A[i]=(A[i]+{-9*l-99})": true, "A[i]=(A[i]-B[i,j])": true, "D[99]=(D[99]-C[99])": true,
		"B[i,j]=(B[i,j]+A[i])": true, "C[-9*i-9*j-9*k-9*l-99,3*l]=(C[-9*i-9*j-9*k-9*l-99,3*l]-5)": true, "A[l]=(A[l]+{k})": true,
		// Longer terms.
		"A[i]=(A[i]+(1*2))": true, "A[i]=(A[i]-(B[i]-(C[i]+D[i])))": true, "A[i]=(A[i]+((B[i]*B[i])*(C[j]-{k})))": true, "A[i]=(A[i]-(B[0]+(B[0]+(B[0]+B[0]))))": true,
		"A[i]=(A[i]+(((1+2)*(3+4))*5))": true,
		// Products, and values without operators.
		"A[i]=(A[i]*1)": false, "A[i]=(A[i]*B[i])": false, "A[i]=A[i]": false, "A[i]=B[i]": false, "A[i]=1": false, "A[i]={i}": false,
		// The written element is the second operand, or is in it.
		"A[i]=(1+A[i])": false, "A[i]=(1-A[i])": false, "A[i]=(B[i,j]+A[i])": false, "A[i]=(B[i,j]-A[i])": false, "A[i]=({i}-A[i])": false, "A[i]=(A[i]+A[i])": false, "A[i]=(A[i]-A[i])": false,
		"A[i]=(A[i]-(B[i]+A[i]))": false, "A[i]=(A[i]+(A[i]-B[i]))": false, "A[i]=(A[i]+(1*(2*(3*A[i]))))": false,
		// The second operand reads another element of the array, also as an array of other dimensions.
		"A[i]=(A[i]+A[j])": false, "A[i]=(A[i]-A[i+1])": false, "A[i]=(A[i]+A[0])": false, "A[i]=(A[i]+A[i,i])": false, "A[i]=(A[i]+(B[i]*A[2*j]))": false, "A[i]=(A[i]-((A[5]+1)+2))": false,
		"A[i]=(A[i]+((B[i]-(C[i]+A[j]))*2))": false, "B[i,j]=(B[i,j]+B[j,i])": false,
		// The first operand is another element, of this array or another one.
		"A[i]=(A[i+1]+1)": false, "A[i]=(A[j]+1)": false, "A[i]=(A[-i]-1)": false, "A[i]=(A[0]+1)": false, "A[0]=(A[i]+1)": false, "A[i]=(A[i,0]+1)": false, "A[i,0]=(A[i]+1)": false, "A[i]=(B[i]+1)": false,
		"B[i,j]=(B[j,i]+1)": false, "B[i,j]=(B[i,i]-1)": false, "B[i,j]=(B[i,j+1]+1)": false, "A[i]=(B[i]-C[i])": false, "A[i]=(B[i]+A[i+1])": false,
		// The first operand is not an element.
		"A[i]=(1+2)": false, "A[i]=({i}-1)": false, "A[i]=((A[i]+1)+2)": false, "A[i]=((A[i]-B[j])-C[k])": false, "A[i]=((A[i]+1)*2)": false, "A[i]=((1+2)+A[i])": false, "A[i]=((A[i]*1)+2)": false,
	} {
		s := stmtOf(t, text)
		if got := impl.ReductionOf(s); got != want || isReduction(s) != want {
			t.Errorf("ReductionOf(%s) = %v", text, got)
		}
	}
	for _, text := range validStmts() {
		s := stmtOf(t, text)
		if got := impl.ReductionOf(s); got != isReduction(s) {
			t.Errorf("ReductionOf(%s) = %v", text, got)
		}
	}
}

// TestReductionOfSeesEveryNumber changes one number of the read element after the other.
func TestReductionOfSeesEveryNumber(t *testing.T) {
	for _, text := range []string{"A[i+2*j-3]=(A[i+2*j-3]+1)", "B[2*i,-l+5]=(B[2*i,-l+5]-C[j])", "C[0]=(C[0]-{i})"} {
		s := stmtOf(t, text)
		first := &s.Value.Kids[0]
		var numbers []*int
		for n := range first.Read.Subs {
			a := &first.Read.Subs[n]
			numbers = append(numbers, &a.Const, &a.Coefs[0], &a.Coefs[1], &a.Coefs[2], &a.Coefs[3])
		}
		for _, n := range numbers {
			for _, by := range []int{1, -1} {
				*n += by
				if impl.ReductionOf(s) || !impl.StmtValid(s, 4) {
					t.Errorf("ReductionOf accepts %q", impl.FormatStmt(s))
				}
				*n -= by
			}
		}
		if !impl.ReductionOf(s) {
			t.Errorf("ReductionOf refuses %s", text)
		}
	}
}

func TestRandomReductionStmts(t *testing.T) {
	r := rand.New(rand.NewSource(24))
	var counts tally
	for range 20000 {
		second, _ := randomExpr(r, 1+r.Intn(5))
		write, _ := randomAccess(r)
		first := impl.Expr{Kind: impl.ExprRead, Read: copyAccess(write)}
		if r.Intn(10) == 0 {
			first, second = second, first
		}
		s := impl.Stmt{Write: write, Value: nodeExpr(impl.ExprAdd+r.Intn(3), first, second)}
		// The text of a statement that is not valid is empty.
		want := isReduction(s)
		if got := impl.ReductionOf(s); got != want {
			t.Fatalf("ReductionOf(%v) = %v", s, got)
		}
		counts.add(want)
	}
	counts.check(t, 5000)
}

// TestReductionOfInvalidStmts checks statements that are not valid, and would be reductions otherwise.
func TestReductionOfInvalidStmts(t *testing.T) {
	zero := lin(0, 0, 0, 0, 0)
	list := invalidStmts()
	first, one := readExpr("A", zero), numExpr(1)
	for _, e := range append(badOperands(), cycle(1, 2), cycle(3, 2), chain(5, true), bush(6)) {
		list = append(list, assign(nodeExpr(impl.ExprAdd, first, e)), assign(nodeExpr(impl.ExprSub, first, nodeExpr(impl.ExprMul, one, e))))
	}
	for _, e := range foreignFields(first) {
		list = append(list, assign(nodeExpr(impl.ExprAdd, e, one)))
	}
	for _, e := range foreignFields(nodeExpr(impl.ExprSub, first, one)) {
		list = append(list, assign(e))
	}
	for _, a := range badAccesses() {
		list = append(list, impl.Stmt{Write: a, Value: nodeExpr(impl.ExprAdd, impl.Expr{Kind: impl.ExprRead, Read: copyAccess(a)}, one)})
	}
	list = append(list, assign(nodeExpr(impl.ExprAdd, first)), assign(nodeExpr(impl.ExprSub, first, one, one)), assign(nodeExpr(impl.ExprAdd)), assign(nodeExpr(7, first, one)))
	for n, s := range list {
		if impl.ReductionOf(s) {
			t.Errorf("ReductionOf accepts the invalid statement %d", n)
		}
	}
	// Terms at the limits.
	for _, e := range []impl.Expr{chain(4, true), chain(4, false), bush(5), numExpr(99)} {
		if s := assign(nodeExpr(impl.ExprAdd, first, e)); !impl.ReductionOf(s) {
			t.Errorf("ReductionOf refuses %s", impl.FormatStmt(s))
		}
	}
}

// reduceCase has the lines of a program, and what the functions return for it, as texts; groups are those of all instances, with `-` for none.
type reduceCase struct {
	lines, groups, deps, levels string
}

func (c reduceCase) check(t *testing.T, r *rand.Rand) {
	t.Helper()
	p := programOf(t, c.lines)
	var groups []string
	for at := range impl.ProgramInstances(p) {
		name, ok := impl.ReductionGroup(p, at)
		if !ok {
			name += "-"
		}
		groups = append(groups, name)
	}
	got := reduceCase{c.lines, strings.Join(groups, " "), fmt.Sprint(impl.StrictDeps(p)), fmt.Sprint(impl.ReducedLevels(p))}
	if got != c {
		t.Errorf("%+v, not %+v", got, c)
	}
	checkReductions(t, r, p, &reduceSeen{})
}

func TestReduceCases(t *testing.T) {
	r := rand.New(rand.NewSource(25))
	for _, c := range []reduceCase{
		// Programs without instances.
		{"", "", "[]", "[]"}, {"array A 3", "", "[]", "[]"}, {"array A 3/part/for 0 0/A[i]=(A[i]+1)", "", "[]", "[]"},
		// The example of the chapter.
		{"array A 1/part/for 0 4/A[0]=(A[0]-{i})", "A A A A", "[]", "[0 0 0 0]"}, {"array A 1/part/for 0 4/A[0]=(A[0]+{i})", "A A A A", "[]", "[0 0 0 0]"},
		// Several statements and parts that reduce the same array, by sums and differences.
		{"array A 1/part/A[0]=(A[0]+1)/A[0]=(A[0]-2)/A[0]=(A[0]+3)", "A A A", "[]", "[0 0 0]"}, {"array A 1/part/A[0]=(A[0]+1)/part/A[0]=(A[0]-2)/part/for 0 2/A[0]=(A[0]+{i})", "A A A A", "[]", "[0 0 0 0]"},
		{"array A 3/part/for 0 2/A[i]=(A[i]+1)/A[i+1]=(A[i+1]-2)", "A A A A", "[]", "[0 0 0 0]"}, {"array B 2 2/part/for 0 2/B[i,0]=(B[i,0]+1)/part/for 0 2/B[0,i]=(B[0,i]-1)", "B B B B", "[]", "[0 0 0 0]"},
		// A statement that nearly is a reduction, before or behind one of the same array.
		{"array A 1/part/A[0]=(A[0]+1)/A[0]=(5-A[0])", "A -", "[{0 1 7}]", "[0 1]"}, {"array A 1/part/A[0]=(5+A[0])/A[0]=(A[0]+1)", "- A", "[{0 1 7}]", "[0 1]"}, {"array A 1/part/A[0]=(A[0]*2)/A[0]=(A[0]-2)", "- A", "[{0 1 7}]", "[0 1]"},
		{"array A 2/part/A[0]=(A[0]-A[1])/A[0]=(A[0]-2)", "- A", "[{0 1 7}]", "[0 1]"}, {"array A 2/part/for 0 2/A[0]=(A[i]+1)", "- -", "[{0 1 6}]", "[0 1]"}, {"array A 1/part/A[0]=(A[0]+1)/A[0]=((A[0]+1)+1)", "A -", "[{0 1 7}]", "[0 1]"},
		// Dependences between instances that are no reductions.
		{"array A 1/part/for 0 3/A[0]=({i}-A[0])", "- - -", "[{0 1 7} {0 2 7} {1 2 7}]", "[0 1 2]"}, {"array A 4/part/for 0 3/A[i+1]=A[i]", "- - -", "[{0 1 1} {1 2 1}]", "[0 1 2]"},
		// A read of the array before, between and behind reductions.
		{"array A 1/array C 1/part/C[0]=A[0]/A[0]=(A[0]+1)/A[0]=(A[0]+2)", "- A A", "[{0 1 2} {0 2 2}]", "[0 1 1]"}, {"array A 1/array C 1/part/A[0]=(A[0]+1)/C[0]=A[0]/A[0]=(A[0]+2)", "A - A", "[{0 1 1} {1 2 2}]", "[0 1 2]"},
		{"array A 1/array C 1/part/A[0]=(A[0]+1)/A[0]=(A[0]+2)/C[0]=A[0]", "A A -", "[{0 2 1} {1 2 1}]", "[0 0 1]"}, {"array A 2/array C 1/part/A[0]=(A[0]+1)/C[0]=A[1]/A[0]=(A[0]+2)", "A - A", "[]", "[0 0 0]"},
		// A write of the array before, between and behind reductions.
		{"array A 1/part/A[0]=5/A[0]=(A[0]+1)/A[0]=(A[0]+2)", "- A A", "[{0 1 5} {0 2 5}]", "[0 1 1]"}, {"array A 1/part/A[0]=(A[0]+1)/A[0]=5/A[0]=(A[0]+2)", "A - A", "[{0 1 6} {1 2 5}]", "[0 1 2]"}, {"array A 1/part/A[0]=(A[0]+1)/A[0]=(A[0]+2)/A[0]=5", "A A -", "[{0 2 6} {1 2 6}]", "[0 0 1]"},
		// Reductions of different arrays, of which one reads the other array.
		{"array A 1/array B 1/part/A[0]=(A[0]+1)/B[0]=(B[0]+A[0])", "A B", "[{0 1 1}]", "[0 1]"}, {"array A 1/array B 1/part/A[0]=(A[0]+B[0])/B[0]=(B[0]-1)", "A B", "[{0 1 2}]", "[0 1]"}, {"array A 1/array B 1/part/A[0]=(A[0]+B[0])/B[0]=(B[0]-A[0])", "A B", "[{0 1 3}]", "[0 1]"},
		{"array A 1/array B 1/part/for 0 2/A[0]=(A[0]+1)/B[0]=(B[0]-2)", "A B A B", "[]", "[0 0 0 0]"}, {"array A 1/array B 1/part/for 0 2/A[0]=(A[0]+1)/B[0]=(B[0]+A[0])", "A B A B", "[{0 1 1} {0 3 1} {1 2 2} {2 3 1}]", "[0 1 2 3]"},
		// A term that is written between reductions.
		{"array A 1/array B 1/part/B[0]=1/A[0]=(A[0]+B[0])/B[0]=2/A[0]=(A[0]+B[0])", "- A - A", "[{0 1 1} {0 2 4} {0 3 1} {1 2 2} {2 3 1}]", "[0 1 2 3]"}, {"array A 1/array B 3/part/for 0 2/B[i+1]=B[i]/A[0]=(A[0]+B[i])", "- A - A", "[{0 2 1} {0 3 1}]", "[0 0 1 1]"},
		// The instances of a nest, each of which reads what others write.
		{"array B 4 4/array C 4/part/for 0 2/for 0 2/C[j]=(C[j]+B[j,i])", "C C C C", "[]", "[0 0 0 0]"}, {"array A 2/part/for 0 3/A[0]=(A[0]-{i})/part/A[1]=A[0]", "A A A -", "[{0 3 1} {1 3 1} {2 3 1}]", "[0 0 0 1]"},
		{"array A 2/array C 2/part/for 0 3/A[0]=(A[0]-{i})/C[0]=A[0]", "A - A - A -", "[{0 1 1} {0 3 1} {0 5 1} {1 2 2} {1 3 4} {1 4 2} {1 5 4} {2 3 1} {2 5 1} {3 4 2} {3 5 4} {4 5 1}]", "[0 1 2 3 4 5]"},
		// Large terms, so that sums and differences are taken modulo 1000.
		{"array A 2/array B 2/part/for 0 2/A[0]=(A[0]+B[i])/A[1]=(A[1]-(B[0]*B[i]))/A[0]=(A[0]-{9*i-99})", "A A A A A A", "[]", "[0 0 0 0 0 0]"},
	} {
		c.check(t, r)
	}
}

// TestAllReducedOrders checks all orders of small programs; each one that respects strict dependences can be built by choices.
func TestAllReducedOrders(t *testing.T) {
	r := rand.New(rand.NewSource(26))
	for lines, want := range map[string]int{
		"": 1, "array A 3": 1, "array A 1/part/A[0]=(A[0]+1)": 1, "array A 1/part/for 0 5/A[0]=(A[0]-{i})": 120, "array A 1/part/A[0]=(A[0]+1)/A[0]=(A[0]-2)/part/A[0]=(A[0]+3)/part/A[0]=(A[0]-A[0])": 6,
		"array A 1/part/for 0 4/A[0]=({i}-A[0])": 1, "array A 1/part/for 0 4/A[0]=(A[0]*{i})": 1, "array A 1/part/A[0]=(A[0]+1)/A[0]=(1+A[0])/A[0]=(A[0]+1)": 1,
		"array A 1/array C 1/part/A[0]=(A[0]+1)/C[0]=A[0]/A[0]=(A[0]-2)/A[0]=(A[0]+3)": 2, "array A 1/array C 1/part/for 0 3/A[0]=(A[0]-{i})/part/C[0]=A[0]": 6, "array A 1/array C 1/part/C[0]=A[0]/part/for 0 3/A[0]=(A[0]-{i})": 6,
		"array A 1/part/A[0]=(A[0]+1)/A[0]=5/A[0]=(A[0]-2)/A[0]=(A[0]-3)": 2, "array A 1/array B 1/part/for 0 2/A[0]=(A[0]+1)/B[0]=(B[0]-{i})": 24, "array A 1/array B 1/part/A[0]=(A[0]+B[0])/B[0]=(B[0]-A[0])": 1,
		"array A 1/array B 1/part/B[0]=1/A[0]=(A[0]+B[0])/A[0]=(A[0]-B[0])/B[0]=2": 2, "array A 1/array B 1/part/B[0]=1/A[0]=(A[0]+B[0])/B[0]=2/A[0]=(A[0]-B[0])": 1, "array A 2/part/for 0 2/A[i]=(A[i]+1)/A[0]=(A[0]-{i})": 24,
		"array A 1/array B 2/part/for 0 2/B[i]=(B[i]+3)/A[0]=(A[0]+B[i])": 6, "array A 4/array C 3/part/for 0 3/A[i+1]=A[i]/C[0]=(C[0]-A[i+1])": 15,
	} {
		p := programOf(t, lines)
		x := accessesOf(p).strict()
		memories := memoriesOf(r, impl.CountCells(p))
		count := 0
		for order := range permutations(x.count) {
			if !checkReducedOrder(t, p, x, memories, order, &reduceSeen{}) {
				continue
			}
			count++
			if got := impl.ReducedOrder(p, x.choicesFor(order)); !slices.Equal(got, order) {
				t.Errorf("ReducedOrder(%s, %v) = %v, not %v", lines, x.choicesFor(order), got, order)
			}
		}
		if count != want {
			t.Errorf("%s has %d orders, not %d", lines, count, want)
		}
	}
}

// TestReducedChoices checks orders that are built step by step.
func TestReducedChoices(t *testing.T) {
	free := "array A 1/part/for 0 4/A[0]=(A[0]-{i})"
	read := "array A 1/array C 1/part/for 0 2/A[0]=(A[0]+{i})/part/C[0]=A[0]/part/for 0 2/A[0]=(A[0]-1)"
	for _, c := range []struct {
		lines   string
		choices []int
		want    string
	}{
		{free, nil, "[0 1 2 3]"}, {free, []int{}, "[0 1 2 3]"}, {free, []int{0}, "[0 1 2 3]"}, {free, []int{1}, "[1 2 3 0]"}, {free, []int{3, 2, 1, 0}, "[3 2 1 0]"}, {free, []int{2, 0, 1}, "[2 0 3 1]"},
		{free, []int{-1}, "[0 1 2 3]"}, {free, []int{-5}, "[0 1 2 3]"}, {free, []int{5}, "[1 3 2 0]"}, {free, []int{3, -3, 1, -1}, "[3 0 2 1]"}, {free, []int{math.MaxInt}, "[3 1 2 0]"}, {free, []int{math.MinInt}, "[0 1 2 3]"},
		{free, []int{2, 1, 1, 0, 99, 98}, "[2 1 3 0]"}, {read, nil, "[0 1 2 3 4]"}, {read, []int{1}, "[1 0 2 4 3]"}, {read, []int{1, 0, 5, 0}, "[1 0 2 3 4]"}, {read, []int{0, 0, 0, 1}, "[0 1 2 4 3]"}, {read, []int{-7, 2}, "[0 1 2 3 4]"},
		{"", []int{1}, "[]"}, {"array A 3/part/for 0 0/A[i]=(A[i]+1)", []int{1}, "[]"}, {"array A 1/part/A[0]=(A[0]+1)", []int{7}, "[0]"},
	} {
		p := programOf(t, c.lines)
		if order := impl.ReducedOrder(p, c.choices); fmt.Sprint(order) != c.want || !impl.ReducedLegal(p, order) {
			t.Errorf("ReducedOrder(%s, %v) = %v, not %s", c.lines, c.choices, order, c.want)
		}
	}
}

// TestMostReductions checks the greatest number of instances, which are all reductions of one array, or of which one reads it.
func TestMostReductions(t *testing.T) {
	r := rand.New(rand.NewSource(27))
	free := programOf(t, "array A 1/part/for -60 60/A[0]=(A[0]-{i})")
	if deps := impl.StrictDeps(free); len(deps) != 0 || len(impl.Dependences(free)) != 120*119/2 {
		t.Errorf("there are the dependences %v", deps)
	}
	if levels := impl.ReducedLevels(free); !slices.Equal(levels, make([]int, 120)) {
		t.Errorf("the levels are %v", levels)
	}
	backwards := reversed(upTo(120))
	if order := impl.ReducedOrder(free, backwards); !slices.Equal(order, backwards) || !impl.ReducedLegal(free, backwards) || impl.OrderLegal(free, backwards) {
		t.Errorf("the order is %v", order)
	}
	checkSameMemory(t, free, memoriesOf(r, 1), backwards)
	for at, want := range map[int]bool{-1: false, 0: true, 1: true, 119: true, 120: false, math.MaxInt: false, math.MinInt: false, 1 << 32: false} {
		if name, ok := impl.ReductionGroup(free, at); ok != want || (name == "A") != want || len(name) > 1 {
			t.Errorf("ReductionGroup(%d) = %q, %v", at, name, ok)
		}
	}
	read := programOf(t, "array A 1/array C 1/part/for 0 60/A[0]=(A[0]-{i})/part/C[0]=A[0]/part/for 0 59/A[0]=(A[0]+{i})")
	if deps := impl.StrictDeps(read); len(deps) != 119 || deps[0] != (impl.Dep{From: 0, To: 60, Kinds: 1}) || deps[118] != (impl.Dep{From: 60, To: 119, Kinds: 2}) {
		t.Errorf("there are the dependences %v", deps)
	}
	for range 10 {
		order := impl.ReducedOrder(read, randomChoices(r))
		if !impl.ReducedLegal(read, order) || order[60] != 60 {
			t.Errorf("the order is %v", order)
		}
		checkSameMemory(t, read, memoriesOf(r, 2), order)
	}
}

// TestReducedRefusesLists checks lists that are too short, too long, or have an index twice, a negative one or one past the end.
func TestReducedRefusesLists(t *testing.T) {
	for _, lines := range []string{"array A 1/part/for 0 4/A[0]=(A[0]-{i})", "array A 5/part/for 0 4/A[i+1]=A[i]", "array A 1/part/A[0]=A[0]/A[0]=(A[0]+1)/part/for 0 2/A[0]=(A[0]-1)"} {
		p := programOf(t, lines)
		for _, order := range badOrders() {
			if impl.ReducedLegal(p, order) {
				t.Errorf("ReducedLegal accepts the order %.60s of %s", fmt.Sprint(order), lines)
			}
		}
	}
	for _, lines := range []string{"", "array A 3", "array A 3/part/for 0 0/A[i]=(A[i]+1)"} {
		p := programOf(t, lines)
		if !impl.ReducedLegal(p, nil) || !impl.ReducedLegal(p, []int{}) || impl.ReducedLegal(p, []int{0}) || impl.ReducedLegal(p, []int{-1}) {
			t.Errorf("ReducedLegal(%s) is wrong", lines)
		}
		for at := -1; at < 2; at++ {
			if name, ok := impl.ReductionGroup(p, at); ok || name != "" {
				t.Errorf("ReductionGroup(%s, %d) = %q, %v", lines, at, name, ok)
			}
		}
	}
	p := programOf(t, "array A 1/part/for 0 3/A[0]=(A[0]+1)")
	var counts tally
	for length := range 5 {
		for _, order := range boxPoints(length, 3) {
			legal := impl.ReducedLegal(p, order)
			if legal != isOrder(order, 3) {
				t.Errorf("ReducedLegal(%v) is %v", order, legal)
			}
			counts.add(legal)
		}
	}
	counts.check(t, 6)
}

func TestReductionsOfInvalidPrograms(t *testing.T) {
	list := brokenPrograms(t)
	for _, lines := range []string{"array A 1/part/A[1]=(A[1]+1)", "array A 2/part/for 0 3/A[i]=(A[i]-1)", "part/A[0]=(A[0]+1)", "array A 1/part/A[0]=(A[0]+B[0])", "array A 1/part/for -60 61/A[0]=(A[0]+1)", "array B 1/array A 1/part/A[0]=(A[0]+1)"} {
		list = append(list, looseProgram(t, lines))
	}
	for n, p := range list {
		for at := -1; at < 4; at++ {
			if name, ok := impl.ReductionGroup(p, at); ok || name != "" {
				t.Errorf("ReductionGroup of the invalid program %d and %d is %q, %v", n, at, name, ok)
			}
		}
		if deps, levels := impl.StrictDeps(p), impl.ReducedLevels(p); len(deps) != 0 || len(levels) != 0 {
			t.Errorf("the invalid program %d has the dependences %v and the levels %v", n, deps, levels)
		}
		for _, choices := range [][]int{nil, {0}, {-1, 5}} {
			if order := impl.ReducedOrder(p, choices); len(order) != 0 {
				t.Errorf("the invalid program %d has the order %v", n, order)
			}
		}
		for _, count := range []int{0, 1, 2, 3, 4, 5, 120, 121} {
			if impl.ReducedLegal(p, upTo(count)) || impl.ReducedLegal(p, reversed(upTo(count))) {
				t.Errorf("ReducedLegal accepts %d instances of the invalid program %d", count, n)
			}
		}
	}
}

// TestReduceMemory checks that results are in memory of their own, and do not depend on earlier calls.
func TestReduceMemory(t *testing.T) {
	for _, lines := range []string{"array A 2/array C 2/part/for 0 3/A[0]=(A[0]-{i})/C[0]=A[0]", "array A 1/part/for 0 3/A[0]=(A[0]+1)", "array A 4/part/for 0 3/A[i+1]=A[i]", ""} {
		p := programOf(t, lines)
		choices := []int{2, -1, 1, -9}[:3]
		lists := func() [][]int {
			return [][]int{impl.ReducedLevels(p), impl.ReducedOrder(p, choices), impl.ReducedOrder(p, nil)}
		}
		first := fmt.Sprint(lists(), impl.StrictDeps(p))
		checkOwnMemory(t, append(lists(), lists()...))
		deps, other := impl.StrictDeps(p), impl.StrictDeps(p)
		_ = append(deps, impl.Dep{From: 7}, impl.Dep{From: 8})
		clear(deps)
		if fmt.Sprint(lists(), other) != first || !impl.ProgramSame(p, programOf(t, lines)) || !slices.Equal(choices[:4], []int{2, -1, 1, -9}) {
			t.Errorf("the results are changed to %v, %v", lists(), other)
		}
	}
}

// TestReduceArguments checks that no function changes an argument or the memory behind it.
func TestReduceArguments(t *testing.T) {
	p := programOf(t, "array A 3/array B 2 2/part/for 0 2/for 0 2/A[i]=(A[i]-B[i,j])/A[1]=(A[1]+{i})/B[j,i]=A[i]")
	whole := addSpares(&p)
	kept := whole()
	order, choices := append(reversed(upTo(12)), -9), []int{1, -2, 30, -9}
	for _, s := range p.Parts[0].Body {
		impl.ReductionOf(s)
	}
	impl.ReductionGroup(p, 1)
	impl.StrictDeps(p)
	impl.ReducedLegal(p, order[:12])
	impl.ReducedLevels(p)
	impl.ReducedOrder(p, choices[:3])
	if whole() != kept || !slices.Equal(order, append(reversed(upTo(12)), -9)) || !slices.Equal(choices, []int{1, -2, 30, -9}) {
		t.Errorf("the arguments are changed to %s, %v and %v", whole(), order, choices)
	}
}
