package tests

import (
	"fmt"
	"math"
	"math/rand"
	"slices"
	"testing"

	"loop.example/loopnests/impl"
)

// reference executes a program directly from the definitions.
type reference struct {
	program   impl.Program
	instances []impl.Instance
	cells     map[string]int
}

func referenceOf(p impl.Program) reference {
	return reference{p, instancesOf(p), cellNumbers(p.Arrays)}
}

// cell returns the number of the element that an access denotes at a point.
func (x reference) cell(a impl.Access, point []int) int {
	var subs []int
	for _, sub := range a.Subs {
		subs = append(subs, valueAt(sub, point))
	}
	return x.cells[element(a.Array, subs)]
}

func (x reference) stmt(i impl.Instance) impl.Stmt {
	return x.program.Parts[i.Part].Body[i.Stmt]
}

func (x reference) write(i impl.Instance) int {
	return x.cell(x.stmt(i).Write, i.Point)
}

func (x reference) reads(i impl.Instance) []int {
	var cells []int
	for _, a := range impl.StmtReads(x.stmt(i)) {
		cells = append(cells, x.cell(a, i.Point))
	}
	return cells
}

// modulo returns the number between 0 and 999 that differs from n by a multiple of 1000.
func modulo(n int) int {
	return (n%1000 + 1000) % 1000
}

func (x reference) value(m []int, e impl.Expr, point []int) int {
	switch e.Kind {
	case impl.ExprNum:
		return e.Num
	case impl.ExprIndex:
		return modulo(valueAt(e.Index, point))
	case impl.ExprRead:
		return m[x.cell(e.Read, point)]
	}
	a, b := x.value(m, e.Kids[0], point), x.value(m, e.Kids[1], point)
	return modulo([]int{a + b, a - b, a * b}[e.Kind-impl.ExprAdd])
}

// run returns the memory after the instances with the given indices.
func (x reference) run(m []int, order []int) []int {
	m = slices.Clone(m)
	for _, n := range order {
		i := x.instances[n]
		m[x.write(i)] = x.value(m, x.stmt(i).Value, i.Point)
	}
	return m
}

// writtenCells returns the cells that are written, by trying all of them.
func (x reference) writtenCells() []int {
	var cells []int
	for cell := range len(x.cells) {
		if slices.ContainsFunc(x.instances, func(i impl.Instance) bool { return x.write(i) == cell }) {
			cells = append(cells, cell)
		}
	}
	return cells
}

// inputCells returns the cells for which no write is before the first instance that reads them, by trying all of them.
func (x reference) inputCells() []int {
	var cells []int
	for cell := range len(x.cells) {
		reader := slices.IndexFunc(x.instances, func(i impl.Instance) bool { return slices.Contains(x.reads(i), cell) })
		writer := slices.IndexFunc(x.instances, func(i impl.Instance) bool { return x.write(i) == cell })
		if reader >= 0 && (writer < 0 || writer >= reader) {
			cells = append(cells, cell)
		}
	}
	return cells
}

// upTo returns the numbers from 0 up to n, which are the order of ProgramInstances for n instances.
func upTo(n int) []int {
	var list []int
	for k := range n {
		list = append(list, k)
	}
	return list
}

// memoryBy returns a memory with a value for each cell.
func memoryBy(size int, value func(cell int) int) []int {
	var m []int
	for cell := range size {
		m = append(m, value(cell))
	}
	return m
}

// memoriesOf returns memories of a number of cells, with values at the limits and between them.
func memoriesOf(r *rand.Rand, size int) [][]int {
	return [][]int{
		memoryBy(size, func(int) int { return 0 }),
		memoryBy(size, func(int) int { return 999 }),
		memoryBy(size, func(cell int) int { return cell }),
		memoryBy(size, func(cell int) int { return 999 * (cell % 2) }),
		memoryBy(size, func(int) int { return r.Intn(1000) }),
	}
}

// checkExecution compares what the functions return for a program and one of its memories with the definitions.
func checkExecution(t *testing.T, r *rand.Rand, p impl.Program, m []int) {
	t.Helper()
	x := referenceOf(p)
	text, kept := impl.FormatProgram(p), slices.Clone(m)
	order := upTo(len(x.instances))
	want := x.run(m, order)
	if got, ok := impl.RunProgram(p, m); !ok || !slices.Equal(got, want) {
		t.Errorf("RunProgram(%q, %v) = %v, %v, not %v", text, m, got, ok, want)
	}
	// One after the other, in the order of ProgramInstances and in others.
	for _, order := range [][]int{order, reversed(order), r.Perm(len(order))} {
		want := x.run(m, order)
		if got, ok := impl.RunOrder(p, m, order); !ok || !slices.Equal(got, want) || !impl.OrderValid(p, order) {
			t.Errorf("RunOrder(%q, %v, %v) = %v, %v, not %v", text, m, order, got, ok, want)
		}
		if got := runEach(t, p, m, order); !slices.Equal(got, want) {
			t.Errorf("RunInstance of %v in %q leads from %v to %v, not %v", order, text, m, got, want)
		}
	}
	written := impl.WrittenCells(p)
	for cell := range want {
		if want[cell] != m[cell] && !slices.Contains(written, cell) {
			t.Errorf("%q changes the cell %d, which is not one of %v", text, cell, written)
		}
	}
	if !impl.MemoryValid(p, m) || !slices.Equal(m, kept) {
		t.Errorf("%v is not a memory of %q or has been changed from %v", m, text, kept)
	}
}

func reversed(list []int) []int {
	list = slices.Clone(list)
	slices.Reverse(list)
	return list
}

// runEach returns the memory after RunInstance of each instance in an order, and checks the steps.
func runEach(t *testing.T, p impl.Program, m []int, order []int) []int {
	t.Helper()
	instances := impl.ProgramInstances(p)
	for _, n := range order {
		x := instances[n]
		value, okValue := impl.InstanceValue(p, m, x)
		_, write, _ := impl.InstanceCells(p, x)
		want := slices.Clone(m)
		want[write] = value
		next, ok := impl.RunInstance(p, m, x)
		if !ok || !okValue || !slices.Equal(next, want) {
			t.Errorf("RunInstance(%q, %v, %v) = %v, %v, although its value is %d", impl.FormatProgram(p), m, x, next, ok, value)
			return nil
		}
		m = next
	}
	return m
}

// checkCells compares the cells that a program writes and reads with the definitions.
func checkCells(t *testing.T, p impl.Program) {
	t.Helper()
	x := referenceOf(p)
	if cells := impl.WrittenCells(p); !slices.Equal(cells, x.writtenCells()) {
		t.Errorf("WrittenCells(%q) = %v, not %v", impl.FormatProgram(p), cells, x.writtenCells())
	}
	if cells := impl.InputCells(p); !slices.Equal(cells, x.inputCells()) {
		t.Errorf("InputCells(%q) = %v, not %v", impl.FormatProgram(p), cells, x.inputCells())
	}
}

func TestExecution(t *testing.T) {
	r := rand.New(rand.NewSource(1))
	for _, lines := range validPrograms() {
		p := programOf(t, lines)
		checkCells(t, p)
		for _, m := range memoriesOf(r, impl.CountCells(p)) {
			checkExecution(t, r, p, m)
		}
	}
}

// randomLeaves replaces some of the numbers of a program by others, and some by the values of affine expressions.
func randomLeaves(r *rand.Rand, p *impl.Program) {
	for _, x := range p.Parts {
		for k := range x.Body {
			for _, e := range nodesOf(&x.Body[k].Value) {
				if e.Kind != impl.ExprNum {
					continue
				}
				*e = numExpr(r.Intn(100))
				if r.Intn(2) == 0 {
					a := randomAffine(r)
					clear(a.Coefs[len(x.Nest):])
					*e = indexExpr(a)
				}
			}
		}
	}
}

func TestRandomExecution(t *testing.T) {
	r := rand.New(rand.NewSource(7))
	count := 0
	for range 3000 {
		p := randomProgram(r)
		randomLeaves(r, &p)
		if !impl.ProgramValid(p) || len(p.Parts) == 0 {
			continue
		}
		count++
		checkCells(t, p)
		for _, m := range memoriesOf(r, impl.CountCells(p))[3:] {
			checkExecution(t, r, p, m)
		}
	}
	if count < 200 {
		t.Errorf("there are only %d programs", count)
	}
}

// nestAt returns the lines of a nest of three loops whose only point has n as its last coordinate.
func nestAt(n int) string {
	first, rest := n/90, n%90
	lo, hi := impl.FormatAffine(lin(rest, 9, 9, 0, 0)), impl.FormatAffine(lin(rest+1, 9, 9, 0, 0))
	return fmt.Sprintf("for %d %d/for 9*i 9*i+1/for %s %s", first, first+1, lo, hi)
}

// TestValues checks the value of an expression in the memory `9 999 500 3`, at the point 2, -7.
func TestValues(t *testing.T) {
	m := []int{9, 999, 500, 3}
	for text, want := range map[string]int{
		// Numbers and elements.
		"0": 0, "1": 1, "99": 99, "A[0]": 9, "A[1]": 999, "A[2]": 500, "A[i+1]": 3, "A[-j-5]": 500,
		// Affine expressions.
		"{0}": 0, "{1}": 1, "{-1}": 999, "{-99}": 901, "{99}": 99, "{i}": 2, "{j}": 993, "{-i}": 998, "{-j}": 7, "{9*i-9*j}": 81, "{9*j-99}": 838, "{i+j+5}": 0, "{i+j+4}": 999,
		// Sums.
		"(0+0)": 0, "(1+2)": 3, "(99+99)": 198, "(A[1]+0)": 999, "(A[1]+1)": 0, "(1+A[1])": 0, "(A[1]+2)": 1, "(A[1]+A[1])": 998, "(A[2]+A[2])": 0, "(A[2]+A[1])": 499, "({-1}+1)": 0, "({j}+{j})": 986,
		// Differences.
		"(0-0)": 0, "(2-1)": 1, "(1-2)": 999, "(0-99)": 901, "(A[1]-A[1])": 0, "(0-A[1])": 1, "(A[0]-A[1])": 10, "(A[1]-A[0])": 990, "(A[3]-5)": 998, "(A[0]-9)": 0, "(0-{-1})": 1, "({j}-{i})": 991,
		// Products.
		"(0*0)": 0, "(1*1)": 1, "(99*99)": 801, "(A[1]*0)": 0, "(A[1]*1)": 999, "(A[1]*2)": 998, "(A[1]*A[1])": 1, "(A[2]*2)": 0, "(A[2]*3)": 500, "(3*A[2])": 500, "({-1}*{-1})": 1, "({j}*3)": 979, "(A[3]*A[3])": 9,
		// The operands are the first one and the second one, at each level.
		"((9-4)-3)": 2, "(9-(4-3))": 8, "((1-2)*(3-5))": 2, "((A[1]*A[1])*(A[1]*A[1]))": 1, "((2+3)*(4+5))": 45, "(2+(3*(4+5)))": 29, "(((2-3)-4)-5)": 990, "(2-(3-(4-(5-6))))": 4,
		"((A[0]+{i})-(A[1]*{j}))": 4, "(A[3]*(A[0]-{-i}))": 33,
	} {
		// The value depends neither on the cell that is written nor on the other statements.
		p := programOf(t, "array A 4/part/for 2 3/for -7 -6/A[0]="+text+"/A[3]="+text+"/A[1]=7/A[1]="+text)
		for _, k := range []int{0, 1, 3} {
			x := impl.Instance{Stmt: k, Point: []int{2, -7}}
			if n, ok := impl.InstanceValue(p, m, x); !ok || n != want {
				t.Errorf("InstanceValue of %s is %d, %v, not %d", text, n, ok, want)
			}
		}
	}
	if !slices.Equal(m, []int{9, 999, 500, 3}) {
		t.Errorf("the memory is changed to %v", m)
	}
}

// TestIndexValues checks the values of affine expressions that are near multiples of MaxValue + 1, or are at the limits.
func TestIndexValues(t *testing.T) {
	for n, want := range map[int]int{
		-5000: 0, -1002: 998, -1001: 999, -1000: 0, -999: 1, -998: 2, -501: 499, -2: 998, -1: 999,
		0: 0, 1: 1, 2: 2, 500: 500, 998: 998, 999: 999, 1000: 0, 1001: 1, 1002: 2, 1999: 999, 2000: 0, 5005: 5,
	} {
		p := programOf(t, "array A 1/part/"+nestAt(n)+"/A[0]={k}")
		if x := impl.ProgramInstances(p); len(x) != 1 || x[0].Point[2] != n {
			t.Fatalf("the instances are %v", x)
		}
		checkMemory(t, p, []int{5}, []int{want})
	}
	for lines, want := range map[string]int{
		"for 98 99/for 9*i+98 9*i+99/A[0]={9*i+9*j+99}": 801, "for 98 99/for 9*i+98 9*i+99/A[0]={-9*i-9*j-99}": 199,
		farNest(9999, 10000) + "/A[0]={l}": 999, farNest(9999, 10000) + "/A[0]={l+1}": 0, farNest(9999, 10000) + "/A[0]={-l}": 1, farNest(9999, 10000) + "/A[0]={9*l+99}": 90,
		farNest(-9999, -9998) + "/A[0]={l}": 1, farNest(-9999, -9998) + "/A[0]={l-1}": 0, farNest(-9999, -9998) + "/A[0]={-l}": 999, farNest(-9999, -9998) + "/A[0]={9*l-99}": 910,
		farNest(9998, 10000) + "/A[0]=(A[0]+{l})": 2,
	} {
		checkMemory(t, programOf(t, "array A 1/part/"+lines), []int{5}, []int{want})
	}
}

// TestLargeProducts checks values that would be beyond the limits of integers if they were taken modulo MaxValue + 1 only at the end.
func TestLargeProducts(t *testing.T) {
	index := "{9*i+9*j+9*k+9*l+99}"
	pair := "(" + index + "*" + index + ")"
	value := "((" + pair + "*" + pair + ")*" + pair + ")"
	p := programOf(t, "array A 1/part/"+farNest(9999, 10000)+"/A[0]="+value)
	point := impl.ProgramInstances(p)[0].Point
	want := 1
	for range 6 {
		want = modulo(want * (9*(point[0]+point[1]+point[2]+point[3]) + 99))
	}
	checkMemory(t, p, []int{0}, []int{want})
	checkMemory(t, programOf(t, "array A 1/part/A[0]=((A[0]*A[0])*((A[0]*A[0])*(A[0]*A[0])))"), []int{997}, []int{729})
}

// checkMemory checks the memory to which a program leads.
func checkMemory(t *testing.T, p impl.Program, m []int, want []int) {
	t.Helper()
	if got, ok := impl.RunProgram(p, m); !ok || !slices.Equal(got, want) {
		t.Errorf("RunProgram(%q, %v) = %v, %v, not %v", impl.FormatProgram(p), m, got, ok, want)
	}
}

func TestRunProgram(t *testing.T) {
	for _, c := range []struct {
		lines   string
		m, want []int
	}{
		// Programs without instances or without cells.
		{"", nil, nil}, {"", []int{}, nil}, {"part/for 0 0/A[i]=1", nil, nil}, {"array A 3", []int{1, 0, 999}, []int{1, 0, 999}},
		{"array A 2/part/for 0 0/A[i]=1", []int{7, 8}, []int{7, 8}}, {"array A 1/part/for 0 0/A[1]=A[-1]/part/A[0]=1", []int{7}, []int{1}},
		// The example of the chapter.
		{"array A 2/part/A[0]=(A[1]-5)", []int{0, 3}, []int{998, 3}},
		// Instances that read the cell that they write.
		{"array A 1/part/A[0]=A[0]", []int{999}, []int{999}}, {"array A 1/part/A[0]=(A[0]+1)", []int{999}, []int{0}}, {"array A 2/part/A[0]=((A[0]*A[0])+A[1])", []int{30, 200}, []int{100, 200}},
		{"array A 1/part/for 0 4/A[0]=(A[0]*A[0])", []int{3}, []int{721}}, {"array A 1/part/for -60 60/A[0]=(A[0]-9)", []int{80}, []int{0}},
		// Cells that are read after they are written, and before.
		{"array A 3/part/A[0]=1/A[1]=A[0]/A[2]=A[1]", []int{5, 6, 7}, []int{1, 1, 1}}, {"array A 3/part/A[2]=A[1]/A[1]=A[0]/A[0]=1", []int{5, 6, 7}, []int{1, 5, 6}},
		{"array A 4/part/for 0 3/A[i+1]=A[i]", []int{1, 2, 3, 4}, []int{1, 1, 1, 1}}, {"array A 4/part/for 0 3/A[i]=A[i+1]", []int{1, 2, 3, 4}, []int{2, 3, 4, 4}},
		{"array A 2/array B 1/part/B[0]=A[0]/A[0]=A[1]/A[1]=B[0]", []int{5, 6, 7}, []int{6, 5, 5}},
		// Several parts and statements, of which the later ones overwrite values.
		{"array A 3/part/for 0 3/A[i]=1/part/A[1]=(A[0]+A[2])/part/for 1 3/A[i]=(A[i]+{i})", []int{5, 6, 7}, []int{1, 3, 3}},
		{"array A 2/part/for 0 2/A[i]=1/A[0]=(A[0]+A[1])", []int{10, 20}, []int{22, 1}},
		// Arrays with two dimensions.
		{"array B 2 3/array C 2/part/for 0 2/for 0 3/C[i]=(C[i]+B[i,j])", []int{1, 2, 3, 4, 5, 6, 0, 990}, []int{1, 2, 3, 4, 5, 6, 6, 5}},
		{"array B 2 2/part/for 0 2/for 0 2/B[i,j]=(B[j,i]+{2*i-j})", []int{1, 2, 3, 4}, []int{1, 2, 4, 5}},
	} {
		checkMemory(t, programOf(t, c.lines), c.m, c.want)
	}
	// The example of the last chapter, in which the cell i has the value i.
	p := programOf(t, "array B 4 5/array C 4/part/for 0 4/for 0 4/C[j]=(C[j]+B[j,i])")
	checkMemory(t, p, upTo(24), []int{0, 1, 2, 3, 4, 5, 6, 7, 8, 9, 10, 11, 12, 13, 14, 15, 16, 17, 18, 19, 26, 47, 68, 89})
}

func TestRunInstance(t *testing.T) {
	p := programOf(t, "array A 4/array C 2/part/for 0 3/A[i+1]=(A[i]+{2*i})/C[0]=(C[0]-A[i])/part/C[1]=C[1]/part/for 0 0/C[i]=1")
	m := []int{5, 6, 7, 8, 0, 999}
	for _, c := range []struct {
		x    impl.Instance
		cell int
		want int
	}{
		{impl.Instance{Part: 0, Stmt: 0, Point: []int{0}}, 1, 5}, {impl.Instance{Part: 0, Stmt: 0, Point: []int{1}}, 2, 8}, {impl.Instance{Part: 0, Stmt: 0, Point: []int{2}}, 3, 11},
		{impl.Instance{Part: 0, Stmt: 1, Point: []int{0}}, 4, 995}, {impl.Instance{Part: 0, Stmt: 1, Point: []int{2}}, 4, 993},
		{impl.Instance{Part: 1}, 5, 999}, {impl.Instance{Part: 1, Point: []int{}}, 5, 999},
	} {
		want := slices.Clone(m)
		want[c.cell] = c.want
		if got, ok := impl.RunInstance(p, m, c.x); !ok || !slices.Equal(got, want) {
			t.Errorf("RunInstance(%v) = %v, %v, not %v", c.x, got, ok, want)
		}
		if n, ok := impl.InstanceValue(p, m, c.x); !ok || n != c.want {
			t.Errorf("InstanceValue(%v) = %d, %v, not %d", c.x, n, ok, c.want)
		}
	}
}

func TestRunOrder(t *testing.T) {
	lines := "array A 4/part/for 0 3/A[i+1]=(A[i]+1)/part/A[0]=A[3]"
	for _, c := range []struct {
		lines          string
		m, order, want []int
	}{
		{lines, []int{1, 10, 20, 30}, []int{0, 1, 2, 3}, []int{4, 2, 3, 4}}, {lines, []int{1, 10, 20, 30}, []int{2, 1, 0, 3}, []int{21, 2, 11, 21}},
		{lines, []int{1, 10, 20, 30}, []int{3, 0, 1, 2}, []int{30, 31, 32, 33}}, {lines, []int{1, 10, 20, 30}, []int{3, 2, 1, 0}, []int{30, 31, 11, 21}},
		{lines, []int{1, 10, 20, 30}, []int{1, 3, 0, 2}, []int{30, 31, 11, 12}},
		{"array A 1/part/A[0]=1/A[0]=2/A[0]=3", []int{0}, []int{0, 1, 2}, []int{3}}, {"array A 1/part/A[0]=1/A[0]=2/A[0]=3", []int{0}, []int{2, 1, 0}, []int{1}},
		{"array A 1/part/A[0]=1/A[0]=2/A[0]=3", []int{0}, []int{2, 0, 1}, []int{2}}, {"array A 1/part/A[0]=(A[0]+1)/A[0]=(A[0]*2)", []int{10}, []int{1, 0}, []int{21}},
		{"", nil, nil, nil}, {"", []int{}, []int{}, nil}, {"array A 2", []int{7, 8}, nil, []int{7, 8}}, {"array A 2/part/for 0 0/A[i]=1", []int{7, 8}, []int{}, []int{7, 8}},
	} {
		if got, ok := impl.RunOrder(programOf(t, c.lines), c.m, c.order); !ok || !slices.Equal(got, c.want) {
			t.Errorf("RunOrder(%s, %v, %v) = %v, %v, not %v", c.lines, c.m, c.order, got, ok, c.want)
		}
	}
}

// badMemories are lists that are no memories of a number of cells.
func badMemories(size int) [][]int {
	list := [][]int{slices.Repeat([]int{0}, size+1), slices.Repeat([]int{999}, size+1), slices.Repeat([]int{1}, 2*size+5), slices.Repeat([]int{1}, 5000)}
	if size > 0 {
		list = append(list, nil, []int{}, slices.Repeat([]int{0}, size-1), slices.Repeat([]int{999}, size-1))
	}
	for cell := range size {
		for _, n := range []int{-1, 1000, -999, -1000, 1001, 100000, math.MaxInt, math.MinInt} {
			m := slices.Repeat([]int{999 * (cell % 2)}, size)
			m[cell] = n
			list = append(list, m)
		}
	}
	return list
}

// checkNoMemory checks what the functions return for a list that is no memory of a program.
func checkNoMemory(t *testing.T, what string, p impl.Program, m []int, x impl.Instance, order []int) {
	t.Helper()
	if impl.MemoryValid(p, m) {
		t.Errorf("MemoryValid accepts %s: %v", what, m)
	}
	if n, ok := impl.InstanceValue(p, m, x); ok || n != 0 {
		t.Errorf("InstanceValue of %v in %s = %d, %v", x, what, n, ok)
	}
	if got, ok := impl.RunInstance(p, m, x); ok || len(got) != 0 {
		t.Errorf("RunInstance of %v in %s = %v, %v", x, what, got, ok)
	}
	if got, ok := impl.RunProgram(p, m); ok || len(got) != 0 {
		t.Errorf("RunProgram in %s = %v, %v", what, got, ok)
	}
	if got, ok := impl.RunOrder(p, m, order); ok || len(got) != 0 {
		t.Errorf("RunOrder of %v in %s = %v, %v", order, what, got, ok)
	}
}

func TestMemoryValid(t *testing.T) {
	for _, lines := range []string{"", "part/for 0 0/A[i]=1", "array A 1", "array A 3/part/for 0 0/A[i]=1", "array A 1/part/A[0]=A[0]", "array A 3/part/A[0]=(A[1]-5)/A[2]=A[0]/part/for 0 2/A[i]=1", "array B 2 4/array D 6/part/B[1,2]=7"} {
		p := programOf(t, lines)
		size := impl.CountCells(p)
		instances := append(impl.ProgramInstances(p), impl.Instance{})
		for _, value := range []int{0, 1, 500, 998, 999} {
			if m := slices.Repeat([]int{value}, size); !impl.MemoryValid(p, m) || !impl.MemoryValid(p, append(m, -1)[:size]) {
				t.Errorf("MemoryValid(%s, %v) is false", lines, m)
			}
		}
		for _, m := range badMemories(size) {
			checkNoMemory(t, fmt.Sprintf("the memory %.60s of %s", fmt.Sprint(m), lines), p, m, instances[0], upTo(len(instances)-1))
		}
	}
	if p := programOf(t, ""); !impl.MemoryValid(p, nil) || !impl.MemoryValid(p, []int{}) {
		t.Error("MemoryValid refuses the memory without cells")
	}
}

// TestExecutionOfInvalidPrograms checks that nothing is executed, whatever the memory and the order are.
func TestExecutionOfInvalidPrograms(t *testing.T) {
	for n, p := range brokenPrograms(t) {
		what := fmt.Sprint("the invalid program ", n)
		for _, size := range []int{0, 1, 3, 11} {
			for _, x := range []impl.Instance{{}, {Point: []int{0}}} {
				checkNoMemory(t, what, p, slices.Repeat([]int{1}, size), x, upTo(5*len(x.Point)))
			}
		}
		for _, count := range []int{0, 1, 2, 3, 4, 5, 120, 121} {
			if impl.OrderValid(p, upTo(count)) {
				t.Errorf("OrderValid accepts %d instances of %s", count, what)
			}
		}
		if written, input := impl.WrittenCells(p), impl.InputCells(p); len(written) != 0 || len(input) != 0 {
			t.Errorf("WrittenCells of %s is %v, and InputCells is %v", what, written, input)
		}
	}
}

// TestExecutionRefusesInstances checks instances whose parts, statements or points are not those of the program.
func TestExecutionRefusesInstances(t *testing.T) {
	p := programOf(t, refusingProgram)
	m := []int{1, 2, 3}
	real := impl.ProgramInstances(p)
	var counts tally
	for x := range instancesNear() {
		in := slices.ContainsFunc(real, func(y impl.Instance) bool { return sameInstance(x, y) })
		value, okValue := impl.InstanceValue(p, m, x)
		got, ok := impl.RunInstance(p, m, x)
		if okValue != in || ok != in || !in && (value != 0 || len(got) != 0) {
			t.Errorf("InstanceValue(%v) = %d, %v, and RunInstance is %v, %v", x, value, okValue, got, ok)
		}
		counts.add(ok)
	}
	counts.check(t, len(real))
	for _, lines := range []string{"", "array A 3", "array A 3/part/for 0 0/A[i]=1"} {
		p := programOf(t, lines)
		m := make([]int, impl.CountCells(p))
		for _, x := range []impl.Instance{{}, {Point: []int{0}}, {Part: -1}} {
			if n, ok := impl.InstanceValue(p, m, x); ok || n != 0 {
				t.Errorf("InstanceValue(%s, %v) = %d, %v", lines, x, n, ok)
			}
			if got, ok := impl.RunInstance(p, m, x); ok || len(got) != 0 {
				t.Errorf("RunInstance(%s, %v) = %v, %v", lines, x, got, ok)
			}
		}
	}
}

// isOrder reports whether a list becomes the numbers from 0 up to count when it is sorted.
func isOrder(list []int, count int) bool {
	return slices.Equal(slices.Sorted(slices.Values(list)), upTo(count))
}

// badOrders are lists that are no orders of four instances.
func badOrders() [][]int {
	return [][]int{
		nil, {}, {0}, {0, 1, 2}, {3, 2, 1}, {0, 1, 2, 3, 4}, {0, 1, 2, 3, 3}, {0, 0, 1, 2, 3}, {0, 1, 2, 3, -1}, {0, 1, 2, 3, 0, 1, 2, 3},
		{0, 1, 2, 2}, {0, 0, 2, 3}, {0, 0, 0, 0}, {3, 3, 3, 3}, {0, 1, 2, 4}, {1, 2, 3, 4}, {4, 1, 2, 3}, {-1, 1, 2, 3}, {0, 1, 2, -1}, {0, -1, 2, 3}, {0, 1, 2, -3}, {-1, -2, -3, -4},
		{0, 1, 2, math.MaxInt}, {math.MinInt, 1, 2, 3}, {0, 1, 2, 1 << 32}, {0, 1, 2, 1<<32 + 3}, {0, 1, 2, 120}, slices.Repeat([]int{0, 1, 2, 3}, 5000),
	}
}

func TestOrderValid(t *testing.T) {
	p := programOf(t, "array A 2/part/for 0 2/A[i]=1/A[0]=(A[0]+A[1])")
	m := []int{1, 2}
	for _, order := range badOrders() {
		if impl.OrderValid(p, order) {
			t.Errorf("OrderValid accepts %v", order)
		}
		if got, ok := impl.RunOrder(p, m, order); ok || len(got) != 0 {
			t.Errorf("RunOrder(%v) = %v, %v", order, got, ok)
		}
	}
	var counts tally
	for count := range 4 {
		p := programOf(t, []string{"array A 2", "array A 2/part/A[0]=1", "array A 2/part/for 0 2/A[i]=1", "array A 2/part/A[0]=1/A[1]=2/A[0]=3"}[count])
		for length := range 5 {
			for _, order := range boxPoints(length, 3) {
				valid := impl.OrderValid(p, order)
				got, ok := impl.RunOrder(p, m, order)
				if valid != isOrder(order, count) || ok != valid || !ok && len(got) != 0 {
					t.Errorf("OrderValid for %d instances and %v is %v, and RunOrder is %v, %v", count, order, valid, got, ok)
				}
				counts.add(ok)
			}
		}
	}
	counts.check(t, 1+1+2+6)
	// The greatest number of instances.
	p = programOf(t, "array A 1/part/for 0 30/A[0]=1/A[0]=2/A[0]=3/A[0]=4")
	order := upTo(120)
	if !impl.OrderValid(p, order) || !impl.OrderValid(p, reversed(order)) || impl.OrderValid(p, order[:119]) || impl.OrderValid(p, upTo(121)) {
		t.Error("OrderValid is wrong for 120 instances")
	}
}

func TestWrittenAndInputCells(t *testing.T) {
	for _, c := range []struct {
		lines          string
		written, input []int
	}{
		{"", nil, nil}, {"array A 3", nil, nil}, {"part/for 0 0/A[i]=B[i]", nil, nil}, {"array A 3/part/for 0 0/A[i]=A[i]", nil, nil},
		{"array A 3/part/A[1]=5", []int{1}, nil}, {"array A 3/part/A[1]=A[2]", []int{1}, []int{2}},
		// Cells that are read before they are written, after that, and by the same instance.
		{"array A 3/part/A[1]=A[2]/A[2]=5", []int{1, 2}, []int{2}}, {"array A 3/part/A[2]=5/A[1]=A[2]", []int{1, 2}, nil}, {"array A 3/part/A[1]=A[1]", []int{1}, []int{1}},
		{"array A 3/part/A[1]=(A[0]+(A[1]*A[1]))/A[0]=(A[1]-A[0])", []int{0, 1}, []int{0, 1}}, {"array A 3/part/A[2]=5/A[2]=A[2]/A[2]=A[2]", []int{2}, nil},
		{"array A 3/part/A[2]=A[2]/A[2]=5/A[1]=A[2]", []int{1, 2}, []int{2}}, {"array A 3/part/A[0]=(1-A[2])/part/A[2]=1/part/A[0]=A[2]", []int{0, 2}, []int{2}},
		// Other instances of a statement, and other parts.
		{"array A 4/part/for 0 3/A[i+1]=A[i]", []int{1, 2, 3}, []int{0}}, {"array A 4/part/for 0 3/A[i]=A[i+1]", []int{0, 1, 2}, []int{1, 2, 3}},
		{"array A 4/part/for 0 3/A[-i+3]=A[-i+2]", []int{1, 2, 3}, []int{0, 1, 2}}, {"array A 4/part/for 0 2/A[i]=1/part/for 0 4/A[3]=(A[3]+A[i])", []int{0, 1, 3}, []int{2, 3}},
		{"array A 4/part/for 0 4/A[3]=(A[3]+A[i])/part/for 0 2/A[i]=1", []int{0, 1, 3}, []int{0, 1, 2, 3}},
		// The cells are in ascending order, although they are accessed in another one and repeatedly.
		{"array A 6/part/for 0 5/A[-i+5]=A[-i+4]", []int{1, 2, 3, 4, 5}, []int{0, 1, 2, 3, 4}}, {"array A 4/part/for 0 3/A[0]=(A[3]+(A[1]+A[3]))", []int{0}, []int{1, 3}},
		{"array A 2/array B 2 2/part/for 0 2/for 0 2/B[j,-i+1]=A[-j+1]/A[0]=B[1,1]", []int{0, 2, 3, 4, 5}, []int{1, 5}},
	} {
		p := programOf(t, c.lines)
		if cells := impl.WrittenCells(p); !slices.Equal(cells, c.written) {
			t.Errorf("WrittenCells(%s) = %v, not %v", c.lines, cells, c.written)
		}
		if cells := impl.InputCells(p); !slices.Equal(cells, c.input) {
			t.Errorf("InputCells(%s) = %v, not %v", c.lines, cells, c.input)
		}
		checkCells(t, p)
	}
}

// TestInputCellsDecide changes cells that are no input, which must not matter for the cells that are written.
func TestInputCellsDecide(t *testing.T) {
	r := rand.New(rand.NewSource(3))
	for _, lines := range validPrograms() {
		p := programOf(t, lines)
		size := impl.CountCells(p)
		input, written := impl.InputCells(p), impl.WrittenCells(p)
		for range 5 {
			m := memoryBy(size, func(int) int { return r.Intn(1000) })
			other := memoryBy(size, func(cell int) int {
				if slices.Contains(input, cell) {
					return m[cell]
				}
				return r.Intn(1000)
			})
			x, _ := impl.RunProgram(p, m)
			y, _ := impl.RunProgram(p, other)
			for _, cell := range written {
				if x[cell] != y[cell] {
					t.Errorf("the cell %d of %s depends on others than %v", cell, lines, input)
				}
			}
		}
	}
}

// executionLists calls each function that returns a list of values or cells.
func executionLists(p impl.Program, m []int, order []int) [][]int {
	x, _ := impl.RunInstance(p, m, impl.Instance{Point: []int{0, 0}})
	y, _ := impl.RunProgram(p, m)
	z, _ := impl.RunOrder(p, m, order)
	return [][]int{x, y, z, impl.WrittenCells(p), impl.InputCells(p)}
}

// TestExecutionMemory checks that results are in memory of their own.
func TestExecutionMemory(t *testing.T) {
	for _, lines := range []string{"array A 3/array B 2 4/part/for 0 2/for 0 2/A[i]=(A[j]+B[i,j])/A[j]=({i}-1)", "array A 3", "array A 3/part/for 0 0/A[i]=1"} {
		p := programOf(t, lines)
		size := impl.CountCells(p)
		// There is memory behind the values and the order.
		m := append(upTo(size), -7, -8)[:size]
		order := append(upTo(len(impl.ProgramInstances(p))), -9)[:len(impl.ProgramInstances(p))]
		checkOwnMemory(t, append(executionLists(p, m, order), executionLists(p, m, order)...))
		if !slices.Equal(m[:size+2], append(upTo(size), -7, -8)) || !slices.Equal(order[:len(order)+1], append(upTo(len(order)), -9)) {
			t.Errorf("the memory is changed to %v, and the order to %v", m[:size+2], order[:len(order)+1])
		}
		if !impl.ProgramSame(p, programOf(t, lines)) {
			t.Errorf("the program is changed to %v", p)
		}
	}
}

// TestExecutionArguments checks that no function changes an argument or the memory behind it.
func TestExecutionArguments(t *testing.T) {
	p := programOf(t, "array A 3/part/for 0 3/A[-i+2]=(A[i]-A[0])/A[1]={i}")
	p.Parts = append(p.Parts, impl.Part{Nest: []impl.Loop{{}}})[:1]
	p.Parts[0].Body = append(p.Parts[0].Body, assign(numExpr(9)))[:2]
	kept := copyProgram(p)
	m, order, point := []int{5, 6, 7, -8}, []int{3, 5, 4, 1, 0, 2, -9}, []int{1, 9}
	x := impl.Instance{Stmt: 1, Point: point[:1]}
	impl.MemoryValid(p, m[:3])
	impl.InstanceValue(p, m[:3], x)
	impl.RunInstance(p, m[:3], x)
	impl.RunProgram(p, m[:3])
	impl.OrderValid(p, order[:6])
	impl.RunOrder(p, m[:3], order[:6])
	impl.WrittenCells(p)
	impl.InputCells(p)
	if !slices.Equal(m, []int{5, 6, 7, -8}) || !slices.Equal(order, []int{3, 5, 4, 1, 0, 2, -9}) || !slices.Equal(point, []int{1, 9}) || x.Part != 0 || x.Stmt != 1 {
		t.Errorf("arguments are changed to %v, %v and %v", m, order, x)
	}
	if fmt.Sprint(p) != fmt.Sprint(kept) || len(p.Parts[:2][1].Nest) != 1 || p.Parts[0].Body[:3][2].Value.Num != 9 {
		t.Errorf("the program is changed to %v", p)
	}
}
