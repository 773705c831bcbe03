package tests

import (
	"fmt"
	"math"
	"math/rand"
	"slices"
	"testing"

	"loop.example/loopnests/impl"
)

// nestedLoop is a loop of a part, with the instances of the program.
type nestedLoop struct {
	instances  []impl.Instance
	part, loop int
}

// own returns the indices of the instances of the part.
func (x nestedLoop) own() []int {
	return slices.DeleteFunc(upTo(len(x.instances)), func(n int) bool { return x.instances[n].Part != x.part })
}

// outer returns the values of the variables outside of the loop, and the one of the loop, for an instance.
func (x nestedLoop) outer(n int) ([]int, int) {
	point := x.instances[n].Point
	return point[:x.loop], point[x.loop]
}

// outers returns the values that the variables outside of the loop have, in order.
func (x nestedLoop) outers() [][]int {
	var list [][]int
	for _, n := range x.own() {
		outer, _ := x.outer(n)
		if !slices.ContainsFunc(list, func(other []int) bool { return slices.Equal(other, outer) }) {
			list = append(list, outer)
		}
	}
	return list
}

// iterations returns the instances of each iteration for given values of the outer variables, in ascending order of the variable.
func (x nestedLoop) iterations(outer []int) [][]int {
	lists := map[int][]int{}
	var values []int
	for _, n := range x.own() {
		if y, value := x.outer(n); slices.Equal(y, outer) {
			lists[value] = append(lists[value], n)
			values = append(values, value)
		}
	}
	slices.Sort(values)
	var list [][]int
	for _, value := range slices.Compact(values) {
		list = append(list, lists[value])
	}
	return list
}

// around puts the other instances of the program around those of the part.
func (x nestedLoop) around(own []int) []int {
	var before, after []int
	for n, i := range x.instances {
		if i.Part < x.part {
			before = append(before, n)
		}
		if i.Part > x.part {
			after = append(after, n)
		}
	}
	return slices.Concat(before, own, after)
}

// chosen returns the order that choices build; only positive ones choose another iteration than the first one.
func (x nestedLoop) chosen(choices []int) []int {
	var own []int
	step := 0
	for _, outer := range x.outers() {
		for rest := x.iterations(outer); len(rest) > 0; step++ {
			number := 0
			if len(choices) > 0 {
				number = max(0, choices[step%len(choices)]) % len(rest)
			}
			own = append(own, rest[number]...)
			rest = append(rest[:number:number], rest[number+1:]...)
		}
	}
	return x.around(own)
}

// turns returns the order of instances by the outer variables, by their numbers in their iterations, and by the variable of the loop.
func (x nestedLoop) turns() []int {
	own := x.own()
	slices.SortFunc(own, func(a int, b int) int { return slices.Compare(x.turn(a), x.turn(b)) })
	return x.around(own)
}

// turn returns the numbers by which turns orders the instances.
func (x nestedLoop) turn(n int) []int {
	outer, value := x.outer(n)
	for _, list := range x.iterations(outer) {
		if number := slices.Index(list, n); number >= 0 {
			return slices.Concat(outer, []int{number, value})
		}
	}
	panic("there is no iteration with the instance")
}

// backwards returns the choices that execute the iterations in descending order of the variable.
func (x nestedLoop) backwards() []int {
	var choices []int
	for _, outer := range x.outers() {
		choices = append(choices, reversed(upTo(len(x.iterations(outer))))...)
	}
	return choices
}

// parallel reports whether no instance depends on one of another iteration for the same values of the outer variables.
func (x nestedLoop) parallel(deps []impl.Dep) bool {
	for _, d := range deps {
		if x.instances[d.From].Part != x.part || x.instances[d.To].Part != x.part {
			continue
		}
		from, a := x.outer(d.From)
		to, b := x.outer(d.To)
		if slices.Equal(from, to) && a != b {
			return false
		}
	}
	return true
}

// parallelSeen counts loops, so that the tests show that they do not lack any.
type parallelSeen struct {
	parallel, carrying, uneven, several, wavy int
}

func (s *parallelSeen) add(x nestedLoop, parallel bool) {
	if !slices.IsSorted(x.chosen(x.backwards())) {
		if parallel {
			s.parallel++
		} else {
			s.carrying++
		}
	}
	if !slices.IsSorted(x.turns()) {
		s.wavy++
	}
	if len(x.outers()) > 1 {
		s.several++
	}
	for _, outer := range x.outers() {
		if list := x.iterations(outer); len(list[0]) != len(list[len(list)-1]) {
			s.uneven++
		}
	}
}

// checkParallel compares what the functions return for all loops of a program with the definitions.
func checkParallel(t *testing.T, r *rand.Rand, p impl.Program, s *parallelSeen) {
	t.Helper()
	y := accessesOf(p)
	deps := y.deps()
	memories := memoriesOf(r, impl.CountCells(p))[3:]
	for part := -1; part <= len(p.Parts); part++ {
		var carried, free []int
		for loop := range loopsOf(p, part) {
			x := nestedLoop{y.instances, part, loop}
			parallel := x.parallel(deps)
			if parallel {
				free = append(free, loop)
			} else {
				carried = append(carried, loop)
			}
			checkLoop(t, r, p, x, parallel, memories)
			s.add(x, parallel)
		}
		if a, b := impl.CarriedLevels(p, part), impl.ParallelLoops(p, part); !slices.Equal(a, carried) || !slices.Equal(b, free) {
			t.Errorf("CarriedLevels(%q, %d) = %v, not %v, and ParallelLoops = %v, not %v", impl.FormatProgram(p), part, a, carried, b, free)
		}
		for _, loop := range []int{-1, loopsOf(p, part), 4, 5, math.MinInt, math.MaxInt} {
			checkNoLoop(t, fmt.Sprintf("%q", impl.FormatProgram(p)), p, part, loop)
		}
	}
}

// loopsOf returns the number of loops of a part, which need not exist.
func loopsOf(p impl.Program, part int) int {
	if part < 0 || part >= len(p.Parts) {
		return 0
	}
	return len(p.Parts[part].Nest)
}

// checkLoop compares what the functions return for a loop of a program with the definitions.
func checkLoop(t *testing.T, r *rand.Rand, p impl.Program, x nestedLoop, parallel bool, memories [][]int) {
	t.Helper()
	text := impl.FormatProgram(p)
	if impl.LoopParallel(p, x.part, x.loop) != parallel {
		t.Errorf("LoopParallel(%q, %d, %d) is %v", text, x.part, x.loop, !parallel)
	}
	for _, choices := range [][]int{nil, {}, {0}, {1}, {-1}, {2, 0}, {math.MaxInt}, {math.MinInt}, x.backwards(), randomChoices(r), randomChoices(r)} {
		order, ok := impl.ParallelOrder(p, x.part, x.loop, choices)
		if want := x.chosen(choices); !ok || !slices.Equal(order, want) {
			t.Errorf("ParallelOrder(%q, %d, %d, %v) = %v, %v, not %v", text, x.part, x.loop, choices, order, ok, want)
		}
		if parallel {
			checkLegal(t, p, order, memories)
		}
	}
	order, ok := impl.WaveOrder(p, x.part, x.loop)
	if want := x.turns(); !ok || !slices.Equal(order, want) {
		t.Errorf("WaveOrder(%q, %d, %d) = %v, %v, not %v", text, x.part, x.loop, order, ok, want)
	}
	if parallel {
		checkLegal(t, p, order, memories)
	}
	// The iterations are all exchanged, so that each dependence that the loop carries is broken.
	if order, _ := impl.ParallelOrder(p, x.part, x.loop, x.backwards()); impl.OrderLegal(p, order) != parallel {
		t.Errorf("OrderLegal(%q, %v) is %v", text, order, !parallel)
	}
}

// checkLegal checks that an order is legal, and leads to the memory of the program.
func checkLegal(t *testing.T, p impl.Program, order []int, memories [][]int) {
	t.Helper()
	if !impl.OrderLegal(p, order) {
		t.Errorf("the order %v of %q is not legal", order, impl.FormatProgram(p))
	}
	checkSameMemory(t, p, memories, order)
}

// checkNoLoop checks what the functions return if there is no such loop or the program is not valid.
func checkNoLoop(t *testing.T, what string, p impl.Program, part int, loop int) {
	t.Helper()
	if impl.LoopParallel(p, part, loop) {
		t.Errorf("LoopParallel(%s, %d, %d) is true", what, part, loop)
	}
	for _, choices := range [][]int{nil, {1, -1}} {
		if order, ok := impl.ParallelOrder(p, part, loop, choices); ok || len(order) != 0 {
			t.Errorf("ParallelOrder(%s, %d, %d, %v) = %v, %v", what, part, loop, choices, order, ok)
		}
	}
	if order, ok := impl.WaveOrder(p, part, loop); ok || len(order) != 0 {
		t.Errorf("WaveOrder(%s, %d, %d) = %v, %v", what, part, loop, order, ok)
	}
}

// checkNoPart checks what the functions return if there is no such part or the program is not valid.
func checkNoPart(t *testing.T, what string, p impl.Program, part int, loops ...int) {
	t.Helper()
	if a, b := impl.CarriedLevels(p, part), impl.ParallelLoops(p, part); len(a) != 0 || len(b) != 0 {
		t.Errorf("CarriedLevels(%s, %d) = %v, and ParallelLoops = %v", what, part, a, b)
	}
	for _, loop := range loops {
		checkNoLoop(t, what, p, part, loop)
	}
}

func TestParallelLoopsOfPrograms(t *testing.T) {
	r := rand.New(rand.NewSource(15))
	for _, lines := range validPrograms() {
		checkParallel(t, r, programOf(t, lines), &parallelSeen{})
	}
}

// spreadProgram returns a program whose statements mostly write another element in each iteration of some loops; it need not be valid.
func spreadProgram(r *rand.Rand) impl.Program {
	p := nestedProgram(r)
	for _, x := range p.Parts {
		for k := range x.Body {
			a := access("B", variable(r.Intn(len(x.Nest))), variable(r.Intn(len(x.Nest))))
			x.Body[k] = impl.Stmt{Write: a, Value: nodeExpr(impl.ExprSub, x.Body[k].Value, indexExpr(a.Subs[0]))}
			if r.Intn(2) == 0 {
				x.Body[k].Value = nodeExpr(impl.ExprAdd, numExpr(k), readExpr("B", copyAccess(a).Subs...))
			}
		}
	}
	return p
}

func TestRandomParallelLoops(t *testing.T) {
	r := rand.New(rand.NewSource(16))
	var s parallelSeen
	count := 0
	for n := range 1500 {
		p := spreadProgram(r)
		switch n % 6 {
		case 0:
			p = denseProgram(r)
		case 1:
			p = nestedProgram(r)
		case 2:
			p = randomProgram(r)
			randomLeaves(r, &p)
		}
		if !impl.ProgramValid(p) || len(p.Parts) == 0 || len(impl.ProgramInstances(p)) > 30 {
			continue
		}
		count++
		checkParallel(t, r, p, &s)
	}
	if count < 300 || min(s.parallel, s.carrying, s.several, s.wavy) < 100 || s.uneven < 50 {
		t.Errorf("%d programs have the loops %v", count, s)
	}
}

// TestCarriedCases checks which loops carry distances, and which are parallel.
func TestCarriedCases(t *testing.T) {
	r := rand.New(rand.NewSource(17))
	for _, c := range []struct {
		lines         string
		part          int
		carried, free string
	}{
		// The example of the chapter, and the other loop.
		{"array B 4 5/part/for 0 3/for 0 4/B[i,j+1]=B[i,j]", 0, "[1]", "[0]"}, {"array B 4 5/part/for 0 3/for 0 4/B[i+1,j]=B[i,j]", 0, "[0]", "[1]"},
		// Parts without loops and parts without instances.
		{"array A 3/part/A[0]=1", 0, "[]", "[]"}, {"array A 3/part/A[0]=1/A[0]=(A[0]+A[1])", 0, "[]", "[]"}, {"array A 3/part/for 0 0/A[0]=A[0]", 0, "[]", "[0]"},
		{"array A 3/part/for 0 3/for 1 0/A[0]=A[1]", 0, "[]", "[0 1]"}, {"part/for 0 0/for 0 9/for 0 9/for i k/A[i]=A[1]", 0, "[]", "[0 1 2 3]"},
		// Distances of zeros, alone and beside others.
		{"array A 3/part/for 0 3/A[i]=1/A[i]=(A[i]+A[i])", 0, "[]", "[0]"}, {"array A 3/part/for 0 2/A[i]=1/A[i]=A[i+1]", 0, "[0]", "[]"}, {"array B 2 2/part/for 0 2/for 0 2/B[i,j]=1/B[i,j]=2", 0, "[]", "[0 1]"},
		{"array B 3 3/part/for 0 3/for 0 2/B[i,j]=1/B[i,j+1]=B[i,j]", 0, "[1]", "[0]"},
		// Each kind of dependences alone, and instances that only read the same cell.
		{"array A 4/part/for 0 3/A[i+1]=A[i]", 0, "[0]", "[]"}, {"array A 4/part/for 0 3/A[i]=A[i+1]", 0, "[0]", "[]"}, {"array A 1/part/for 0 3/A[0]={i}", 0, "[0]", "[]"},
		{"array A 3/array B 1/part/for 0 3/A[i]=B[0]", 0, "[]", "[0]"}, {"array A 4/part/for 0 3/A[i]=A[3]", 0, "[]", "[0]"},
		// A single pair of instances that depend on each other.
		{"array A 6/part/for 0 6/A[i]=A[3]", 0, "[0]", "[]"}, {"array A 6/part/for 0 2/A[5*i]=A[3*i+2]", 0, "[]", "[0]"}, {"array A 6/part/for 0 2/A[4*i+1]=A[4*i]/A[0]=1", 0, "[0]", "[]"},
		// Both loops, and one of them with a negative number behind it.
		{"array B 3 3/part/for 0 2/for 0 2/B[i+1,j+1]=(B[i,j+1]+B[i+1,j])", 0, "[0 1]", "[]"}, {"array B 3 3/part/for 0 2/for 0 2/B[i+1,j]=B[i,j+1]", 0, "[0]", "[1]"},
		{"array A 1/part/for 0 2/for 0 2/A[0]=1", 0, "[0 1]", "[]"}, {"array A 2/part/for 0 2/for 0 3/A[i]=(A[i]+{j})", 0, "[1]", "[0]"}, {"array A 3/part/for 0 2/for 0 3/A[j]=(A[j]+{i})", 0, "[0]", "[1]"},
		// Distances that have a number in front that is 0 for all of them but one.
		{"array A 4/part/for 0 2/for 0 2/A[i+j]=1", 0, "[0]", "[1]"}, {"array B 2 3/part/for 0 2/for 0 3/B[i,j]=B[1,0]", 0, "[0 1]", "[]"},
		// Loops with one iteration carry nothing, and those with iterations that have no instances can.
		{"array A 1/part/for 0 1/for 0 3/A[0]=1", 0, "[1]", "[0]"}, {"array A 1/part/for 0 3/for 0 1/A[0]=1", 0, "[0]", "[1]"}, {"array A 1/part/for 0 3/for 1 i/A[0]=1", 0, "[]", "[0 1]"},
		{"array A 1/part/for 0 3/for 0 i/A[0]=1", 0, "[0 1]", "[]"}, {"array A 1/part/for 0 3/for 0 2/for -i+2*j,i-2*j 1/A[0]=1", 0, "[0]", "[1 2]"},
		// Three and four loops.
		{"array B 3 3/part/for 0 2/for 0 2/for 0 2/B[i,k]=(B[i,k]+{j})", 0, "[1]", "[0 2]"}, {"array B 3 3/part/for 0 2/for 0 2/for 0 2/B[i,j]=(B[i,j]+{k})", 0, "[2]", "[0 1]"},
		{"array A 3/part/for 0 2/for 0 2/for 0 2/A[j]={i+k}", 0, "[0 2]", "[1]"}, {"array B 2 2/part/for 0 2/for 0 2/for 0 2/for 0 2/B[j,l]={i}", 0, "[0 2]", "[1 3]"},
		{"array A 2/part/for 0 1/for 0 1/for 0 1/for 0 2/A[l]=A[0]", 0, "[3]", "[0 1 2]"},
		// Several statements of which each alone has no dependences.
		{"array A 4/array B 4/part/for 0 3/A[i]=B[i]/B[i+1]=1", 0, "[0]", "[]"}, {"array A 4/array B 4/part/for 0 3/A[i]=B[i]/B[i]=1", 0, "[]", "[0]"},
		// Only the dependences between instances of the part count.
		{"array A 2/part/for 0 2/A[i]=1/part/for 0 2/A[-i+1]=3", 0, "[]", "[0]"}, {"array A 2/part/for 0 2/A[i]=1/part/for 0 2/A[-i+1]=3", 1, "[]", "[0]"},
		{"array A 2/part/for 0 2/A[0]=1/part/for 0 2/A[i]=3", 0, "[0]", "[]"}, {"array A 2/part/for 0 2/A[0]=1/part/for 0 2/A[i]=3", 1, "[]", "[0]"}, {"array A 2/part/for 0 2/for 0 2/A[i]=1/part/A[0]=A[1]", 1, "[]", "[]"},
		{"array A 2/part/for 0 2/A[i]=1/part/for 0 2/for 0 1/A[0]=3/part/for 0 2/A[i]=A[i]", 1, "[0]", "[1]"}, {"array A 2/part/for 0 2/A[i]=1/part/for 0 2/for 0 1/A[0]=3/part/for 0 2/A[i]=A[i]", 2, "[]", "[0]"},
		// The greatest numbers of points, and of coordinates.
		{"array A 1/part/for -60 60/A[0]={i}", 0, "[0]", "[]"}, {"array A 5 6/part/for 0 4/for 0 5/for 0 6/A[j,k]=(A[j,k]+1)", 0, "[0]", "[1 2]"}, {"array A 2/part/" + farNest(9998, 10000) + "/A[-2*i-k+l-3]=A[0]", 0, "[3]", "[0 1 2]"},
	} {
		p := programOf(t, c.lines)
		if a, b := fmt.Sprint(impl.CarriedLevels(p, c.part)), fmt.Sprint(impl.ParallelLoops(p, c.part)); a != c.carried || b != c.free {
			t.Errorf("CarriedLevels(%s, %d) = %s, not %s, and ParallelLoops = %s, not %s", c.lines, c.part, a, c.carried, b, c.free)
		}
		checkParallel(t, r, p, &parallelSeen{})
	}
}

// Lines of programs whose loops have iterations of equal and of different lengths, some without instances, with several statements and within other parts.
const (
	row      = "array A 4/part/for 0 4/A[i]={i}"
	grid     = "array B 2 3/part/for 0 2/for 0 3/B[i,j]=1"
	corner   = "array B 3 3/part/for 0 3/for i 3/B[i,j]=1"
	below    = "array B 3 3/part/for 0 3/for 0 i/B[i,j]=1"
	gap      = "array B 3 3/part/for 0 3/for 0 2/for -i+2*j,i-2*j 1/B[i,j]=1"
	couple   = "array A 3/array B 3/part/for 0 3/A[i]=1/B[i]=A[i]"
	cuboid   = "array B 6 6/part/for 0 2/for 0 2/for 0 2/B[2*i+j,k]=1"
	between  = "array A 3/part/A[0]=1/A[1]=2/part/for 0 3/A[i]={i}/part/for 0 2/A[i]=5"
	vacant   = "array A 2/part/A[0]=1/part/for 0 0/for 0 3/A[i]=1/part/A[1]=2"
	negative = "array A 3/part/for -2 1/A[-i]=1"
)

// parallelCase has the lines of a program, a part, a loop, and the order.
type parallelCase struct {
	lines      string
	part, loop int
	choices    []int
	want       string
}

func TestParallelOrderCases(t *testing.T) {
	for _, c := range []parallelCase{
		// The example of the chapter.
		{"array B 4 5/part/for 0 3/for 0 4/B[i,j+1]=B[i,j]", 0, 0, []int{2, 1, 0}, "[8 9 10 11 4 5 6 7 0 1 2 3]"}, {"array B 4 5/part/for 0 3/for 0 4/B[i,j+1]=B[i,j]", 0, 1, []int{1}, "[1 2 3 0 5 6 7 4 9 10 11 8]"},
		// No choices, and the choice of the first one.
		{row, 0, 0, nil, "[0 1 2 3]"}, {row, 0, 0, []int{}, "[0 1 2 3]"}, {row, 0, 0, []int{0}, "[0 1 2 3]"}, {grid, 0, 1, nil, "[0 1 2 3 4 5]"},
		// As many choices as steps, fewer and more.
		{row, 0, 0, []int{3, 2, 1, 0}, "[3 2 1 0]"}, {row, 0, 0, []int{2, 2, 0, 0}, "[2 3 0 1]"}, {row, 0, 0, []int{1, 1, 1, 0}, "[1 2 3 0]"},
		{row, 0, 0, []int{1}, "[1 2 3 0]"}, {row, 0, 0, []int{0, 1}, "[0 2 1 3]"}, {row, 0, 0, []int{1, 0}, "[1 0 3 2]"}, {row, 0, 0, []int{2, 0, 1}, "[2 0 3 1]"}, {row, 0, 0, []int{2, 1, 1, 0, 99, 98}, "[2 1 3 0]"},
		// Choices that are greater than the number of remaining iterations, or equal to it.
		{row, 0, 0, []int{3}, "[3 0 2 1]"}, {row, 0, 0, []int{4}, "[0 2 1 3]"}, {row, 0, 0, []int{5}, "[1 3 2 0]"}, {row, 0, 0, []int{4, 3, 2, 1}, "[0 1 2 3]"}, {row, 0, 0, []int{12}, "[0 1 2 3]"}, {row, 0, 0, []int{math.MaxInt}, "[3 1 2 0]"},
		// Negative choices, with remainders of all kinds.
		{row, 0, 0, []int{-1}, "[0 1 2 3]"}, {row, 0, 0, []int{-2}, "[0 1 2 3]"}, {row, 0, 0, []int{-4}, "[0 1 2 3]"}, {row, 0, 0, []int{-5}, "[0 1 2 3]"}, {row, 0, 0, []int{math.MinInt}, "[0 1 2 3]"}, {row, 0, 0, []int{math.MinInt + 1}, "[0 1 2 3]"},
		{row, 0, 0, []int{-3, 2}, "[0 3 1 2]"}, {row, 0, 0, []int{2, -1}, "[2 0 1 3]"}, {row, 0, 0, []int{3, -3, 1, -1}, "[3 0 2 1]"},
		// The values of the variable are negative.
		{negative, 0, 0, []int{1}, "[1 2 0]"}, {negative, 0, 0, []int{2, 1}, "[2 1 0]"},
		// The outer loop, whose iterations have several instances.
		{grid, 0, 0, []int{1}, "[3 4 5 0 1 2]"}, {grid, 0, 0, []int{2}, "[0 1 2 3 4 5]"}, {grid, 0, 0, []int{3, 0, 7}, "[3 4 5 0 1 2]"}, {grid, 0, 0, []int{0, 1}, "[0 1 2 3 4 5]"}, {cuboid, 0, 0, []int{1}, "[4 5 6 7 0 1 2 3]"},
		// Inner loops: the outer values are taken in their order, and the steps are counted over all of them.
		{grid, 0, 1, []int{1}, "[1 2 0 4 5 3]"}, {grid, 0, 1, []int{2, 0}, "[2 0 1 3 4 5]"}, {grid, 0, 1, []int{2, 1, 0, 0, 0, 0, 9}, "[2 1 0 3 4 5]"}, {grid, 0, 1, []int{0, 0, 0, 2, 1, 0}, "[0 1 2 5 4 3]"}, {grid, 0, 1, []int{0, 0, 0, 2}, "[0 1 2 5 3 4]"},
		{grid, 0, 1, []int{2, 0, 0}, "[2 0 1 5 3 4]"}, {grid, 0, 1, []int{0, 1, 0, 2, -1}, "[0 2 1 5 3 4]"}, {cuboid, 0, 1, []int{1}, "[2 3 0 1 6 7 4 5]"}, {cuboid, 0, 1, []int{0, 0, 1}, "[0 1 2 3 6 7 4 5]"}, {cuboid, 0, 2, []int{0, 0, 1, 0, 1}, "[0 1 3 2 5 4 6 7]"},
		// Iterations with different numbers of instances, and outer values with different numbers of iterations.
		{corner, 0, 0, []int{1}, "[3 4 5 0 1 2]"}, {corner, 0, 0, []int{2, 0}, "[5 0 1 2 3 4]"}, {corner, 0, 1, []int{1}, "[1 2 0 4 3 5]"}, {corner, 0, 1, []int{0, 0, 0, 1}, "[0 1 2 4 3 5]"}, {corner, 0, 1, []int{2, 1}, "[2 1 0 4 3 5]"},
		// Iterations without instances are no choice, and do not count as steps.
		{below, 0, 0, []int{1}, "[1 2 0]"}, {below, 0, 0, []int{2}, "[0 1 2]"}, {below, 0, 1, []int{1}, "[0 2 1]"}, {below, 0, 1, []int{1, 0}, "[0 1 2]"}, {below, 0, 1, []int{0, 1}, "[0 2 1]"},
		{gap, 0, 0, []int{1}, "[1 0]"}, {gap, 0, 0, []int{2}, "[0 1]"}, {gap, 0, 1, []int{1}, "[0 1]"},
		// Several statements.
		{couple, 0, 0, []int{1}, "[2 3 4 5 0 1]"}, {couple, 0, 0, []int{2}, "[4 5 0 1 2 3]"}, {couple, 0, 0, []int{2, 1}, "[4 5 2 3 0 1]"}, {"array B 2 2/part/for 0 2/for 0 2/B[i,j]=1/B[i,j]=2/B[i,j]=3", 0, 1, []int{0, 0, 1}, "[0 1 2 3 4 5 9 10 11 6 7 8]"},
		// Parts before and after the part, whose instances are no steps.
		{between, 1, 0, []int{1}, "[0 1 3 4 2 5 6]"}, {between, 1, 0, []int{2, 1, 0}, "[0 1 4 3 2 5 6]"}, {between, 2, 0, []int{1, 0}, "[0 1 2 3 4 6 5]"}, {between, 2, 0, nil, "[0 1 2 3 4 5 6]"},
		{"array A 4/part/for 0 4/A[i]=1/part/for 0 4/A[-i+3]=2", 0, 0, []int{3, 2, 1, 0}, "[3 2 1 0 4 5 6 7]"}, {"array A 4/part/for 0 4/A[i]=1/part/for 0 4/A[-i+3]=2", 1, 0, []int{3, 2, 1, 0}, "[0 1 2 3 7 6 5 4]"},
		// Parts without instances.
		{vacant, 1, 0, []int{1}, "[0 1]"}, {vacant, 1, 1, []int{1}, "[0 1]"}, {"array A 3/part/for 0 0/A[i]=1", 0, 0, nil, "[]"}, {"array A 3/part/for 0 3/for 0 0/A[i]=1", 0, 0, []int{1}, "[]"}, {"array A 3/part/for 0 3/for 0 0/A[i]=1", 0, 1, []int{1}, "[]"},
		// Loops with one iteration.
		{"array A 3/part/for 2 3/A[i]=1", 0, 0, []int{1}, "[0]"}, {"array A 3/part/for 0 3/for 0 1/A[i]=1", 0, 1, []int{2}, "[0 1 2]"},
		// A loop that is not parallel.
		{"array A 4/part/for 0 3/A[i+1]=A[i]", 0, 0, []int{2, 1}, "[2 1 0]"},
	} {
		order, ok := impl.ParallelOrder(programOf(t, c.lines), c.part, c.loop, c.choices)
		if !ok || fmt.Sprint(order) != c.want {
			t.Errorf("ParallelOrder(%s, %d, %d, %v) = %v, %v, not %s", c.lines, c.part, c.loop, c.choices, order, ok, c.want)
		}
	}
}

func TestWaveCases(t *testing.T) {
	for _, c := range []parallelCase{
		// The example of the chapter.
		{"array B 4 5/part/for 0 3/for 0 4/B[i,j+1]=B[i,j]", 0, 0, nil, "[0 4 8 1 5 9 2 6 10 3 7 11]"}, {"array B 4 5/part/for 0 3/for 0 4/B[i,j+1]=B[i,j]", 0, 1, nil, "[0 1 2 3 4 5 6 7 8 9 10 11]"},
		// Iterations with one instance.
		{row, 0, 0, nil, "[0 1 2 3]"}, {grid, 0, 1, nil, "[0 1 2 3 4 5]"}, {negative, 0, 0, nil, "[0 1 2]"},
		// Iterations with as many instances, and with different numbers.
		{grid, 0, 0, nil, "[0 3 1 4 2 5]"}, {corner, 0, 0, nil, "[0 3 5 1 4 2]"}, {corner, 0, 1, nil, "[0 1 2 3 4 5]"}, {"array B 3 3/part/for 0 3/for 0 i+1/B[i,j]=1", 0, 0, nil, "[0 1 3 2 4 5]"},
		{"array B 3 3/part/for 0 3/for 0 i+1,-i+3/B[i,j]=1", 0, 0, nil, "[0 1 3 2]"},
		// Iterations without instances.
		{below, 0, 0, nil, "[0 1 2]"}, {gap, 0, 0, nil, "[0 1]"}, {"array B 6 6/part/for 0 4/for 0 2*i-2/B[i,j]=1", 0, 0, nil, "[0 2 1 3 4 5]"},
		// The outer values are taken in their order.
		{cuboid, 0, 0, nil, "[0 4 1 5 2 6 3 7]"}, {cuboid, 0, 1, nil, "[0 2 1 3 4 6 5 7]"}, {cuboid, 0, 2, nil, "[0 1 2 3 4 5 6 7]"}, {"array B 6 6/part/for 0 2/for 0 2/for j i+2/B[i,j]=1", 0, 1, nil, "[0 2 1 3 6 4 7 5]"},
		// Several statements, also at several points of an iteration.
		{couple, 0, 0, nil, "[0 2 4 1 3 5]"}, {"array B 2 2/part/for 0 2/for 0 2/B[i,j]=1/B[i,j]=2", 0, 0, nil, "[0 4 1 5 2 6 3 7]"}, {"array B 2 2/part/for 0 2/for 0 2/B[i,j]=1/B[i,j]=2", 0, 1, nil, "[0 2 1 3 4 6 5 7]"},
		// Parts before and after the part, and parts without instances.
		{between, 1, 0, nil, "[0 1 2 3 4 5 6]"}, {"array B 2 2/part/B[0,0]=1/part/for 0 2/for 0 2/B[i,j]=1/part/for 0 2/for 0 2/B[j,i]=1", 1, 0, nil, "[0 1 3 2 4 5 6 7 8]"}, {"array B 2 2/part/B[0,0]=1/part/for 0 2/for 0 2/B[i,j]=1/part/for 0 2/for 0 2/B[j,i]=1", 2, 0, nil, "[0 1 2 3 4 5 7 6 8]"},
		{vacant, 1, 0, nil, "[0 1]"}, {vacant, 1, 1, nil, "[0 1]"}, {"array A 3/part/for 0 0/A[i]=1", 0, 0, nil, "[]"},
		// A loop that is not parallel.
		{"array B 3 3/part/for 0 2/for 0 2/B[i+1,j]=B[i,j+1]", 0, 0, nil, "[0 2 1 3]"},
	} {
		order, ok := impl.WaveOrder(programOf(t, c.lines), c.part, c.loop)
		if !ok || fmt.Sprint(order) != c.want {
			t.Errorf("WaveOrder(%s, %d, %d) = %v, %v, not %s", c.lines, c.part, c.loop, order, ok, c.want)
		}
	}
}

// TestAllIterationOrders checks that choices build each order of the iterations of a loop, and that those of a parallel loop are legal.
func TestAllIterationOrders(t *testing.T) {
	r := rand.New(rand.NewSource(18))
	for _, lines := range []string{row, couple, corner, below, negative, "array A 4/part/for 0 3/A[i+1]=A[i]", "array B 5 3/part/for 0 4/for i 3/B[i,j]=B[i,j]/B[i,0]=1"} {
		p := programOf(t, lines)
		x := nestedLoop{instancesOf(p), 0, 0}
		iterations := x.iterations(nil)
		memories := memoriesOf(r, impl.CountCells(p))
		var orders []string
		for permutation := range permutations(len(iterations)) {
			var want, choices []int
			for step, n := range permutation {
				want = append(want, iterations[n]...)
				// The iterations before n that have been executed are not counted.
				choices = append(choices, n-countLess(permutation[:step], n))
			}
			order, ok := impl.ParallelOrder(p, 0, 0, choices)
			if !ok || !slices.Equal(order, want) {
				t.Errorf("ParallelOrder(%s, 0, 0, %v) = %v, %v, not %v", lines, choices, order, ok, want)
			}
			if impl.LoopParallel(p, 0, 0) {
				checkLegal(t, p, order, memories)
			}
			orders = append(orders, fmt.Sprint(order))
		}
		slices.Sort(orders)
		if count := len(orders); len(slices.Compact(orders)) != count {
			t.Errorf("%s has the same order twice", lines)
		}
	}
}

// countLess returns how many numbers of a list are less than n.
func countLess(list []int, n int) int {
	count := 0
	for _, m := range list {
		if m < n {
			count++
		}
	}
	return count
}

// TestMostIterations checks loops with the greatest number of iterations, and of outer values.
func TestMostIterations(t *testing.T) {
	r := rand.New(rand.NewSource(19))
	var s parallelSeen
	for _, lines := range []string{"array A 1/part/for -60 60/A[0]=(A[0]-{i})", "array A 5 6/part/for 0 4/for 0 5/for 0 6/A[j,k]=(A[j,k]+{i})", "array A 5 6/part/for 0 5/for 0 6/A[i,j]=1/A[i,j]=(A[i,j]+2)/A[i,j]=(A[i,j]*3)/A[i,j]=(A[i,j]-4)"} {
		checkParallel(t, r, programOf(t, lines), &s)
	}
	p := programOf(t, "array A 1/part/for -60 60/A[0]=1")
	if order, ok := impl.ParallelOrder(p, 0, 0, reversed(upTo(120))); !ok || !slices.Equal(order, reversed(upTo(120))) {
		t.Errorf("ParallelOrder = %v, %v", order, ok)
	}
}

// TestMissingLoops checks parts and loops that do not exist.
func TestMissingLoops(t *testing.T) {
	for _, lines := range []string{"", "array A 3", grid, between, vacant, cuboid, "array A 1/part/A[0]=1"} {
		p := programOf(t, lines)
		for _, part := range []int{math.MinInt, -2, -1, len(p.Parts), len(p.Parts) + 1, 4, 5, math.MaxInt} {
			checkNoPart(t, lines, p, part, math.MinInt, -1, 0, 1, 2, 3, 4, math.MaxInt)
		}
		for part := range p.Parts {
			for _, loop := range []int{math.MinInt, -2, -1, loopsOf(p, part), loopsOf(p, part) + 1, 4, 5, math.MaxInt} {
				checkNoLoop(t, lines, p, part, loop)
			}
		}
	}
}

func TestParallelRefusesPrograms(t *testing.T) {
	for n, p := range brokenPrograms(t) {
		for _, part := range []int{-1, 0, 1, 2, 4} {
			checkNoPart(t, fmt.Sprint("the invalid program ", n), p, part, -1, 0, 1)
		}
	}
}

// parallelLists calls each function that returns a list.
func parallelLists(p impl.Program, choices []int) [][]int {
	var lists [][]int
	for part := range p.Parts {
		lists = append(lists, impl.CarriedLevels(p, part), impl.ParallelLoops(p, part))
		for loop := range p.Parts[part].Nest {
			x, _ := impl.ParallelOrder(p, part, loop, choices)
			y, _ := impl.ParallelOrder(p, part, loop, nil)
			z, _ := impl.WaveOrder(p, part, loop)
			lists = append(lists, x, y, z)
		}
	}
	return lists
}

// TestParallelMemory checks that results are in memory of their own, and do not depend on earlier calls.
func TestParallelMemory(t *testing.T) {
	for _, lines := range []string{grid, corner, couple, between, vacant, "array B 3 3/part/for 0 2/for 0 2/B[i+1,j+1]=(B[i,j+1]+B[i+1,j])", "array A 1/part/for 0 3/A[0]=A[0]", ""} {
		p := programOf(t, lines)
		choices := []int{2, -1, 1, -9}[:3]
		first := fmt.Sprint(parallelLists(p, choices))
		checkOwnMemory(t, append(parallelLists(p, choices), parallelLists(p, choices)...))
		if fmt.Sprint(parallelLists(p, choices)) != first || !impl.ProgramSame(p, programOf(t, lines)) || !slices.Equal(choices[:4], []int{2, -1, 1, -9}) {
			t.Errorf("the results are changed to %v", parallelLists(p, choices))
		}
	}
}

// TestParallelArguments checks that no function changes an argument or the memory behind it.
func TestParallelArguments(t *testing.T) {
	p := programOf(t, "array A 3/part/for 0 3/A[-i+2]=(A[i]-A[0])/A[1]={i}")
	p.Parts = append(p.Parts, impl.Part{Nest: []impl.Loop{{}}})[:1]
	p.Parts[0].Body = append(p.Parts[0].Body, assign(numExpr(9)))[:2]
	kept := copyProgram(p)
	choices := []int{1, -2, 30, -9}
	impl.CarriedLevels(p, 0)
	impl.LoopParallel(p, 0, 0)
	impl.ParallelLoops(p, 0)
	impl.ParallelOrder(p, 0, 0, choices[:3])
	impl.WaveOrder(p, 0, 0)
	if !slices.Equal(choices, []int{1, -2, 30, -9}) || fmt.Sprint(p) != fmt.Sprint(kept) || len(p.Parts[:2][1].Nest) != 1 || p.Parts[0].Body[:3][2].Value.Num != 9 {
		t.Errorf("the arguments are changed to %v and %v", choices, p)
	}
}
