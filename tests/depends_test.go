package tests

import (
	"fmt"
	"math"
	"math/rand"
	"slices"
	"testing"

	"loop.example/loopnests/impl"
)

// accesses has the cells that each instance of a program reads and writes.
type accesses struct {
	reference
	read    [][]int
	written []int
}

func accessesOf(p impl.Program) accesses {
	x := accesses{reference: referenceOf(p)}
	for _, i := range x.instances {
		x.read = append(x.read, x.reads(i))
		x.written = append(x.written, x.write(i))
	}
	return x
}

// kinds returns the sum of the kinds of a dependence, for any numbers.
func (x accesses) kinds(from int, to int) int {
	if from < 0 || to >= len(x.instances) || from >= to {
		return 0
	}
	sum := 0
	if slices.Contains(x.read[to], x.written[from]) {
		sum += 1
	}
	if slices.Contains(x.read[from], x.written[to]) {
		sum += 2
	}
	if x.written[from] == x.written[to] {
		sum += 4
	}
	return sum
}

func (x accesses) deps() []impl.Dep {
	var list []impl.Dep
	for from := range x.instances {
		for to := range x.instances {
			if sum := x.kinds(from, to); sum != 0 {
				list = append(list, impl.Dep{From: from, To: to, Kinds: sum})
			}
		}
	}
	return list
}

// distances returns the distances of a part, each of which is inserted in front of the first one that is not before it.
func (x accesses) distances(part int) [][]int {
	var list [][]int
	for _, d := range x.deps() {
		from, to := x.instances[d.From], x.instances[d.To]
		if from.Part != part || to.Part != part {
			continue
		}
		var distance []int
		for v := range from.Point {
			distance = append(distance, to.Point[v]-from.Point[v])
		}
		place := 0
		for place < len(list) && impl.LexLess(list[place], distance) {
			place++
		}
		if place == len(list) || !slices.Equal(list[place], distance) {
			list = slices.Insert(list, place, distance)
		}
	}
	return list
}

// sources returns the sources of an instance, each of which is searched from the instance backwards.
func (x accesses) sources(to int) []int {
	var list []int
	for _, cell := range x.read[to] {
		source := to - 1
		for source >= 0 && x.written[source] != cell {
			source--
		}
		list = append(list, source)
	}
	return list
}

// isDead reports whether an instance is dead, by trying all later ones.
func (x accesses) isDead(n int) bool {
	cell := x.written[n]
	for later := n + 1; later < len(x.instances); later++ {
		if x.written[later] != cell {
			continue
		}
		if !slices.ContainsFunc(x.read[n+1:later+1], func(cells []int) bool { return slices.Contains(cells, cell) }) {
			return true
		}
	}
	return false
}

func (x accesses) dead() []int {
	var list []int
	for n := range x.instances {
		if x.isDead(n) {
			list = append(list, n)
		}
	}
	return list
}

// live returns the live instances: it adds sources of live instances until there are no others.
func (x accesses) live() []int {
	var list []int
	for n, cell := range x.written {
		if !slices.Contains(x.written[n+1:], cell) {
			list = append(list, n)
		}
	}
	for k := 0; k < len(list); k++ {
		for _, n := range x.sources(list[k]) {
			if n >= 0 && !slices.Contains(list, n) {
				list = append(list, n)
			}
		}
	}
	slices.Sort(list)
	return list
}

func sameLists(a [][]int, b [][]int) bool {
	return slices.EqualFunc(a, b, slices.Equal)
}

// checkDepends compares what the functions return for a program with the definitions.
func checkDepends(t *testing.T, p impl.Program) {
	t.Helper()
	x := accessesOf(p)
	text := impl.FormatProgram(p)
	if deps := impl.Dependences(p); !slices.Equal(deps, x.deps()) {
		t.Errorf("Dependences(%q) = %v, not %v", text, deps, x.deps())
	}
	for part := -1; part <= len(p.Parts); part++ {
		if list := impl.Distances(p, part); !sameLists(list, x.distances(part)) {
			t.Errorf("Distances(%q, %d) = %v, not %v", text, part, list, x.distances(part))
		}
	}
	for to := range x.instances {
		if list, ok := impl.FlowSources(p, to); !ok || !slices.Equal(list, x.sources(to)) {
			t.Errorf("FlowSources(%q, %d) = %v, %v, not %v", text, to, list, ok, x.sources(to))
		}
	}
	if list := impl.DeadInstances(p); !slices.Equal(list, x.dead()) {
		t.Errorf("DeadInstances(%q) = %v, not %v", text, list, x.dead())
	}
	if list := impl.LiveInstances(p); !slices.Equal(list, x.live()) {
		t.Errorf("LiveInstances(%q) = %v, not %v", text, list, x.live())
	}
}

// checkPairs compares DepBetween with the definition for all indices of instances and some others.
func checkPairs(t *testing.T, p impl.Program) {
	t.Helper()
	x := accessesOf(p)
	for from := -2; from < len(x.instances)+2; from++ {
		for to := -2; to < len(x.instances)+2; to++ {
			if sum := impl.DepBetween(p, from, to); sum != x.kinds(from, to) {
				t.Errorf("DepBetween(%q, %d, %d) = %d, not %d", impl.FormatProgram(p), from, to, sum, x.kinds(from, to))
			}
		}
	}
}

// checkDistances checks that the distances of a program are in order and not before zero.
func checkDistances(t *testing.T, p impl.Program) {
	t.Helper()
	for part, x := range p.Parts {
		zero := make([]int, len(x.Nest))
		list := impl.Distances(p, part)
		for n, d := range list {
			level := impl.CarryLevel(d)
			if len(d) != len(zero) || impl.LexLess(d, zero) || level >= 0 && d[level] < 0 || (level < 0) != slices.Equal(d, zero) {
				t.Errorf("Distances(%q, %d) = %v", impl.FormatProgram(p), part, list)
			}
			if n > 0 && !impl.LexLess(list[n-1], d) {
				t.Errorf("Distances(%q, %d) = %v, which is not in order", impl.FormatProgram(p), part, list)
			}
		}
	}
}

// runOnly returns the memory after a program whose instances assign other values, unless their indices are in a list.
func runOnly(p impl.Program, m []int, list []int, other func() int) []int {
	x := accessesOf(p)
	m = slices.Clone(m)
	for n, i := range x.instances {
		value := other()
		if slices.Contains(list, n) {
			value, _ = impl.InstanceValue(p, m, i)
		}
		m[x.written[n]] = value
	}
	return m
}

// checkLive checks that instances that are not live do not matter: they may be left out, or may assign anything.
func checkLive(t *testing.T, r *rand.Rand, p impl.Program) {
	t.Helper()
	live, dead := impl.LiveInstances(p), impl.DeadInstances(p)
	for _, m := range memoriesOf(r, impl.CountCells(p))[3:] {
		want, _ := impl.RunProgram(p, m)
		if got := runEach(t, p, m, live); !slices.Equal(got, want) {
			t.Errorf("the instances %v of %q lead from %v to %v, not %v", live, impl.FormatProgram(p), m, got, want)
		}
		if got := runOnly(p, m, live, func() int { return r.Intn(1000) }); !slices.Equal(got, want) {
			t.Errorf("instances other than %v of %q matter: %v leads to %v, not %v", live, impl.FormatProgram(p), m, got, want)
		}
	}
	for _, n := range dead {
		if slices.Contains(live, n) {
			t.Errorf("the instance %d of %q is dead and live", n, impl.FormatProgram(p))
		}
	}
}

func TestDependences(t *testing.T) {
	r := rand.New(rand.NewSource(2))
	for _, lines := range validPrograms() {
		p := programOf(t, lines)
		checkDepends(t, p)
		checkPairs(t, p)
		checkDistances(t, p)
		checkLive(t, r, p)
	}
}

// denseProgram returns a program whose instances access few cells, so that they have many dependences; it need not be valid.
func denseProgram(r *rand.Rand) impl.Program {
	p := impl.Program{Arrays: []impl.Array{{Name: "A", Dims: []int{1 + r.Intn(4)}}, {Name: "B", Dims: []int{1 + r.Intn(3), 1 + r.Intn(3)}}}}
	for range 1 + r.Intn(3) {
		count := r.Intn(3)
		x := impl.Part{}
		for v := range count {
			lo := lin(r.Intn(2)-1, 0, 0, 0, 0)
			if v > 0 && r.Intn(4) == 0 {
				lo.Coefs[0] = 1
			}
			x.Nest = append(x.Nest, impl.Loop{Lo: []impl.Affine{lo}, Hi: side(r.Intn(3) + 1)})
		}
		x.Body = denseBody(r, p.Arrays, count)
		p.Parts = append(p.Parts, x)
	}
	return p
}

// denseBody returns statements within a number of loops that mostly access elements of the arrays.
func denseBody(r *rand.Rand, arrays []impl.Array, loops int) []impl.Stmt {
	var body []impl.Stmt
	for range 1 + r.Intn(3) {
		s := impl.Stmt{Write: randomElement(r, arrays, loops), Value: numExpr(r.Intn(100))}
		for range r.Intn(3) {
			s.Value = nodeExpr(impl.ExprAdd+r.Intn(3), impl.Expr{Kind: impl.ExprRead, Read: randomElement(r, arrays, loops)}, s.Value)
		}
		if r.Intn(4) == 0 {
			s.Value = impl.Expr{Kind: impl.ExprRead, Read: copyAccess(s.Write)}
		}
		body = append(body, s)
	}
	return body
}

// seen counts what programs have, so that the tests show that they do not lack it.
type seen struct {
	kinds                                   [8]int
	dead, idle, backwards, between, initial int
}

func (s *seen) add(p impl.Program) {
	x := accessesOf(p)
	for _, d := range x.deps() {
		s.kinds[d.Kinds]++
		if x.instances[d.From].Part != x.instances[d.To].Part {
			s.between++
		}
	}
	live := x.live()
	for n := range x.instances {
		switch {
		case x.isDead(n):
			s.dead++
		case !slices.Contains(live, n):
			s.idle++
		}
		if slices.Contains(x.sources(n), -1) {
			s.initial++
		}
	}
	for part := range p.Parts {
		for _, d := range x.distances(part) {
			if len(d) > 0 && slices.Min(d) < 0 {
				s.backwards++
			}
		}
	}
}

func TestRandomDependences(t *testing.T) {
	r := rand.New(rand.NewSource(4))
	var s seen
	count := 0
	for n := range 6000 {
		p := denseProgram(r)
		if n%3 == 0 {
			p = randomProgram(r)
			randomLeaves(r, &p)
		}
		if !impl.ProgramValid(p) || len(p.Parts) == 0 {
			continue
		}
		count++
		s.add(p)
		checkDepends(t, p)
		if n%10 == 0 {
			checkPairs(t, p)
		}
		checkDistances(t, p)
		checkLive(t, r, p)
	}
	least := slices.Min(append(s.kinds[1:], s.dead, s.idle, s.backwards, s.between, s.initial))
	if count < 500 || least < 50 {
		t.Errorf("%d programs have only %+v", count, s)
	}
}

// dependsCase has the lines of a program, and what the functions return for it, as texts; distances and sources are those of all parts and instances.
type dependsCase struct {
	lines, deps, distances, sources, dead, live string
}

func (c dependsCase) check(t *testing.T) {
	t.Helper()
	p := programOf(t, c.lines)
	var distances, sources [][][]int
	for part := range p.Parts {
		distances = append(distances, impl.Distances(p, part))
	}
	for to := range impl.ProgramInstances(p) {
		list, ok := impl.FlowSources(p, to)
		if !ok {
			t.Errorf("FlowSources(%s, %d) returns false", c.lines, to)
		}
		sources = append(sources, [][]int{list})
	}
	got := dependsCase{c.lines, fmt.Sprint(impl.Dependences(p)), fmt.Sprint(distances), fmt.Sprint(slices.Concat(sources...)), fmt.Sprint(impl.DeadInstances(p)), fmt.Sprint(impl.LiveInstances(p))}
	if got != c {
		t.Errorf("%+v, not %+v", got, c)
	}
	for _, d := range impl.Dependences(p) {
		if sum := impl.DepBetween(p, d.From, d.To); sum != d.Kinds {
			t.Errorf("DepBetween(%s, %d, %d) = %d, not %d", c.lines, d.From, d.To, sum, d.Kinds)
		}
	}
}

func TestDependenceCases(t *testing.T) {
	for _, c := range []dependsCase{
		// Programs without instances.
		{"", "[]", "[]", "[]", "[]", "[]"},
		{"array A 3", "[]", "[]", "[]", "[]", "[]"},
		{"array A 3/part/for 0 0/A[i]=A[i]/A[i]=1", "[]", "[[]]", "[]", "[]", "[]"},
		// The example of the chapter.
		{"array A 4/part/for 0 3/A[i+1]=A[i]", "[{0 1 1} {1 2 1}]", "[[[1]]]", "[[-1] [0] [1]]", "[]", "[0 1 2]"},
		// Instances that read the cell that they write.
		{"array A 1/part/A[0]=A[0]", "[]", "[[]]", "[[-1]]", "[]", "[0]"},
		{"array A 1/part/A[0]=A[0]/A[0]=1", "[{0 1 6}]", "[[[]]]", "[[-1] []]", "[0]", "[1]"},
		{"array A 1/part/for 0 3/A[0]=(A[0]+{i})", "[{0 1 7} {0 2 7} {1 2 7}]", "[[[1] [2]]]", "[[-1] [0] [1]]", "[]", "[0 1 2]"},
		{"array A 2/part/for 0 2/A[i]=(A[i]+1)", "[]", "[[]]", "[[-1] [-1]]", "[]", "[0 1]"},
		// Values that are never read, but remain in the memory.
		{"array A 3/part/A[0]=1/A[2]=2", "[]", "[[]]", "[[] []]", "[]", "[0 1]"},
		{"array A 3/part/for 0 3/A[i]=1", "[]", "[[]]", "[[] [] []]", "[]", "[0 1 2]"},
		// Values that are overwritten before any instance reads them, or after that.
		{"array A 2/part/A[0]=1/A[1]=2/A[0]=3", "[{0 2 4}]", "[[[]]]", "[[] [] []]", "[0]", "[1 2]"},
		{"array A 2/part/A[0]=1/A[0]=3/A[1]=A[0]", "[{0 1 4} {0 2 1} {1 2 1}]", "[[[]]]", "[[] [] [1]]", "[0]", "[1 2]"},
		{"array A 2/part/A[0]=1/A[1]=A[0]/A[0]=3", "[{0 1 1} {0 2 4} {1 2 2}]", "[[[]]]", "[[] [0] []]", "[]", "[0 1 2]"},
		{"array A 1/part/for 0 4/A[0]={i}", "[{0 1 4} {0 2 4} {0 3 4} {1 2 4} {1 3 4} {2 3 4}]", "[[[1] [2] [3]]]", "[[] [] [] []]", "[0 1 2]", "[3]"},
		// An instance that reads the cell that it overwrites.
		{"array A 1/part/A[0]=1/A[0]=(2*A[0])", "[{0 1 5}]", "[[[]]]", "[[] [0]]", "[]", "[0 1]"},
		{"array A 1/part/A[0]=1/A[0]=A[0]/A[0]=2", "[{0 1 5} {0 2 4} {1 2 6}]", "[[[]]]", "[[] [0] []]", "[1]", "[2]"},
		// Values that are read only by instances that are not live.
		{"array A 2/part/A[0]=1/A[1]=A[0]/A[1]=2/A[0]=3", "[{0 1 1} {0 3 4} {1 2 4} {1 3 2}]", "[[[]]]", "[[] [0] [] []]", "[1]", "[2 3]"},
		{"array A 3/part/A[0]=1/A[1]=A[0]/A[2]=A[1]/part/for 0 3/A[i]=2", "[{0 1 1} {0 3 4} {1 2 1} {1 3 2} {1 4 4} {2 4 2} {2 5 4}]", "[[[]] []]", "[[] [0] [1] [] [] []]", "[2]", "[3 4 5]"},
		// A distance of zero between two statements of a part.
		{"array A 3/array B 3/part/for 0 2/A[i]=1/B[i]=A[i]", "[{0 1 1} {2 3 1}]", "[[[0]]]", "[[] [0] [] [2]]", "[]", "[0 1 2 3]"},
		{"array A 2 2/array B 2/part/for 0 2/for 0 1/A[i,j]=B[i]/B[i]=7", "[{0 1 2} {2 3 2}]", "[[[0 0]]]", "[[-1] [] [-1] []]", "[]", "[0 1 2 3]"},
		{"array A 5/part/for 0 3/A[i+1]=A[i]/A[0]=7", "[{0 1 2} {0 2 1} {0 3 2} {0 5 2} {1 3 4} {1 5 4} {2 4 1} {3 5 4}]", "[[[0] [1] [2]]]", "[[-1] [] [0] [] [2] []]", "[1 3]", "[0 2 4 5]"},
		// Dependences between instances of different parts, which have no distances.
		{"array A 3/part/for 0 2/A[i]=1/part/for 0 2/A[i+1]=A[i]", "[{0 2 1} {1 2 4} {1 3 1} {2 3 1}]", "[[] [[1]]]", "[[] [] [0] [2]]", "[1]", "[0 2 3]"},
		{"array A 2/array B 1/part/A[0]=1/part/for 0 0/B[i]=A[i]/part/B[0]=A[0]/part/A[0]=B[0]", "[{0 1 1} {0 2 4} {1 2 3}]", "[[] [] [] []]", "[[] [0] [1]]", "[]", "[0 1 2]"},
		{"array A 2/part/for 0 2/A[i]=1/part/for 0 2/for 0 1/A[j]=A[i]", "[{0 2 5} {0 3 4} {1 3 1} {2 3 6}]", "[[] [[1 0]]]", "[[] [] [0] [1]]", "[2]", "[1 3]"},
		// Several kinds of dependences between two instances, and each of them alone.
		{"array A 2/part/A[0]=9/A[1]=A[0]", "[{0 1 1}]", "[[[]]]", "[[] [0]]", "[]", "[0 1]"},
		{"array A 2/part/A[0]=A[1]/A[1]=9", "[{0 1 2}]", "[[[]]]", "[[-1] []]", "[]", "[0 1]"},
		{"array A 2/part/A[0]=A[1]/A[1]=A[0]", "[{0 1 3}]", "[[[]]]", "[[-1] [0]]", "[]", "[0 1]"},
		{"array A 2/part/A[0]=A[1]/A[0]=A[1]", "[{0 1 4}]", "[[[]]]", "[[-1] [-1]]", "[0]", "[1]"},
		{"array A 2/part/A[0]=A[1]/A[0]=A[0]", "[{0 1 5}]", "[[[]]]", "[[-1] [0]]", "[]", "[0 1]"},
		{"array A 2/part/A[0]=A[0]/A[0]=A[1]", "[{0 1 6}]", "[[[]]]", "[[-1] [-1]]", "[0]", "[1]"},
		{"array A 2/part/A[0]=(A[1]-A[0])/A[0]=(A[0]*A[1])", "[{0 1 7}]", "[[[]]]", "[[-1 -1] [0 -1]]", "[]", "[0 1]"},
		// Reads of a cell that no instance writes, which are no dependences.
		{"array A 3/part/A[0]=A[2]/A[1]=A[2]", "[]", "[[]]", "[[-1] [-1]]", "[]", "[0 1]"},
		{"array A 3/array B 3/part/for 0 3/A[i]=(B[i]+B[0])", "[]", "[[]]", "[[-1 -1] [-1 -1] [-1 -1]]", "[]", "[0 1 2]"},
		// Instances that read the same cell twice.
		{"array A 2/part/A[0]=5/A[1]=(A[0]*A[0])", "[{0 1 1}]", "[[[]]]", "[[] [0 0]]", "[]", "[0 1]"},
		{"array A 2/part/A[1]=(A[0]+(A[1]*A[0]))/A[0]=(A[1]+A[1])", "[{0 1 3}]", "[[[]]]", "[[-1 -1 -1] [0 0]]", "[]", "[0 1]"},
		{"array A 3/part/A[0]=1/A[1]=2/A[2]=(A[1]-(A[0]-(A[2]-A[1])))", "[{0 2 1} {1 2 1}]", "[[[]]]", "[[] [] [1 0 -1 1]]", "[]", "[0 1 2]"},
		// Distances that are found in another order or repeatedly, and have negative coordinates.
		{"array A 4/part/for 0 4/A[i]=A[-i+3]", "[{0 3 3} {1 2 3}]", "[[[1] [3]]]", "[[-1] [-1] [1] [0]]", "[]", "[0 1 2 3]"},
		{"array A 3/part/for -3 0/A[i+3]=A[-i-1]", "[{0 2 3}]", "[[[2]]]", "[[-1] [-1] [0]]", "[]", "[0 1 2]"},
		{"array B 3 3/part/for 0 2/for 0 2/B[i+1,j]=B[i,j+1]", "[{1 2 1}]", "[[[1 -1]]]", "[[-1] [-1] [1] [-1]]", "[]", "[0 1 2 3]"},
		{"array A 2/part/for 0 2/for 0 2/A[j]=A[i]", "[{0 1 1} {0 2 6} {1 2 3} {1 3 5} {2 3 2}]", "[[[0 1] [1 -1] [1 0]]]", "[[-1] [0] [1] [1]]", "[]", "[0 1 2 3]"},
		{"array A 1/part/" + farNest(9998, 10000) + "/A[0]={l}", "[{0 1 4}]", "[[[0 0 0 1]]]", "[[] []]", "[0]", "[1]"},
	} {
		c.check(t)
	}
}

// TestManyInstances checks the greatest number of instances, each of which depends on all before it.
func TestManyInstances(t *testing.T) {
	p := programOf(t, "array A 1/part/for -60 60/A[0]=(A[0]-{i})")
	deps := impl.Dependences(p)
	if len(deps) != 120*119/2 || deps[0] != (impl.Dep{From: 0, To: 1, Kinds: 7}) || deps[len(deps)-1] != (impl.Dep{From: 118, To: 119, Kinds: 7}) {
		t.Errorf("there are %d dependences: %v", len(deps), deps)
	}
	list := impl.Distances(p, 0)
	if len(list) != 119 || !slices.Equal(list[0], []int{1}) || !slices.Equal(list[118], []int{119}) {
		t.Errorf("the distances are %v", list)
	}
	if dead, live := impl.DeadInstances(p), impl.LiveInstances(p); len(dead) != 0 || !slices.Equal(live, upTo(120)) {
		t.Errorf("the dead instances are %v, and the live ones %v", dead, live)
	}
	if impl.DepBetween(p, 0, 119) != 7 || impl.DepBetween(p, 0, 120) != 0 || impl.DepBetween(p, 119, 120) != 0 {
		t.Error("DepBetween is wrong for the last instance")
	}
	if list, ok := impl.FlowSources(p, 119); !ok || !slices.Equal(list, []int{118}) {
		t.Errorf("the sources of the last instance are %v, %v", list, ok)
	}
	if list, ok := impl.FlowSources(p, 120); ok || len(list) != 0 {
		t.Errorf("the sources of no instance are %v, %v", list, ok)
	}
}

func TestCarryLevel(t *testing.T) {
	for _, c := range []struct {
		d    []int
		want int
	}{
		{nil, -1}, {[]int{}, -1}, {[]int{0}, -1}, {[]int{0, 0, 0, 0}, -1}, {[]int{1}, 0}, {[]int{-1}, 0}, {[]int{0, -1}, 1}, {[]int{2, 0}, 0}, {[]int{2, 3}, 0}, {[]int{0, 0, 5}, 2},
		{[]int{0, 0, 0, -9}, 3}, {[]int{0, 1, 0, -1}, 1}, {[]int{math.MinInt}, 0}, {[]int{0, math.MaxInt}, 1},
		// Lists that are too long for a distance.
		{[]int{0, 0, 0, 0, 1}, 4}, {[]int{0, 0, 0, 0, 0}, -1}, {make([]int, 5000), -1}, {append(make([]int, 5000), -7, 7), 5000},
	} {
		if n := impl.CarryLevel(c.d); n != c.want {
			t.Errorf("CarryLevel(%v) = %d, not %d", c.d, n, c.want)
		}
	}
}

func TestDirection(t *testing.T) {
	for _, c := range []struct {
		d    []int
		want string
	}{
		{nil, ""}, {[]int{}, ""}, {[]int{0}, "="}, {[]int{1}, "<"}, {[]int{-1}, ">"}, {[]int{2, 0, -1}, "<=>"}, {[]int{-1, 0, 2}, ">=<"}, {[]int{1, -1, 0, 2}, "<>=<"},
		{[]int{0, 0, 0, 0}, "===="}, {[]int{9999, -9999}, "<>"}, {[]int{math.MaxInt, math.MinInt}, "<>"}, {[]int{0, 0, 0, -1}, "===>"},
		// Lists that are too long.
		{[]int{0, 0, 0, 0, 0}, ""}, {[]int{1, -1, 0, 2, 1}, ""}, {make([]int, 5000), ""},
	} {
		if text := impl.Direction(c.d); text != c.want {
			t.Errorf("Direction(%v) = %q, not %q", c.d, text, c.want)
		}
	}
	for length := range 5 {
		for _, d := range boxPoints(length, 2) {
			want := ""
			for _, n := range d {
				want += map[bool]string{n > 0: "<", n < 0: ">", n == 0: "="}[true]
			}
			if text := impl.Direction(d); text != want {
				t.Errorf("Direction(%v) = %q, not %q", d, text, want)
			}
		}
	}
}

// TestDependsRefusesIndices checks indices of instances and parts that are negative, past the end or in the wrong order.
func TestDependsRefusesIndices(t *testing.T) {
	p := programOf(t, "array A 1/part/for 0 3/A[0]=(A[0]+1)/part/A[0]=A[0]")
	outside := []int{-1, -2, -4, 4, 5, 120, 1 << 32, 1<<32 + 1, math.MaxInt, math.MinInt}
	for _, n := range outside {
		for _, m := range append([]int{0, 1, 2, 3}, outside...) {
			if a, b := impl.DepBetween(p, n, m), impl.DepBetween(p, m, n); a != 0 || b != 0 {
				t.Errorf("DepBetween of %d and %d is %d, %d", n, m, a, b)
			}
		}
		if list, ok := impl.FlowSources(p, n); ok || len(list) != 0 {
			t.Errorf("FlowSources(%d) = %v, %v", n, list, ok)
		}
	}
	for from := range 4 {
		for to := range 4 {
			if sum := impl.DepBetween(p, from, to); (sum == 7) != (from < to) || sum != 0 && sum != 7 {
				t.Errorf("DepBetween(%d, %d) = %d", from, to, sum)
			}
		}
	}
	for _, part := range []int{-1, -2, 2, 3, 4, 1 << 32, math.MaxInt, math.MinInt} {
		if list := impl.Distances(p, part); len(list) != 0 {
			t.Errorf("Distances(%d) = %v", part, list)
		}
	}
	for _, lines := range []string{"", "array A 3", "array A 3/part/for 0 0/A[i]=A[i]"} {
		p := programOf(t, lines)
		for n := -1; n < 3; n++ {
			if list, ok := impl.FlowSources(p, n); ok || len(list) != 0 {
				t.Errorf("FlowSources(%s, %d) = %v, %v", lines, n, list, ok)
			}
			if sum, list := impl.DepBetween(p, n, n+1), impl.Distances(p, n); sum != 0 || len(list) != 0 {
				t.Errorf("DepBetween(%s, %d) = %d, and Distances is %v", lines, n, sum, list)
			}
		}
	}
}

func TestDependsOfInvalidPrograms(t *testing.T) {
	for n, p := range brokenPrograms(t) {
		for from := -1; from < 3; from++ {
			for to := -1; to < 4; to++ {
				if sum := impl.DepBetween(p, from, to); sum != 0 {
					t.Errorf("DepBetween(%d, %d) of the invalid program %d is %d", from, to, n, sum)
				}
			}
			if list, ok := impl.FlowSources(p, from); ok || len(list) != 0 {
				t.Errorf("FlowSources(%d) of the invalid program %d is %v, %v", from, n, list, ok)
			}
			if list := impl.Distances(p, from); len(list) != 0 {
				t.Errorf("Distances(%d) of the invalid program %d is %v", from, n, list)
			}
		}
		deps, dead, live := impl.Dependences(p), impl.DeadInstances(p), impl.LiveInstances(p)
		if len(deps) != 0 || len(dead) != 0 || len(live) != 0 {
			t.Errorf("the invalid program %d has the dependences %v, the dead instances %v and the live instances %v", n, deps, dead, live)
		}
	}
}

// dependsLists calls each function that returns lists of numbers.
func dependsLists(p impl.Program) [][]int {
	lists := [][]int{impl.DeadInstances(p), impl.LiveInstances(p)}
	for to := range impl.ProgramInstances(p) {
		list, _ := impl.FlowSources(p, to)
		lists = append(lists, list)
	}
	for part := range p.Parts {
		distances := impl.Distances(p, part)
		_ = append(distances, []int{-1}, []int{-1})
		lists = append(lists, distances...)
	}
	return lists
}

// TestDependsMemory checks that results are in memory of their own, and do not depend on earlier calls.
func TestDependsMemory(t *testing.T) {
	for _, lines := range []string{"array A 2/array B 2 2/part/for 0 2/for 0 2/A[i]=(A[j]+B[i,j])/B[j,i]=(A[j]-B[j,i])/part/A[0]=(A[0]+A[0])", "array A 1/part/for 0 3/A[0]=A[0]/part/A[0]=1/A[0]=2", ""} {
		p := programOf(t, lines)
		first := fmt.Sprint(dependsLists(p), impl.Dependences(p))
		checkOwnMemory(t, append(dependsLists(p), dependsLists(p)...))
		deps, other := impl.Dependences(p), impl.Dependences(p)
		_ = append(deps, impl.Dep{}, impl.Dep{})
		clear(deps)
		if fmt.Sprint(dependsLists(p), other) != first || !impl.ProgramSame(p, programOf(t, lines)) {
			t.Errorf("the results are changed to %v, %v", dependsLists(p), other)
		}
	}
}

// TestDependsArguments checks that no function changes an argument or the memory behind it.
func TestDependsArguments(t *testing.T) {
	p := programOf(t, "array A 3/part/for 0 3/A[-i+2]=(A[i]-A[0])/A[1]={i}")
	p.Parts = append(p.Parts, impl.Part{Nest: []impl.Loop{{}}})[:1]
	p.Parts[0].Body = append(p.Parts[0].Body, assign(numExpr(9)))[:2]
	kept := copyProgram(p)
	d := []int{0, -3, 0, 2, 9, -9}
	if impl.CarryLevel(d[:3]) != 1 || impl.Direction(d[:4]) != "=>=<" || !slices.Equal(d, []int{0, -3, 0, 2, 9, -9}) {
		t.Errorf("the list is changed to %v", d)
	}
	impl.DepBetween(p, 0, 1)
	impl.Dependences(p)
	impl.Distances(p, 0)
	impl.FlowSources(p, 2)
	impl.DeadInstances(p)
	impl.LiveInstances(p)
	if fmt.Sprint(p) != fmt.Sprint(kept) || len(p.Parts[:2][1].Nest) != 1 || p.Parts[0].Body[:3][2].Value.Num != 9 {
		t.Errorf("the program is changed to %v", p)
	}
}
