package tests

import (
	"cmp"
	"fmt"
	"math"
	"math/rand"
	"slices"
	"strings"
	"testing"

	"loop.example/loopnests/impl"
)

// change is the name of a transformation, with its arguments behind the program; those that it does not have are ignored.
type change struct {
	name       string
	part, a, b int
}

// changeNames are the names of all transformations.
func changeNames() []string {
	return []string{"interchange", "reverse", "skew", "shift", "strip", "fuse", "distribute", "split"}
}

// changeOf reads a change from its name and its arguments, which are separated by spaces.
func changeOf(text string) change {
	var c change
	// Arguments that are left out remain 0.
	fmt.Sscan(text, &c.name, &c.part, &c.a, &c.b)
	return c
}

// call returns what the function of the transformation returns.
func (c change) call(p impl.Program) (impl.Program, bool) {
	switch c.name {
	case "interchange":
		return impl.Interchange(p, c.part, c.a)
	case "reverse":
		return impl.ReverseLoop(p, c.part, c.a)
	case "skew":
		return impl.SkewLoop(p, c.part, c.a, c.b)
	case "shift":
		return impl.ShiftLoop(p, c.part, c.a, c.b)
	case "strip":
		return impl.StripMine(p, c.part, c.a, c.b)
	case "fuse":
		return impl.FuseParts(p, c.part)
	case "distribute":
		return impl.DistributePart(p, c.part, c.a)
	case "split":
		return impl.SplitLoop(p, c.part, c.a)
	}
	panic("there is no transformation " + c.name)
}

// renamed gives the instance of the changed program that an instance becomes.
type renamed func(x impl.Instance) impl.Instance

// applies reports whether the conditions that do not concern dependences hold, directly from the definition.
func (c change) applies(p impl.Program) bool {
	if c.part < 0 || c.part >= len(p.Parts) {
		return false
	}
	x := p.Parts[c.part]
	hasLoop := c.a >= 0 && c.a < len(x.Nest)
	switch c.name {
	case "interchange":
		return hasLoop && c.a+1 < len(x.Nest) && !usesVar(x.Nest[c.a+1], c.a)
	case "reverse":
		return hasLoop && isConstant(x.Nest[c.a])
	case "skew":
		return hasLoop && c.a+1 < len(x.Nest) && -6 <= c.b && c.b <= 6
	case "shift":
		return hasLoop && -6 <= c.b && c.b <= 6
	case "strip":
		return hasLoop && isConstant(x.Nest[c.a]) && len(x.Nest) < 4 && 1 <= c.b && c.b <= 6
	case "fuse":
		return c.part+1 < len(p.Parts) && impl.NestSame(x.Nest, p.Parts[c.part+1].Nest)
	case "distribute":
		return 0 < c.a && c.a < len(x.Body)
	}
	return len(x.Nest) > 0 && isConstant(x.Nest[0]) && x.Nest[0].Lo[0].Const <= c.a && c.a <= x.Nest[0].Hi[0].Const
}

// expected returns the program that a change which applies leads to, directly from the definition, and what its instances become.
func (c change) expected(p impl.Program) (impl.Program, renamed) {
	q := copyProgram(p)
	switch c.name {
	case "fuse":
		return c.expectFuse(q)
	case "distribute":
		return c.expectDistribute(q)
	case "split":
		return c.expectSplit(q)
	}
	expect := map[string]func(*impl.Part) func([]int) []int{"interchange": c.expectInterchange, "reverse": c.expectReverse, "skew": c.expectSkew, "shift": c.expectShift, "strip": c.expectStrip}
	move := expect[c.name](&q.Parts[c.part])
	return q, func(x impl.Instance) impl.Instance {
		if x.Part == c.part {
			x.Point = move(slices.Clone(x.Point))
		}
		return x
	}
}

// usesVar reports whether a bound of a loop uses a variable.
func usesVar(l impl.Loop, v int) bool {
	return slices.ContainsFunc(slices.Concat(l.Lo, l.Hi), func(a impl.Affine) bool { return a.Coefs[v] != 0 })
}

// isConstant reports whether a loop has constant bounds.
func isConstant(l impl.Loop) bool {
	return len(l.Lo) == 1 && len(l.Hi) == 1 && slices.Equal(slices.Concat(l.Lo[0].Coefs, l.Hi[0].Coefs), make([]int, 8))
}

// eachAffine applies a function to all affine expressions of a part.
func eachAffine(x *impl.Part, apply func(a *impl.Affine)) {
	for _, l := range x.Nest {
		eachBound(l, apply)
	}
	for k := range x.Body {
		for _, a := range affinesOf(&x.Body[k]) {
			apply(a)
		}
	}
}

// eachBound applies a function to all bounds of a loop.
func eachBound(l impl.Loop, apply func(a *impl.Affine)) {
	for _, s := range [][]impl.Affine{l.Lo, l.Hi} {
		for n := range s {
			apply(&s[n])
		}
	}
}

// The bounds of a loop do not use its own variable or those of inner loops, so that variables can be replaced in the whole part.

func (c change) expectInterchange(x *impl.Part) func([]int) []int {
	v, w := c.a, c.a+1
	eachAffine(x, func(a *impl.Affine) { a.Coefs[v], a.Coefs[w] = a.Coefs[w], a.Coefs[v] })
	x.Nest[v], x.Nest[w] = x.Nest[w], x.Nest[v]
	return func(point []int) []int {
		point[v], point[w] = point[w], point[v]
		return point
	}
}

func (c change) expectReverse(x *impl.Part) func([]int) []int {
	v := c.a
	sum := x.Nest[v].Lo[0].Const + x.Nest[v].Hi[0].Const - 1
	eachAffine(x, func(a *impl.Affine) {
		a.Const += sum * a.Coefs[v]
		a.Coefs[v] = -a.Coefs[v]
	})
	return func(point []int) []int {
		point[v] = sum - point[v]
		return point
	}
}

func (c change) expectSkew(x *impl.Part) func([]int) []int {
	v, w := c.a, c.a+1
	eachAffine(x, func(a *impl.Affine) { a.Coefs[v] -= c.b * a.Coefs[w] })
	eachBound(x.Nest[w], func(a *impl.Affine) { a.Coefs[v] += c.b })
	return func(point []int) []int {
		point[w] += c.b * point[v]
		return point
	}
}

func (c change) expectShift(x *impl.Part) func([]int) []int {
	v := c.a
	eachAffine(x, func(a *impl.Affine) { a.Const -= c.b * a.Coefs[v] })
	eachBound(x.Nest[v], func(a *impl.Affine) { a.Const += c.b })
	return func(point []int) []int {
		point[v] += c.b
		return point
	}
}

func (c change) expectStrip(x *impl.Part) func([]int) []int {
	v, size := c.a, c.b
	lo, hi := x.Nest[v].Lo[0].Const, x.Nest[v].Hi[0].Const
	strips := 0
	for lo+strips*size < hi {
		strips++
	}
	eachAffine(x, func(a *impl.Affine) { a.Coefs = slices.Insert(a.Coefs[:3:3], v, 0) })
	x.Nest = slices.Insert(x.Nest, v, impl.Loop{Lo: side(0), Hi: side(strips)})
	x.Nest[v+1] = impl.Loop{Lo: side(lo, lo), Hi: side(hi, lo+size)}
	x.Nest[v+1].Lo[1].Coefs[v], x.Nest[v+1].Hi[1].Coefs[v] = size, size
	return func(point []int) []int { return slices.Insert(point, v, (point[v]-lo)/size) }
}

func (c change) expectFuse(q impl.Program) (impl.Program, renamed) {
	x := &q.Parts[c.part]
	count := len(x.Body)
	x.Body = append(x.Body, q.Parts[c.part+1].Body...)
	q.Parts = slices.Delete(q.Parts, c.part+1, c.part+2)
	return q, func(x impl.Instance) impl.Instance {
		if x.Part == c.part+1 {
			x.Stmt += count
		}
		if x.Part > c.part {
			x.Part--
		}
		return x
	}
}

func (c change) expectDistribute(q impl.Program) (impl.Program, renamed) {
	x := q.Parts[c.part]
	q.Parts = slices.Insert(q.Parts, c.part+1, impl.Part{Nest: x.Nest, Body: x.Body[c.a:]})
	q.Parts[c.part].Body = x.Body[:c.a]
	return q, func(x impl.Instance) impl.Instance {
		if x.Part == c.part && x.Stmt >= c.a {
			return impl.Instance{Part: x.Part + 1, Stmt: x.Stmt - c.a, Point: x.Point}
		}
		if x.Part > c.part {
			x.Part++
		}
		return x
	}
}

func (c change) expectSplit(q impl.Program) (impl.Program, renamed) {
	q.Parts = slices.Insert(q.Parts, c.part+1, copyProgram(q).Parts[c.part])
	q.Parts[c.part].Nest[0].Hi = side(c.a)
	q.Parts[c.part+1].Nest[0].Lo = side(c.a)
	return q, func(x impl.Instance) impl.Instance {
		if x.Part > c.part || x.Part == c.part && x.Point[0] >= c.a {
			x.Part++
		}
		return x
	}
}

// executedBefore compares two instances of one program by the order of their execution.
func executedBefore(x impl.Instance, y impl.Instance) int {
	return cmp.Or(cmp.Compare(x.Part, y.Part), slices.Compare(x.Point, y.Point), cmp.Compare(x.Stmt, y.Stmt))
}

// keepsDependences reports whether each instance still comes after those on which it depends.
func keepsDependences(p impl.Program, becomes renamed) bool {
	x := accessesOf(p)
	return !slices.ContainsFunc(x.deps(), func(d impl.Dep) bool {
		return executedBefore(becomes(x.instances[d.From]), becomes(x.instances[d.To])) >= 0
	})
}

// outcome is what a change of a program comes to.
type outcome int

const (
	succeeds outcome = iota
	// outOfPlace is a change whose conditions without dependences do not hold.
	outOfPlace
	// harmful is a change that breaks a dependence.
	harmful
	// tooLarge is a change whose result would not be valid.
	tooLarge
)

// check compares the result of a change of a valid program with the definition.
func (c change) check(t *testing.T, r *rand.Rand, p impl.Program) outcome {
	t.Helper()
	got, ok := c.call(p)
	result, want, becomes := c.judge(p)
	if ok != (result == succeeds) || !ok && !programIsZero(got) || ok && !impl.ProgramSame(got, want) {
		t.Errorf("%v of %q = %v, %v; %d, %v", c, impl.FormatProgram(p), got, ok, result, want)
		return result
	}
	if ok {
		c.checkInstances(t, p, got, becomes)
		checkEqualMemories(t, r, p, got)
	}
	return result
}

// judge returns the outcome of a change and, if it applies, the program that it leads to and what the instances become.
func (c change) judge(p impl.Program) (outcome, impl.Program, renamed) {
	if !c.applies(p) {
		return outOfPlace, impl.Program{}, nil
	}
	q, becomes := c.expected(p)
	if !keepsDependences(p, becomes) {
		return harmful, q, becomes
	}
	if !isProgram(q) {
		return tooLarge, q, becomes
	}
	return succeeds, q, becomes
}

// checkInstances checks that the instances of p become those of q, with the same cells.
func (c change) checkInstances(t *testing.T, p impl.Program, q impl.Program, becomes renamed) {
	t.Helper()
	before, after := impl.ProgramInstances(p), impl.ProgramInstances(q)
	var list []impl.Instance
	for _, x := range before {
		y := becomes(x)
		list = append(list, y)
		reads, write, _ := impl.InstanceCells(p, x)
		newReads, newWrite, ok := impl.InstanceCells(q, y)
		if !ok || !slices.Equal(reads, newReads) || write != newWrite {
			t.Errorf("%v of %q: %v becomes %v with the cells %v, %d, %v, not %v, %d", c, impl.FormatProgram(p), x, y, newReads, newWrite, ok, reads, write)
		}
	}
	slices.SortFunc(list, executedBefore)
	if !slices.EqualFunc(list, after, sameInstance) {
		t.Errorf("%v of %q: the instances are %v, not %v", c, impl.FormatProgram(p), after, list)
	}
}

// checkEqualMemories checks that two programs lead from a memory to the same memory.
func checkEqualMemories(t *testing.T, r *rand.Rand, p impl.Program, q impl.Program) {
	t.Helper()
	for _, m := range memoriesOf(r, impl.CountCells(p))[2:] {
		want, _ := impl.RunProgram(p, m)
		if got, ok := impl.RunProgram(q, m); !ok || !slices.Equal(got, want) {
			t.Errorf("%q leads from %v to %v, %v, and %q to %v", impl.FormatProgram(q), m, got, ok, impl.FormatProgram(p), want)
		}
	}
}

// nestedProgram returns a program whose parts have few points in up to four loops, and often the nest of the part before; it need not be valid.
func nestedProgram(r *rand.Rand) impl.Program {
	p := impl.Program{Arrays: []impl.Array{{Name: "A", Dims: []int{4}}, {Name: "B", Dims: []int{4, 4}}}}
	for n := range 1 + r.Intn(3) {
		x := impl.Part{Nest: fewPoints(r, r.Intn(12)/3+1)}
		if n > 0 && r.Intn(4) > 0 {
			x.Nest = copyNest(p.Parts[n-1].Nest)
		}
		x.Body = denseBody(r, p.Arrays, len(x.Nest))
		p.Parts = append(p.Parts, x)
	}
	randomLeaves(r, &p)
	return p
}

// fewPoints returns a nest with few iterations in each loop.
func fewPoints(r *rand.Rand, loops int) []impl.Loop {
	bound := func(v int, n int) impl.Affine {
		a := lin(n, 0, 0, 0, 0)
		if v > 0 && r.Intn(6) == 0 {
			a.Coefs[r.Intn(v)] = 1 - 2*r.Intn(2)
		}
		return a
	}
	var nest []impl.Loop
	for v := range loops {
		l := impl.Loop{Lo: []impl.Affine{bound(v, r.Intn(2))}, Hi: []impl.Affine{bound(v, 1+r.Intn(3))}}
		if r.Intn(9) == 0 {
			l.Lo = append(l.Lo, bound(v, 0))
			l.Hi = append(l.Hi, bound(v, 3))
		}
		nest = append(nest, l)
	}
	return nest
}

// randomChange returns a change with arguments that a program has, or with others.
func randomChange(r *rand.Rand, p impl.Program) change {
	c := change{changeNames()[r.Intn(8)], r.Intn(len(p.Parts)), r.Intn(3), 1 + r.Intn(4)}
	if r.Intn(5) == 0 {
		c.part, c.a, c.b = r.Intn(len(p.Parts)+2)-1, r.Intn(8)-2, r.Intn(19)-9
	}
	return c
}

// outcomes counts the outcomes for each transformation.
type outcomes map[string]*[4]int

func (o outcomes) add(c change, result outcome) {
	if o[c.name] == nil {
		o[c.name] = &[4]int{}
	}
	o[c.name][result]++
}

// TestRandomChanges compares changes of random programs, and changes of their results, with the definitions.
func TestRandomChanges(t *testing.T) {
	r := rand.New(rand.NewSource(10))
	counts := outcomes{}
	for n := range 5000 {
		p := nestedProgram(r)
		if n%5 == 0 {
			p = randomProgram(r)
			randomLeaves(r, &p)
		}
		if !impl.ProgramValid(p) || len(p.Parts) == 0 || len(impl.ProgramInstances(p)) > 40 {
			continue
		}
		for range 12 {
			c := randomChange(r, p)
			counts.add(c, c.check(t, r, p))
			if q, ok := c.call(p); ok {
				p = q
			}
		}
	}
	for _, name := range changeNames() {
		n := counts[name]
		harmless := slices.Contains([]string{"skew", "shift", "strip", "split"}, name)
		if n[succeeds] < 200 || n[outOfPlace] < 200 || harmless != (n[harmful] < 20) {
			t.Errorf("%s is tried with the outcomes %v", name, *n)
		}
	}
}

// TestAllArguments compares changes of some programs for all arguments near the limits with the definitions.
func TestAllArguments(t *testing.T) {
	r := rand.New(rand.NewSource(11))
	for _, lines := range validPrograms() {
		p := programOf(t, lines)
		for _, name := range changeNames() {
			for part := -1; part <= len(p.Parts); part++ {
				for a := -2; a <= 7; a++ {
					for b := -8; b <= 8; b++ {
						// Only three of the transformations have a second argument.
						if b == 0 || slices.Contains([]string{"skew", "shift", "strip"}, name) {
							change{name, part, a, b}.check(t, r, p)
						}
					}
				}
			}
		}
	}
}

// changeCase has the lines of a program, a change, and the lines of the result behind the arrays, which are empty if there is none.
type changeCase struct{ lines, change, want string }

func (c changeCase) check(t *testing.T, r *rand.Rand) {
	t.Helper()
	p := programOf(t, c.lines)
	arrays, _, _ := strings.Cut(c.lines, "part")
	want := ""
	if c.want != "" {
		want = programText(arrays + c.want)
	}
	if q, ok := changeOf(c.change).call(p); ok != (c.want != "") || impl.FormatProgram(q) != want && ok || !ok && !programIsZero(q) {
		t.Errorf("%s of %s = %q, %v, not %q", c.change, c.lines, impl.FormatProgram(q), ok, want)
	}
	changeOf(c.change).check(t, r, p)
}

func checkChanges(t *testing.T, cases []changeCase) {
	t.Helper()
	r := rand.New(rand.NewSource(12))
	for _, c := range cases {
		c.check(t, r)
	}
}

// Lines of a part in which the inner loops use the variables of the outer ones, behind those of its arrays.
const (
	cubeArrays = "array B 6 6/"
	cube       = "part/for 0 2/for 1 3/for i+j,j-1 2*i+j+3,5/B[i,j]={2*i-3*j+k}"
)

func TestInterchange(t *testing.T) {
	checkChanges(t, []changeCase{
		// The example of the chapter.
		{"array B 3 4/part/for 0 3/for 0 4/B[i,j]=1", "interchange 0 0", "part/for 0 4/for 0 3/B[j,i]=1"},
		// Inner loops whose bounds use the variables concerned, and those that don't.
		{cubeArrays + cube, "interchange 0 0", "part/for 1 3/for 0 2/for i+j,i-1 i+2*j+3,5/B[j,i]={-3*i+2*j+k}"},
		{cubeArrays + "part/for 0 2/for 1 3/for i+j 2*j/for i,j-k k+1,9*j/B[i,j]={2*i-k+l}", "interchange 0 0", "part/for 1 3/for 0 2/for i+j 2*i/for j,i-k k+1,9*i/B[j,i]={2*j-k+l}"},
		{cubeArrays + "part/for 0 2/for 1 3/for i j+1/for j 3/B[i+k,l]=1", "interchange 0 2", "part/for 0 2/for 1 3/for j 3/for i j+1/B[i+l,k]=1"},
		{cubeArrays + "part/for 0 2/for 0 2/for 0 2/B[2*i+j,k]=B[2*i+j,k]", "interchange 0 1", "part/for 0 2/for 0 2/for 0 2/B[2*i+k,j]=B[2*i+k,j]"},
		{cubeArrays + "part/for 0 2/for 0 i+1/for i 2/for j+k,k j-2*k+3/B[j,k]={i}", "interchange 0 1", "part/for 0 2/for i 2/for 0 i+1/for j+k,j -2*j+k+3/B[k,j]={i}"},
		{cubeArrays + "part/for 0 3/for i 3/for i 3/B[j,k]={i}", "interchange 0 1", "part/for 0 3/for i 3/for i 3/B[k,j]={i}"},
		{cubeArrays + "part/for 0 2/for 0 2/for i 2/B[j,k]={i}", "interchange 0 0", "part/for 0 2/for 0 2/for j 2/B[i,k]={j}"},
		{cubeArrays + "part/for 0,-1 2/for 0,0 1,9/for i 2/B[i,k]={j}", "interchange 0 0", "part/for 0,0 1,9/for 0,-1 2/for j 2/B[j,k]={i}"},
		// The next loop uses the variable, in any of its bounds.
		{cubeArrays + "part/for 0 3/for i 3/B[i,j]=1", "interchange 0 0", ""},
		{cubeArrays + "part/for 0 3/for 0 i+1/B[i,j]=1", "interchange 0 0", ""},
		{cubeArrays + "part/for 0 3/for 0,i-1 3/B[i,j]=1", "interchange 0 0", ""},
		{cubeArrays + "part/for 0 3/for 0 3,-i+4/B[i,j]=1", "interchange 0 0", ""},
		{cubeArrays + "part/for 0 1/for i 3/for j 3/B[j,k]={i}", "interchange 0 1", ""},
		{"part/for 0 0/for 0 i/A[i]=B[j]", "interchange 0 0", ""},
		// Each single distance, of each kind of dependences, and several of which only one is a hindrance.
		{"array B 4 5/part/for 0 3/for 1 4/B[i+1,j-1]=B[i,j]", "interchange 0 0", ""},
		{"array B 4 5/part/for 0 3/for 1 4/B[i,j]=B[i+1,j-1]", "interchange 0 0", ""},
		{"array B 4 5/part/for 0 3/for 1 4/B[i+1,j]=B[i,j]", "interchange 0 0", "part/for 1 4/for 0 3/B[j+1,i]=B[j,i]"},
		{"array B 4 5/part/for 0 3/for 1 4/B[i,j+1]=B[i,j]", "interchange 0 0", "part/for 1 4/for 0 3/B[j,i+1]=B[j,i]"},
		{"array B 4 5/part/for 0 3/for 1 4/B[i+1,j+1]=B[i,j]", "interchange 0 0", "part/for 1 4/for 0 3/B[j+1,i+1]=B[j,i]"},
		{"array B 4 5/part/for 0 3/for 1 4/B[i+1,j]=(B[i,j]-B[i,j+1])", "interchange 0 0", ""},
		{"array A 6/part/for 0 2/for 0 2/A[0]=1", "interchange 0 0", ""},
		{"array A 6/part/for 0 3/for 0 3/A[i]=(A[i]+{j})", "interchange 0 0", "part/for 0 3/for 0 3/A[j]=(A[j]+{i})"},
		{cubeArrays + "part/for 0 2/for 0 2/for i 2/B[i,j]=B[j,k]", "interchange 0 0", ""},
		// A hindrance in another part.
		{"array B 4 5/part/for 0 3/for 1 4/B[i+1,j-1]=B[i,j]/part/for 0 3/for 1 4/B[i,j]=1", "interchange 1 0", "part/for 0 3/for 1 4/B[i+1,j-1]=B[i,j]/part/for 1 4/for 0 3/B[j,i]=1"},
		{"array B 4 5/part/for 0 3/for 1 4/B[i+1,j-1]=B[i,j]/part/for 0 3/for 1 4/B[i,j]=1", "interchange 0 0", ""},
		// Distances that are zero for the loops concerned, and whose sign is decided by another loop.
		{"array A 6/part/for 0 2/for 0 2/for 0 2/A[2*i+j]=(A[2*i+j]+{k})", "interchange 0 0", "part/for 0 2/for 0 2/for 0 2/A[i+2*j]=(A[i+2*j]+{k})"},
		{"array B 4 5/part/for 0 2/for 0 3/for 1 4/B[j,k]={i}", "interchange 0 1", "part/for 0 2/for 1 4/for 0 3/B[k,j]={i}"},
		{cubeArrays + "part/for 0 2/for 0 2/for 0 2/B[i+1,2*j+k+1]=B[i,2*j+k]", "interchange 0 1", "part/for 0 2/for 0 2/for 0 2/B[i+1,j+2*k+1]=B[i,j+2*k]"},
		{cubeArrays + "part/for 0 2/for 0 2/for 0 2/B[i+1,2*j+k+1]=B[i,2*j+k]", "interchange 0 0", "part/for 0 2/for 0 2/for 0 2/B[j+1,2*i+k+1]=B[j,2*i+k]"},
		{cubeArrays + "part/for 0 2/for 0 2/for 1 3/B[i,j-k+2]=1", "interchange 0 1", "part/for 0 2/for 1 3/for 0 2/B[i,-j+k+2]=1"},
		{cubeArrays + "part/for 0 2/for 0 2/for 1 3/B[i,j+k]=1", "interchange 0 1", ""},
		{cubeArrays + "part/for 0 2/for 0 2/for 1 3/B[i+j+1,k-1]=B[i+j,k]", "interchange 0 0", ""},
		{"array A 6/part/for 0 3/for 0 2/for 1 3/A[i+1]=A[i]", "interchange 0 1", ""},
		// Statements at the same point that depend on each other.
		{"array B 3 4/array C 3 4/part/for 0 3/for 0 4/B[i,j]={i}/C[i,j]=B[i,j]/B[i,j]=(C[i,j]+1)", "interchange 0 0", "part/for 0 4/for 0 3/B[j,i]={j}/C[j,i]=B[j,i]/B[j,i]=(C[j,i]+1)"},
		// Parts without instances, and loops that do not exist.
		{"part/for 0 0/for 0 3/A[i]=B[j]", "interchange 0 0", "part/for 0 3/for 0 0/A[j]=B[i]"},
		{"array A 1/part/for 0 3/for 3 1/A[0]=1", "interchange 0 0", "part/for 3 1/for 0 3/A[0]=1"},
		{"array A 3/part/for 0 3/A[i]=1", "interchange 0 0", ""},
		{"array A 3/part/A[0]=1", "interchange 0 0", ""},
		{"array B 3 4/part/for 0 3/for 0 4/B[i,j]=1", "interchange 0 1", ""},
		{"array B 3 4/part/for 0 3/for 0 4/B[i,j]=1", "interchange 0 2", ""},
		{"array B 3 4/part/for 0 3/for 0 4/B[i,j]=1", "interchange 0 -1", ""},
		// There are more iterations if the loop with more of them is outside.
		{"array A 1/part/for 0 12/for 0 92/for 0 0/A[0]=1", "interchange 0 0", "part/for 0 92/for 0 12/for 0 0/A[0]=1"},
		{"array A 1/part/for 0 12/for 0 93/for 0 0/A[0]=1", "interchange 0 0", ""},
		{"array A 1/part/for 0 10/for 0 98/for 0 0/A[0]=1", "interchange 0 1", "part/for 0 10/for 0 0/for 0 98/A[0]=1"},
	})
}

func TestReverseLoop(t *testing.T) {
	checkChanges(t, []changeCase{
		{"array B 3 4/part/for 0 3/for 0 4/B[i,j]={2*i}", "reverse 0 0", "part/for 0 3/for 0 4/B[-i+2,j]={-2*i+4}"},
		{"array B 3 4/part/for 0 3/for 0 4/B[i,j]={2*i}", "reverse 0 1", "part/for 0 3/for 0 4/B[i,-j+3]={2*i}"},
		{"array A 3/part/for -2 1/A[i+2]={i}", "reverse 0 0", "part/for -2 1/A[-i]={-i-2}"},
		// Inner loops whose bounds use the variable, and bounds that are not constant or of which there are two.
		{"array B 6 6/part/for 1 4/for i 5/for -i+j i+j+1/B[i,j]={-2*i+k}", "reverse 0 0", "part/for 1 4/for -i+4 5/for i+j-4 -i+j+5/B[-i+4,j]={2*i+k-8}"},
		{"array B 6 6/part/for 1 4/for i 5/for -i+j i+j+1/B[i,j]={-2*i+k}", "reverse 0 1", ""},
		{"array B 6 6/part/for 1 4/for i 5/for -i+j i+j+1/B[i,j]={-2*i+k}", "reverse 0 2", ""},
		{cubeArrays + cube, "reverse 0 1", "part/for 0 2/for 1 3/for i-j+3,-j+2 2*i-j+6,5/B[i,-j+3]={2*i+3*j+k-9}"},
		{"array B 3 4/part/for 0 3/for i 3/B[i,j]=1", "reverse 0 1", ""},
		{"array B 3 4/part/for 0 3/for 0 i+1/B[i,j]=1", "reverse 0 1", ""},
		{"array A 3/part/for 0,0 3/A[i]=1", "reverse 0 0", ""},
		{"array A 3/part/for 0 3,3/A[i]=1", "reverse 0 0", ""},
		{"array A 3/part/for 0,0 3,3/A[i]=1", "reverse 0 0", ""},
		{"array B 3 4/part/for 0 3,5/for 0 4/B[i,j]=1", "reverse 0 1", "part/for 0 3,5/for 0 4/B[i,-j+3]=1"},
		// Distances, which may be zero for the loop or have a sign that is decided by an outer loop.
		{"array A 4/part/for 0 3/A[i+1]=A[i]", "reverse 0 0", ""},
		{"array A 4/part/for 0 3/A[i]=A[i+1]", "reverse 0 0", ""},
		{"array A 4/part/for 0 3/A[0]=1", "reverse 0 0", ""},
		{"array A 4/part/for 0 3/A[i]=A[i]", "reverse 0 0", "part/for 0 3/A[-i+2]=A[-i+2]"},
		{"array A 4/part/for 0 2/A[2*i]=A[2*i+1]", "reverse 0 0", "part/for 0 2/A[-2*i+2]=A[-2*i+3]"},
		{"array B 4 5/part/for 0 3/for 0 4/B[i+1,j]=B[i,j]", "reverse 0 0", ""},
		{"array B 4 5/part/for 0 3/for 0 4/B[i+1,j]=B[i,j]", "reverse 0 1", "part/for 0 3/for 0 4/B[i+1,-j+3]=B[i,-j+3]"},
		{"array B 4 5/part/for 0 3/for 0 4/B[i,j+1]=B[i,j]", "reverse 0 0", "part/for 0 3/for 0 4/B[-i+2,j+1]=B[-i+2,j]"},
		{"array B 4 5/part/for 0 3/for 0 4/B[i,j+1]=B[i,j]", "reverse 0 1", ""},
		{"array B 4 5/part/for 0 3/for 0 4/B[i+1,j+1]=B[i,j]", "reverse 0 1", "part/for 0 3/for 0 4/B[i+1,-j+4]=B[i,-j+3]"},
		{"array B 4 5/part/for 0 3/for 0 4/B[i+1,j+1]=B[i,j]", "reverse 0 0", ""},
		// Statements at the same point that depend on each other, and dependences between parts.
		{"array A 3/part/for 0 3/A[i]=1/A[i]=(A[i]+{i})", "reverse 0 0", "part/for 0 3/A[-i+2]=1/A[-i+2]=(A[-i+2]+{-i+2})"},
		{"array A 3/part/for 2 3/A[i]=(A[i]+A[0])", "reverse 0 0", "part/for 2 3/A[-i+4]=(A[-i+4]+A[0])"},
		{"array A 4/part/for 0 3/A[i]={i}/part/for 0 3/A[i]=A[i]/part/for 0 3/A[i+1]=A[i]", "reverse 1 0", "part/for 0 3/A[i]={i}/part/for 0 3/A[-i+2]=A[-i+2]/part/for 0 3/A[i+1]=A[i]"},
		{"array A 4/part/for 0 3/A[i]={i}/part/for 0 3/A[i]=A[i]/part/for 0 3/A[i+1]=A[i]", "reverse 2 0", ""},
		// Parts without instances, and loops that do not exist.
		{"part/for 3 1/A[i]=1", "reverse 0 0", "part/for 3 1/A[-i+3]=1"},
		{"part/for 0 0/A[i]=1", "reverse 0 0", "part/for 0 0/A[-i-1]=1"},
		{"array A 1/part/for 60 50/A[0]=1", "reverse 0 0", "part/for 60 50/A[0]=1"},
		{"array A 3/part/for 0 3/A[i]=1", "reverse 0 1", ""},
		{"array A 3/part/for 0 3/A[i]=1", "reverse 0 -1", ""},
		{"array A 3/part/A[0]=1", "reverse 0 0", ""},
		// Results at the limits and beyond them; the number that replaces a part of an expression is not a result.
		{"array A 2/part/for 49 51/A[i-49]={i}", "reverse 0 0", "part/for 49 51/A[-i+50]={-i+99}"},
		{"array A 2/part/for 50 51/A[i-50]={i}", "reverse 0 0", ""},
		{"array A 2/part/for 50 52/A[i-50]=1", "reverse 0 0", "part/for 50 52/A[-i+51]=1"},
		{"array A 2/part/for 0 2/A[i]={9*i+90}", "reverse 0 0", "part/for 0 2/A[-i+1]={-9*i+99}"},
		{"array A 2/part/for 0 2/A[i]={9*i+91}", "reverse 0 0", ""},
		{"array A 2/part/for 0 2/for i+98 99/A[i]={j}", "reverse 0 0", "part/for 0 2/for -i+99 99/A[-i+1]={j}"},
		{"array A 2/part/for 0 2/for i+99 99/A[i]={j}", "reverse 0 0", ""},
	})
}

func TestSkewLoop(t *testing.T) {
	checkChanges(t, []changeCase{
		{"array B 3 4/part/for 0 3/for 0 4/B[i,j]={j}", "skew 0 0 1", "part/for 0 3/for i i+4/B[i,-i+j]={-i+j}"},
		{"array B 3 4/part/for 0 3/for 0 4/B[i,j]={i}", "skew 0 0 -1", "part/for 0 3/for -i -i+4/B[i,i+j]={i}"},
		// Inner loops whose bounds use the variables concerned, and next loops with other bounds than constant ones.
		{cubeArrays + cube, "skew 0 0 1", "part/for 0 2/for i+1 i+3/for j,-i+j-1 i+j+3,5/B[i,-i+j]={5*i-3*j+k}"},
		{cubeArrays + cube, "skew 0 1 -2", "part/for 0 2/for 1 3/for i-j,-j-1 2*i-j+3,-2*j+5/B[i,j]={2*i-j+k}"},
		{cubeArrays + "part/for 0 2/for 0 2/for 0 2/for j-k k+1/B[i,j]={k-l}", "skew 0 1 1", "part/for 0 2/for 0 2/for j j+2/for 2*j-k -j+k+1/B[i,j]={-j+k-l}"},
		{cubeArrays + "part/for 0 2/for 0 2/for 0 2/for j-k k+1/B[i,j]={k-l}", "skew 0 2 2", "part/for 0 2/for 0 2/for 0 2/for j+k 3*k+1/B[i,j]={3*k-l}"},
		// All dependences are kept.
		{"array B 4 5/part/for 0 3/for 1 4/B[i+1,j-1]=B[i,j]/B[i,j]=B[i+1,j-1]", "skew 0 0 1", "part/for 0 3/for i+1 i+4/B[i+1,-i+j-1]=B[i,-i+j]/B[i,-i+j]=B[i+1,-i+j-1]"},
		// Other parts are kept.
		{"array B 3 4/part/for 0 3/for 0 4/B[i,j]=1/part/for 0 3/for 0 4/B[i,j]=2", "skew 1 0 1", "part/for 0 3/for 0 4/B[i,j]=1/part/for 0 3/for i i+4/B[i,-i+j]=2"},
		// The limits of the factor.
		{"array B 3 4/part/for 0 3/for 0 4/B[i,j]={j}", "skew 0 0 0", "part/for 0 3/for 0 4/B[i,j]={j}"},
		{"array B 3 4/part/for 0 3/for 0 4/B[i,j]={j}", "skew 0 0 6", "part/for 0 3/for 6*i 6*i+4/B[i,-6*i+j]={-6*i+j}"},
		{"array B 3 4/part/for 0 3/for 0 4/B[i,j]={j}", "skew 0 0 -6", "part/for 0 3/for -6*i -6*i+4/B[i,6*i+j]={6*i+j}"},
		{"array B 3 4/part/for 0 3/for 0 4/B[i,j]={j}", "skew 0 0 7", ""},
		{"array B 3 4/part/for 0 3/for 0 4/B[i,j]={j}", "skew 0 0 -7", ""},
		// Parts without instances, and loops that do not exist.
		{"part/for 0 0/for 0 3/A[i]=B[j]", "skew 0 0 1", "part/for 0 0/for i i+3/A[i]=B[-i+j]"},
		{"array B 3 4/part/for 0 3/for 0 4/B[i,j]=1", "skew 0 1 1", ""},
		{"array B 3 4/part/for 0 3/for 0 4/B[i,j]=1", "skew 0 2 1", ""},
		{"array B 3 4/part/for 0 3/for 0 4/B[i,j]=1", "skew 0 -1 1", ""},
		{"array A 3/part/for 0 3/A[i]=1", "skew 0 0 1", ""},
		{"array A 3/part/A[0]=1", "skew 0 0 1", ""},
		// Results at the limits and beyond them.
		{"array B 3 4/part/for 0 3/for 0 4/B[i,j]={3*i-6*j}", "skew 0 0 1", "part/for 0 3/for i i+4/B[i,-i+j]={9*i-6*j}"},
		{"array B 3 4/part/for 0 3/for 0 4/B[i,j]={4*i-6*j}", "skew 0 0 1", ""},
		{"array B 3 2/part/for 0 3/for 4*i 4*i+2/B[i,-4*i+j]=1", "skew 0 0 5", "part/for 0 3/for 9*i 9*i+2/B[i,-9*i+j]=1"},
		{"array B 3 2/part/for 0 3/for 4*i 4*i+2/B[i,-4*i+j]=1", "skew 0 0 6", ""},
		{"array A 1/part/for 0 3/for 4*i 4*i+2/A[0]=1", "skew 0 0 6", ""},
		{"array A 1/part/for 0 3/for 0 4*i+2/A[0]=1", "skew 0 0 6", ""},
		{"array A 1/part/for 0 2/for 0 2/for 5*i-4*j 3/A[0]=1", "skew 0 0 1", "part/for 0 2/for i i+2/for 9*i-4*j 3/A[0]=1"},
		{"array A 1/part/for 0 2/for 0 2/for 6*i-4*j 3/A[0]=1", "skew 0 0 1", ""},
		{"array A 1/part/" + farNest(9998, 9999) + "/A[0]=1", "skew 0 2 -1", "part/for 98 99/for 9*i+98 9*i+99/for 9*i+9*j+97 9*i+9*j+98/for 2*i+3 2*i+4/A[0]=1"},
		{"array A 1/part/" + farNest(9998, 9999) + "/A[0]=1", "skew 0 2 1", ""},
	})
}

func TestShiftLoop(t *testing.T) {
	checkChanges(t, []changeCase{
		{"array B 3 4/part/for 0 3/for 0 4/B[i,j]={2*i}", "shift 0 0 1", "part/for 1 4/for 0 4/B[i-1,j]={2*i-2}"},
		{"array B 3 4/part/for 0 3/for 0 4/B[i,j]={2*i}", "shift 0 1 -2", "part/for 0 3/for -2 2/B[i,j+2]={2*i}"},
		// Inner loops whose bounds use the variable, and loops with other bounds than constant ones.
		{cubeArrays + cube, "shift 0 0 2", "part/for 2 4/for 1 3/for i+j-2,j-1 2*i+j-1,5/B[i-2,j]={2*i-3*j+k-4}"},
		{cubeArrays + cube, "shift 0 1 -1", "part/for 0 2/for 0 2/for i+j+1,j 2*i+j+4,5/B[i,j+1]={2*i-3*j+k-3}"},
		{cubeArrays + cube, "shift 0 2 6", "part/for 0 2/for 1 3/for i+j+6,j+5 2*i+j+9,11/B[i,j]={2*i-3*j+k-6}"},
		{"array B 3 4/part/for 0,-1 3,9/for i 4/B[i,j]=1", "shift 0 0 1", "part/for 1,0 4,10/for i-1 4/B[i-1,j]=1"},
		// All dependences are kept, and so are other parts.
		{"array A 4/part/for 0 3/A[i+1]=A[i]/A[i]=A[i+1]", "shift 0 0 1", "part/for 1 4/A[i]=A[i-1]/A[i-1]=A[i]"},
		{"array A 4/part/for 0 3/A[i+1]=A[i]/part/for 0 3/A[i]=A[i+1]", "shift 1 0 1", "part/for 0 3/A[i+1]=A[i]/part/for 1 4/A[i-1]=A[i]"},
		// The limits of the distance.
		{"array A 4/part/for 0 3/A[i]={i}", "shift 0 0 0", "part/for 0 3/A[i]={i}"},
		{"array A 4/part/for 0 3/A[i]={i}", "shift 0 0 6", "part/for 6 9/A[i-6]={i-6}"},
		{"array A 4/part/for 0 3/A[i]={i}", "shift 0 0 -6", "part/for -6 -3/A[i+6]={i+6}"},
		{"array A 4/part/for 0 3/A[i]={i}", "shift 0 0 7", ""},
		{"array A 4/part/for 0 3/A[i]={i}", "shift 0 0 -7", ""},
		// Parts without instances, and loops that do not exist.
		{"part/for 0 0/A[i]=1", "shift 0 0 1", "part/for 1 1/A[i-1]=1"},
		{"array A 4/part/for 0 3/A[i]={i}", "shift 0 1 1", ""},
		{"array A 4/part/for 0 3/A[i]={i}", "shift 0 -1 1", ""},
		{"array A 4/part/A[0]=1", "shift 0 0 1", ""},
		{"array A 4/part/A[0]=1", "shift 0 0 0", ""},
		// Results at the limits and beyond them.
		{"array A 3/part/for 90 93/A[i-90]=1", "shift 0 0 6", "part/for 96 99/A[i-96]=1"},
		{"array A 3/part/for 91 94/A[i-91]=1", "shift 0 0 6", ""},
		{"array A 3/part/for -93 -90/A[i+93]=1", "shift 0 0 -6", "part/for -99 -96/A[i+99]=1"},
		{"array A 3/part/for -94 -91/A[i+94]=1", "shift 0 0 -6", ""},
		{"array A 3/part/for 0 3/A[i]={9*i+45}", "shift 0 0 -6", "part/for -6 -3/A[i+6]={9*i+99}"},
		{"array A 3/part/for 0 3/A[i]={9*i+46}", "shift 0 0 -6", ""},
		{"array A 3/part/for 0 3/for -3*i-81 -70/A[0]=1", "shift 0 0 -6", "part/for -6 -3/for -3*i-99 -70/A[0]=1"},
		{"array A 3/part/for 0 3/for -3*i-82 -70/A[0]=1", "shift 0 0 -6", ""},
		{"array A 1/part/" + farNest(9998, 9999) + "/A[0]=1", "shift 0 3 1", "part/" + farNest(9999, 10000) + "/A[0]=1"},
		{"array A 1/part/" + farNest(9998, 9999) + "/A[0]=1", "shift 0 3 2", ""},
		{"array A 1/part/" + farNest(-9998, -9997) + "/A[0]=1", "shift 0 3 -1", "part/" + farNest(-9999, -9998) + "/A[0]=1"},
		{"array A 1/part/" + farNest(-9998, -9997) + "/A[0]=1", "shift 0 3 -2", ""},
	})
}

func TestStripMine(t *testing.T) {
	checkChanges(t, []changeCase{
		// Strips that are full, and that are not.
		{"array A 6/part/for 0 6/A[i]={i}", "strip 0 0 3", "part/for 0 2/for 0,3*i 6,3*i+3/A[j]={j}"},
		{"array A 6/part/for 0 6/A[i]={i}", "strip 0 0 4", "part/for 0 2/for 0,4*i 6,4*i+4/A[j]={j}"},
		{"array A 6/part/for 0 6/A[i]={i}", "strip 0 0 5", "part/for 0 2/for 0,5*i 6,5*i+5/A[j]={j}"},
		{"array A 6/part/for 0 3/A[i]={i}", "strip 0 0 6", "part/for 0 1/for 0,6*i 3,6*i+6/A[j]={j}"},
		{"array A 6/part/for 2 5/A[i]=1", "strip 0 0 2", "part/for 0 2/for 2,2*i+2 5,2*i+4/A[j]=1"},
		{"array A 6/part/for -3 2/A[i+3]=1", "strip 0 0 2", "part/for 0 3/for -3,2*i-3 2,2*i-1/A[j+3]=1"},
		{"array A 6/part/for -2 1/A[i+2]=1", "strip 0 0 2", "part/for 0 2/for -2,2*i-2 1,2*i/A[j+2]=1"},
		{"array B 4 5/array C 4/part/for 0 4/for 0 4/C[i]=(C[i]+B[i,j])", "strip 0 1 3", "part/for 0 4/for 0 2/for 0,3*j 4,3*j+3/C[i]=(C[i]+B[i,k])"},
		// Inner loops whose bounds use the variable, and bounds that are not constant or of which there are two.
		{cubeArrays + cube, "strip 0 0 2", "part/for 0 1/for 0,2*i 2,2*i+2/for 1 3/for j+k,k-1 2*j+k+3,5/B[j,k]={2*j-3*k+l}"},
		{cubeArrays + cube, "strip 0 1 1", "part/for 0 2/for 0 2/for 1,j+1 3,j+2/for i+k,k-1 2*i+k+3,5/B[i,k]={2*i-3*k+l}"},
		{cubeArrays + cube, "strip 0 2 2", ""},
		{"array B 3 4/part/for 0 3/for i 3/B[i,j]=1", "strip 0 1 2", ""},
		{"array B 3 4/part/for 0 3/for 0 i+1/B[i,j]=1", "strip 0 1 2", ""},
		{"array A 3/part/for 0,0 3/A[i]=1", "strip 0 0 2", ""},
		{"array A 3/part/for 0 3,3/A[i]=1", "strip 0 0 2", ""},
		{"array B 3 4/part/for 0,0 3/for 0 4/B[i,j]=1", "strip 0 1 2", "part/for 0,0 3/for 0 2/for 0,2*j 4,2*j+2/B[i,k]=1"},
		// All dependences are kept, and so are other parts.
		{"array A 4/part/for 0 3/A[i+1]=A[i]/A[i]=A[i+1]", "strip 0 0 2", "part/for 0 2/for 0,2*i 3,2*i+2/A[j+1]=A[j]/A[j]=A[j+1]"},
		{"array A 4/part/for 0 3/A[i+1]=A[i]/part/for 0 3/A[i]=A[i+1]", "strip 1 0 2", "part/for 0 3/A[i+1]=A[i]/part/for 0 2/for 0,2*i 3,2*i+2/A[j]=A[j+1]"},
		// The limits of the size and of the number of loops.
		{"array A 6/part/for 0 6/A[i]={i}", "strip 0 0 1", "part/for 0 6/for 0,i 6,i+1/A[j]={j}"},
		{"array A 6/part/for 0 6/A[i]={i}", "strip 0 0 6", "part/for 0 1/for 0,6*i 6,6*i+6/A[j]={j}"},
		{"array A 6/part/for 0 6/A[i]={i}", "strip 0 0 0", ""},
		{"array A 6/part/for 0 6/A[i]={i}", "strip 0 0 -1", ""},
		{"array A 6/part/for 0 6/A[i]={i}", "strip 0 0 7", ""},
		{"array A 1/part/for 0 1/for 0 1/for 0 1/A[i]=A[k]", "strip 0 2 1", "part/for 0 1/for 0 1/for 0 1/for 0,k 1,k+1/A[i]=A[l]"},
		{"array A 1/part/for 0 1/for 0 1/for 0 1/for 0 1/A[i]=A[k]", "strip 0 0 1", ""},
		{"array A 1/part/for 0 1/for 0 1/for 0 1/for 0 1/A[i]=A[k]", "strip 0 3 1", ""},
		// Loops without iterations, and loops that do not exist.
		{"part/for 3 1/A[i]=1", "strip 0 0 2", "part/for 0 0/for 3,2*i+3 1,2*i+5/A[j]=1"},
		{"part/for 2 2/A[i]=1", "strip 0 0 2", "part/for 0 0/for 2,2*i+2 2,2*i+4/A[j]=1"},
		{"part/for 20 -20/A[i]=1", "strip 0 0 1", "part/for 0 0/for 20,i+20 -20,i+21/A[j]=1"},
		{"array A 3/part/for 0 3/for 0 0/A[i]=1", "strip 0 0 2", "part/for 0 2/for 0,2*i 3,2*i+2/for 0 0/A[j]=1"},
		{"array A 3/part/for 0 3/A[i]=1", "strip 0 1 2", ""},
		{"array A 3/part/for 0 3/A[i]=1", "strip 0 -1 2", ""},
		{"array A 3/part/A[0]=1", "strip 0 0 2", ""},
		// Results at the limits and beyond them: constants, numbers of strips, and iterations.
		{"array A 3/part/for 93 96/A[i-93]=1", "strip 0 0 6", "part/for 0 1/for 93,6*i+93 96,6*i+99/A[j-93]=1"},
		{"array A 3/part/for 94 97/A[i-94]=1", "strip 0 0 6", ""},
		{"array A 1/part/for -49 50/A[0]={i}", "strip 0 0 1", "part/for 0 99/for -49,i-49 50,i-48/A[0]={j}"},
		{"array A 1/part/for -50 50/A[0]={i}", "strip 0 0 1", ""},
		{"array A 1/part/for 0 11/for 0 99/for 0 0/A[0]=1", "strip 0 0 6", "part/for 0 2/for 0,6*i 11,6*i+6/for 0 99/for 0 0/A[0]=1"},
		{"array A 1/part/for 0 11/for 0 99/for 0 0/A[0]=1", "strip 0 1 6", ""},
	})
}

func TestFuseParts(t *testing.T) {
	checkChanges(t, []changeCase{
		{"array A 4/array B 4 4/part/for 0 4/A[i]={i}/part/for 0 4/B[0,i]=A[i]", "fuse 0", "part/for 0 4/A[i]={i}/B[0,i]=A[i]"},
		{"array A 2/part/A[0]=1/part/A[0]=(A[0]+1)", "fuse 0", "part/A[0]=1/A[0]=(A[0]+1)"},
		{cubeArrays + "array D 6 6/" + cube + "/" + strings.ReplaceAll(cube, "B", "D"), "fuse 0", cube + "/D[i,j]={2*i-3*j+k}"},
		{cubeArrays + cube + "/" + cube, "fuse 0", ""},
		// Each kind of dependences, on a point before the own one and on one after it.
		{"array A 6/array C 6/part/for 1 5/A[i]=1/part/for 1 5/C[i]=A[i-1]", "fuse 0", "part/for 1 5/A[i]=1/C[i]=A[i-1]"},
		{"array A 6/array C 6/part/for 1 5/A[i]=1/part/for 1 5/C[i]=A[i+1]", "fuse 0", ""},
		{"array A 6/array C 6/part/for 1 5/C[i]=A[i+1]/part/for 1 5/A[i]=1", "fuse 0", "part/for 1 5/C[i]=A[i+1]/A[i]=1"},
		{"array A 6/array C 6/part/for 1 5/C[i]=A[i-1]/part/for 1 5/A[i]=1", "fuse 0", ""},
		{"array A 6/array C 6/part/for 1 5/A[i+1]=1/part/for 1 5/A[i]=2", "fuse 0", "part/for 1 5/A[i+1]=1/A[i]=2"},
		{"array A 6/array C 6/part/for 1 5/A[i]=1/part/for 1 5/A[i+1]=2", "fuse 0", ""},
		// Several loops, and dependences of which only one is a hindrance.
		{"array B 2 3/array C 2 3/part/for 0 2/for 0 3/B[i,j]=1/part/for 0 2/for 0 3/C[i,j]=B[i,-j+2]", "fuse 0", ""},
		{"array B 2 3/array C 2 3/part/for 0 2/for 0 3/B[i,j]=1/part/for 0 2/for 0 3/C[i,j]=B[0,j]", "fuse 0", "part/for 0 2/for 0 3/B[i,j]=1/C[i,j]=B[0,j]"},
		{"array B 2 3/array C 2 3/part/for 0 2/for 0 3/B[i,j]=1/part/for 0 2/for 0 3/C[i,j]=B[1,j]", "fuse 0", ""},
		{"array B 3 3/array C 2 2/part/for 1 3/for 0 2/B[i,j]=1/part/for 1 3/for 0 2/C[i-1,j]=B[i-1,j+1]", "fuse 0", "part/for 1 3/for 0 2/B[i,j]=1/C[i-1,j]=B[i-1,j+1]"},
		{"array A 6/array C 6/part/for 1 5/A[i]=1/C[i]=2/part/for 1 5/C[i]=3/A[i]=C[i+1]", "fuse 0", ""},
		// Statements at the same point that depend on each other, and dependences within one of the parts.
		{"array A 6/part/for 0 5/A[i]=1/A[i]=(A[i]+1)/part/for 0 5/A[i]=(A[i]*A[i])", "fuse 0", "part/for 0 5/A[i]=1/A[i]=(A[i]+1)/A[i]=(A[i]*A[i])"},
		{"array A 6/array C 6/part/for 0 5/A[i]=A[i+1]/part/for 0 5/C[i]=C[i+1]/C[i+1]=C[i]", "fuse 0", "part/for 0 5/A[i]=A[i+1]/C[i]=C[i+1]/C[i+1]=C[i]"},
		// Nests that are not equal, although they have equal points.
		{"array A 6/array C 6/part/for 0 5/A[i]=1/part/for 0 4/C[i]=1", "fuse 0", ""},
		{"array A 6/array C 6/part/for 0 5/A[i]=1/part/for 1 5/C[i]=1", "fuse 0", ""},
		{"array A 6/array C 6/part/for 0 5/A[i]=1/part/for 0 5/for 0 1/C[i]=1", "fuse 0", ""},
		{"array A 6/array C 6/part/for 0 5/A[i]=1/part/for 0,0 5/C[i]=1", "fuse 0", ""},
		{"array A 6/array C 6/part/for 0,1 5/A[i]=1/part/for 1,0 5/C[i]=1", "fuse 0", ""},
		{"array A 6/array C 6/part/for 0 5,6/A[i]=1/part/for 0 6,5/C[i]=1", "fuse 0", ""},
		{"array A 6/array C 6/part/for 0 5/A[i]=1/part/C[0]=1", "fuse 0", ""},
		{"array A 6/array C 6/part/for 0 0/A[i]=1/part/for 1 1/C[i]=1", "fuse 0", ""},
		// Parts without instances.
		{"part/for 0 0/A[i]=1/part/for 0 0/A[i+1]=A[i]", "fuse 0", "part/for 0 0/A[i]=1/A[i+1]=A[i]"},
		// A third part, which may be a hindrance to the other fusion.
		{"array A 6/array C 6/part/for 0 5/A[i]=1/part/for 0 5/C[i]=2/part/for 0 5/C[i]=A[i+1]", "fuse 0", "part/for 0 5/A[i]=1/C[i]=2/part/for 0 5/C[i]=A[i+1]"},
		{"array A 6/array C 6/part/for 0 5/A[i]=1/part/for 0 5/C[i]=2/part/for 0 5/C[i]=A[i+1]", "fuse 1", "part/for 0 5/A[i]=1/part/for 0 5/C[i]=2/C[i]=A[i+1]"},
		{"array A 6/array C 6/part/for 0 5/A[i]=1/part/for 0 5/C[i]=A[i+1]/part/for 0 5/C[i]=2", "fuse 0", ""},
		{"array A 6/array C 6/part/for 0 5/A[i]=1/part/for 0 5/C[i]=A[i+1]/part/for 0 5/C[i]=2", "fuse 1", "part/for 0 5/A[i]=1/part/for 0 5/C[i]=A[i+1]/C[i]=2"},
		// The next part does not exist.
		{"array A 6/part/for 0 5/A[i]=1/part/for 0 5/A[i]=2", "fuse 1", ""},
		{"array A 6/part/for 0 5/A[i]=1", "fuse 0", ""},
		{"array A 6/part/for 0 5/A[i]=1/part/for 0 5/A[i]=2", "fuse -1", ""},
		// The greatest number of statements.
		{"array A 6/part/A[0]=1/A[1]=2/part/A[2]=3/A[3]=4", "fuse 0", "part/A[0]=1/A[1]=2/A[2]=3/A[3]=4"},
		{"array A 6/part/A[0]=1/A[1]=2/A[2]=3/part/A[3]=4/A[4]=5", "fuse 0", ""},
		{"array A 6/part/A[0]=1/part/A[1]=2/A[2]=3/A[3]=4/A[4]=5", "fuse 0", ""},
	})
}

func TestDistributePart(t *testing.T) {
	checkChanges(t, []changeCase{
		{"array A 6/array C 6/part/for 0 5/A[i]={i}/C[i]=A[i]", "distribute 0 1", "part/for 0 5/A[i]={i}/part/for 0 5/C[i]=A[i]"},
		{"array A 6/part/A[0]=1/A[1]=A[0]/A[0]=A[1]", "distribute 0 1", "part/A[0]=1/part/A[1]=A[0]/A[0]=A[1]"},
		{"array A 6/part/A[0]=1/A[1]=A[0]/A[0]=A[1]", "distribute 0 2", "part/A[0]=1/A[1]=A[0]/part/A[0]=A[1]"},
		{cubeArrays + "array D 6 6/" + cube + "/D[j,i]={k}", "distribute 0 1", cube + "/" + strings.Replace(cube, "B[i,j]={2*i-3*j+k}", "D[j,i]={k}", 1)},
		{cubeArrays + "array D 6 6/" + cube + "/D[j,i]=B[i,j]", "distribute 0 1", ""},
		// Each kind of dependences: a statement that would come too late, and one that would not.
		{"array A 6/array C 6/part/for 0 5/A[i]=C[i]/C[i+1]=1", "distribute 0 1", ""},
		{"array A 6/array C 6/part/for 0 5/A[i+1]=1/C[i]=A[i]", "distribute 0 1", "part/for 0 5/A[i+1]=1/part/for 0 5/C[i]=A[i]"},
		{"array A 6/array C 6/part/for 0 5/A[i]=1/C[i]=A[i+1]", "distribute 0 1", ""},
		{"array A 6/array C 6/part/for 0 5/A[i]=C[i+1]/C[i]=1", "distribute 0 1", "part/for 0 5/A[i]=C[i+1]/part/for 0 5/C[i]=1"},
		{"array A 6/array C 6/part/for 0 5/A[i]=1/A[i+1]=2", "distribute 0 1", ""},
		{"array A 6/array C 6/part/for 0 5/A[i+1]=1/A[i]=2", "distribute 0 1", "part/for 0 5/A[i+1]=1/part/for 0 5/A[i]=2"},
		{"array A 6/part/for 0 5/A[0]=1/A[0]=2", "distribute 0 1", ""},
		// A statement that is among the first ones, or not, and dependences within one of the parts.
		{"array A 6/array C 6/part/for 0 5/A[i]=1/A[i+1]=2/C[i]=A[0]", "distribute 0 1", ""},
		{"array A 6/array C 6/part/for 0 5/A[i]=1/A[i+1]=2/C[i]=A[0]", "distribute 0 2", "part/for 0 5/A[i]=1/A[i+1]=2/part/for 0 5/C[i]=A[0]"},
		{"array A 6/array C 6/part/for 0 5/C[i]=A[i]/A[i]=1/A[i+1]=2", "distribute 0 2", ""},
		{"array A 6/array C 6/part/for 0 5/C[i]=7/A[i]=1/A[i+1]=2", "distribute 0 1", "part/for 0 5/C[i]=7/part/for 0 5/A[i]=1/A[i+1]=2"},
		{"array A 6/array C 6/part/for 0 5/A[i+1]=A[i]/C[i]=1", "distribute 0 1", "part/for 0 5/A[i+1]=A[i]/part/for 0 5/C[i]=1"},
		{"array A 6/array C 6/part/for 0 5/A[i]=1/C[i+1]=C[i]", "distribute 0 1", "part/for 0 5/A[i]=1/part/for 0 5/C[i+1]=C[i]"},
		// Dependences between parts.
		{"array A 6/array C 6/part/for 0 5/C[i]=1/part/for 0 5/A[i]=C[i]/C[i]=1/part/for 0 5/A[i]=1", "distribute 1 1", "part/for 0 5/C[i]=1/part/for 0 5/A[i]=C[i]/part/for 0 5/C[i]=1/part/for 0 5/A[i]=1"},
		{"array A 6/array C 6/part/for 0 5/A[i]=1/A[i+1]=1/part/for 0 5/A[i]=C[i]/C[i]=1", "distribute 1 1", "part/for 0 5/A[i]=1/A[i+1]=1/part/for 0 5/A[i]=C[i]/part/for 0 5/C[i]=1"},
		{"array A 6/array C 6/part/for 0 5/A[i]=1/A[i+1]=1/part/for 0 5/A[i]=C[i]/C[i]=1", "distribute 0 1", ""},
		// The limits of the number of statements.
		{"array A 6/part/A[0]=1/A[1]=A[0]/A[0]=A[1]", "distribute 0 0", ""},
		{"array A 6/part/A[0]=1/A[1]=A[0]/A[0]=A[1]", "distribute 0 3", ""},
		{"array A 6/part/A[0]=1/A[1]=A[0]/A[0]=A[1]", "distribute 0 4", ""},
		{"array A 6/part/A[0]=1/A[1]=A[0]/A[0]=A[1]", "distribute 0 -1", ""},
		{"array A 6/part/A[0]=1", "distribute 0 1", ""},
		{"array A 6/part/A[0]=1", "distribute 0 0", ""},
		{"array A 1/part/A[0]=1/A[0]=2/A[0]=3/A[0]=4", "distribute 0 3", "part/A[0]=1/A[0]=2/A[0]=3/part/A[0]=4"},
		// Parts without instances, and the greatest number of parts.
		{"part/for 0 0/A[i]=1/A[i+1]=2", "distribute 0 1", "part/for 0 0/A[i]=1/part/for 0 0/A[i+1]=2"},
		{"array A 1/part/A[0]=1/A[0]=2/part/A[0]=3/part/A[0]=4", "distribute 0 1", "part/A[0]=1/part/A[0]=2/part/A[0]=3/part/A[0]=4"},
		{"array A 1/part/A[0]=1/A[0]=2/part/A[0]=3/part/A[0]=4/part/A[0]=5", "distribute 0 1", ""},
	})
}

func TestSplitLoop(t *testing.T) {
	checkChanges(t, []changeCase{
		{"array B 3 4/part/for 0 3/for 0 4/B[i,j]={2*i}", "split 0 2", "part/for 0 2/for 0 4/B[i,j]={2*i}/part/for 2 3/for 0 4/B[i,j]={2*i}"},
		{cubeArrays + cube, "split 0 1", "part/for 0 1" + cube[len("part/for 0 2"):] + "/part/for 1 2" + cube[len("part/for 0 2"):]},
		{"array A 6/part/for -3 2/A[i+3]={i}/A[0]=1", "split 0 -1", "part/for -3 -1/A[i+3]={i}/A[0]=1/part/for -1 2/A[i+3]={i}/A[0]=1"},
		// Splits at the first and at the last value, and beyond them.
		{"array A 3/part/for 0 3/A[i]=1", "split 0 0", "part/for 0 0/A[i]=1/part/for 0 3/A[i]=1"},
		{"array A 3/part/for 0 3/A[i]=1", "split 0 3", "part/for 0 3/A[i]=1/part/for 3 3/A[i]=1"},
		{"array A 3/part/for 0 3/A[i]=1", "split 0 -1", ""},
		{"array A 3/part/for 0 3/A[i]=1", "split 0 4", ""},
		{"array A 1/part/for 0 3/A[0]=1", "split 0 -1", ""},
		{"array A 1/part/for 0 3/A[0]=1", "split 0 4", ""},
		{"array A 3/part/for -99 99/for 0 0/A[i]=1", "split 0 -99", "part/for -99 -99/for 0 0/A[i]=1/part/for -99 99/for 0 0/A[i]=1"},
		{"array A 3/part/for -99 99/for 0 0/A[i]=1", "split 0 99", "part/for -99 99/for 0 0/A[i]=1/part/for 99 99/for 0 0/A[i]=1"},
		{"array A 3/part/for -99 99/for 0 0/A[i]=1", "split 0 -100", ""},
		{"array A 3/part/for -99 99/for 0 0/A[i]=1", "split 0 100", ""},
		// Bounds of which there are two, and inner loops with such bounds.
		{"array A 3/part/for 0,0 3/A[i]=1", "split 0 1", ""},
		{"array A 3/part/for 0 3,3/A[i]=1", "split 0 1", ""},
		{"array B 3 4/part/for 0 3/for i,0 4,i+2/B[i,j]=1", "split 0 1", "part/for 0 1/for i,0 4,i+2/B[i,j]=1/part/for 1 3/for i,0 4,i+2/B[i,j]=1"},
		// All dependences are kept, and so are other parts.
		{"array A 4/part/for 0 3/A[i+1]=A[i]/A[i]=A[i+1]", "split 0 1", "part/for 0 1/A[i+1]=A[i]/A[i]=A[i+1]/part/for 1 3/A[i+1]=A[i]/A[i]=A[i+1]"},
		{"array A 4/part/for 0 3/A[i]=1/part/for 0 3/A[i]=2/part/A[0]=3", "split 1 2", "part/for 0 3/A[i]=1/part/for 0 2/A[i]=2/part/for 2 3/A[i]=2/part/A[0]=3"},
		// Parts without instances or loops, and the greatest number of parts.
		{"part/for 2 2/A[i]=1", "split 0 2", "part/for 2 2/A[i]=1/part/for 2 2/A[i]=1"},
		{"part/for 2 2/A[i]=1", "split 0 1", ""},
		{"part/for 2 2/A[i]=1", "split 0 3", ""},
		{"part/for 3 1/A[i]=1", "split 0 1", ""},
		{"part/for 3 1/A[i]=1", "split 0 2", ""},
		{"part/for 3 1/A[i]=1", "split 0 3", ""},
		{"array A 1/part/A[0]=1", "split 0 0", ""},
		{"array A 1/part/A[0]=1/part/A[0]=1/part/for 0 1/A[i]=1", "split 2 0", "part/A[0]=1/part/A[0]=1/part/for 0 0/A[i]=1/part/for 0 1/A[i]=1"},
		{"array A 1/part/A[0]=1/part/A[0]=1/part/A[0]=1/part/for 0 1/A[i]=1", "split 3 0", ""},
	})
}

// checkNothing checks that a change leads to no program.
func checkNothing(t *testing.T, what string, c change, p impl.Program) {
	t.Helper()
	if q, ok := c.call(p); ok || !programIsZero(q) {
		t.Errorf("%v of %s = %v, %v", c, what, q, ok)
	}
}

func TestChangesOfInvalidPrograms(t *testing.T) {
	for n, p := range brokenPrograms(t) {
		for _, name := range changeNames() {
			for part := range 3 {
				for a := range 2 {
					checkNothing(t, fmt.Sprint("the invalid program ", n), change{name, part, a, 1}, p)
				}
			}
		}
	}
}

// TestMissingPartsAndLoops checks parts and loops that do not exist, and numbers far beyond the limits.
func TestMissingPartsAndLoops(t *testing.T) {
	r := rand.New(rand.NewSource(13))
	far := []int{math.MinInt, math.MinInt + 1, -4, -1, 0, 1, 2, 3, 4, math.MaxInt - 1, math.MaxInt}
	for _, lines := range []string{"", "array A 3", "array B 3 4/part/for 0 3/for 0 4/B[i,j]=1/B[i,j]=2/part/for 0 3/for 0 4/B[i,j]=3", "array A 1/part/A[0]=1/A[0]=2/part/A[0]=3"} {
		p := programOf(t, lines)
		for _, name := range changeNames() {
			for _, part := range far {
				for _, a := range far {
					for _, b := range far {
						c := change{name, part, a, b}
						if c.check(t, r, p) == succeeds && (part < 0 || part > 1) {
							t.Errorf("%v of %s returns true", c, lines)
						}
					}
				}
			}
		}
	}
}

// TestChangesBack checks that some changes are undone by others.
func TestChangesBack(t *testing.T) {
	for _, c := range []struct{ lines, there, back string }{
		{cubeArrays + cube, "interchange 0 0", "interchange 0 0"},
		{cubeArrays + cube, "reverse 0 0", "reverse 0 0"},
		{cubeArrays + cube, "reverse 0 1", "reverse 0 1"},
		{cubeArrays + cube, "skew 0 0 1", "skew 0 0 -1"},
		{cubeArrays + cube, "skew 0 1 -2", "skew 0 1 2"},
		{cubeArrays + cube, "shift 0 0 6", "shift 0 0 -6"},
		{cubeArrays + cube, "shift 0 2 -6", "shift 0 2 6"},
		{"array A 6/array C 6/part/for 0 5/A[i+1]=A[i]/part/for 0 5/C[i]=A[i]", "fuse 0", "distribute 0 1"},
		{"array A 6/array C 6/part/for 0 5/A[i+1]=A[i]/C[i]=A[i]/part/for 0 5/C[i]=A[i]", "distribute 0 1", "fuse 0"},
	} {
		p := programOf(t, c.lines)
		q, ok := changeOf(c.there).call(p)
		back, okBack := changeOf(c.back).call(q)
		if !ok || !okBack || impl.ProgramSame(p, q) || !impl.ProgramSame(p, back) {
			t.Errorf("%s of %s = %q, %v, and %s of it = %q, %v", c.there, c.lines, impl.FormatProgram(q), ok, c.back, impl.FormatProgram(back), okBack)
		}
	}
}

// memoryLines are the lines of a program for which there is a change of each kind, which follow.
const memoryLines = "array A 6/array B 6 6/part/for 0 2/for 1 4/B[i,j]=(B[i,j]*{2*i})/A[i]=4/part/for 0 2/for 1 4/B[i+3,j]=B[i,j]"

func memoryChanges() []string {
	return []string{"interchange 0 0", "reverse 0 0", "skew 0 0 1", "skew 0 0 0", "shift 0 0 1", "shift 0 1 0", "strip 0 1 2", "fuse 0", "distribute 0 1", "split 0 1"}
}

// TestChangesMemory checks that results are in memory of their own, and do not depend on earlier calls.
func TestChangesMemory(t *testing.T) {
	for _, text := range memoryChanges() {
		c := changeOf(text)
		p := programOf(t, memoryLines)
		q, ok := c.call(p)
		again, okAgain := c.call(p)
		if !ok || !okAgain || !impl.ProgramSame(q, again) {
			t.Errorf("%s = %v, %v, and then %v, %v", text, q, ok, again, okAgain)
		}
		checkOwnPrograms(t, text, []*impl.Program{&p, &q, &again})
	}
}

// addSpares puts other elements behind those of the lists of a program, in which each part must have a loop, and returns a function that gives the text of all of them.
func addSpares(p *impl.Program) func() string {
	p.Arrays = append(p.Arrays, impl.Array{Name: "X", Dims: []int{9}})[:len(p.Arrays)]
	p.Arrays[0].Dims = append(p.Arrays[0].Dims, 9)[:len(p.Arrays[0].Dims)]
	p.Parts = append(p.Parts, impl.Part{Nest: []impl.Loop{{Lo: side(9)}}})[:len(p.Parts)]
	for n := range p.Parts {
		x := &p.Parts[n]
		x.Nest = append(x.Nest, impl.Loop{Lo: side(9)})[:len(x.Nest)]
		x.Body = append(x.Body, assign(numExpr(9)))[:len(x.Body)]
		x.Nest[0].Lo = append(x.Nest[0].Lo, lin(9))[:1]
		x.Nest[0].Lo[0].Coefs = append(x.Nest[0].Lo[0].Coefs, 9)[:4]
	}
	return func() string {
		list := fmt.Sprint(*p, p.Arrays[:len(p.Arrays)+1], p.Arrays[0].Dims[:len(p.Arrays[0].Dims)+1], p.Parts[:len(p.Parts)+1])
		for _, x := range p.Parts {
			list += fmt.Sprint(x.Nest[:len(x.Nest)+1], x.Body[:len(x.Body)+1], x.Nest[0].Lo[:2], x.Nest[0].Lo[0].Coefs[:5])
		}
		return list
	}
}

// TestChangesArguments checks that no function changes an argument or the memory behind it.
func TestChangesArguments(t *testing.T) {
	for _, text := range memoryChanges() {
		p := programOf(t, memoryLines)
		whole := addSpares(&p)
		kept := whole()
		if _, ok := changeOf(text).call(p); !ok || whole() != kept {
			t.Errorf("%s changes its argument from %s to %s, or returns %v", text, kept, whole(), ok)
		}
	}
}
