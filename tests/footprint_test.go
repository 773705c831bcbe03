package tests

import (
	"fmt"
	"math"
	"math/rand"
	"slices"
	"strings"
	"testing"

	"loop.example/loopnests/impl"
)

// touched returns the cells that a part reads and those that it writes, by trying all of them.
func (x accesses) touched(part int) ([]int, []int) {
	var reads, writes []int
	for cell := range len(x.cells) {
		isRead, isWritten := false, false
		for n, i := range x.instances {
			isRead = isRead || i.Part == part && slices.Contains(x.read[n], cell)
			isWritten = isWritten || i.Part == part && x.written[n] == cell
		}
		if isRead {
			reads = append(reads, cell)
		}
		if isWritten {
			writes = append(writes, cell)
		}
	}
	return reads, writes
}

// independent reports whether two numbers are those of different parts of a program, between whose instances there are no dependences.
func (x accesses) independent(a int, b int) bool {
	count := len(x.program.Parts)
	if a == b || a < 0 || b < 0 || a >= count || b >= count {
		return false
	}
	between := func(d impl.Dep) bool {
		from, to := x.instances[d.From].Part, x.instances[d.To].Part
		return from == min(a, b) && to == max(a, b)
	}
	return !slices.ContainsFunc(x.deps(), between)
}

// isLive reports whether a part has a live instance.
func (x accesses) isLive(part int) bool {
	return slices.ContainsFunc(x.live(), func(n int) bool { return x.instances[n].Part == part })
}

// shrunk returns a program with the least dimensions of an array with which it is valid, by trying all of them.
func shrunk(p impl.Program, array int) impl.Program {
	q := copyProgram(p)
	for k := range q.Arrays[array].Dims {
		d := &q.Arrays[array].Dims[k]
		for *d = 1; !isProgram(q); *d++ {
		}
	}
	return q
}

// footprintSeen counts the answers, so that the tests show that they have tried all kinds of programs.
type footprintSeen struct{ swaps, drops, shrinks tally }

// checkFootprints compares what the functions return for a valid program with the definitions, also for parts that it does not have.
func checkFootprints(t *testing.T, r *rand.Rand, p impl.Program, s *footprintSeen) {
	t.Helper()
	x := accessesOf(p)
	for a := -1; a <= len(p.Parts)+1; a++ {
		reads, writes := x.touched(a)
		if got, also := impl.PartReads(p, a), impl.PartWrites(p, a); !slices.Equal(got, reads) || !slices.Equal(also, writes) {
			t.Errorf("the part %d of %q reads %v and writes %v, not %v and %v", a, impl.FormatProgram(p), got, also, reads, writes)
		}
		for b := -1; b <= len(p.Parts)+1; b++ {
			if got := impl.PartsIndependent(p, a, b); got != x.independent(a, b) {
				t.Errorf("PartsIndependent(%q, %d, %d) = %v", impl.FormatProgram(p), a, b, got)
			}
		}
		checkSwap(t, r, x, a, s)
		checkDrop(t, r, x, a, s)
	}
	for _, name := range []string{"A", "B", "C", "D", "", "E", "a", "AB"} {
		checkShrink(t, r, p, name, s)
	}
}

// checkSwap checks that independent parts are exchanged, which leads to the same memory, and that others are not.
func checkSwap(t *testing.T, r *rand.Rand, x accesses, part int, s *footprintSeen) {
	t.Helper()
	p := x.program
	var want impl.Program
	independent := x.independent(part, part+1)
	if independent {
		want = copyProgram(p)
		want.Parts[part], want.Parts[part+1] = want.Parts[part+1], want.Parts[part]
	}
	got, ok := impl.SwapParts(p, part)
	if ok != independent || !impl.ProgramSame(got, want) {
		t.Errorf("SwapParts(%q, %d) = %q, %v", impl.FormatProgram(p), part, impl.FormatProgram(got), ok)
	}
	if part >= 0 && part+1 < len(p.Parts) {
		s.swaps.add(ok)
	}
	if ok {
		checkEqualMemories(t, r, p, got)
	}
}

// checkDrop checks that a part without live instances is left out, which leads to the same memory, and that others are not.
func checkDrop(t *testing.T, r *rand.Rand, x accesses, part int, s *footprintSeen) {
	t.Helper()
	p := x.program
	var want impl.Program
	exists := part >= 0 && part < len(p.Parts)
	if exists && !x.isLive(part) {
		want = copyProgram(p)
		want.Parts = slices.Delete(want.Parts, part, part+1)
	}
	got, ok := impl.DropPart(p, part)
	if ok != (exists && !x.isLive(part)) || !impl.ProgramSame(got, want) {
		t.Errorf("DropPart(%q, %d) = %q, %v", impl.FormatProgram(p), part, impl.FormatProgram(got), ok)
	}
	if exists {
		s.drops.add(ok)
	}
	if ok {
		checkEqualMemories(t, r, p, got)
	}
}

// checkShrink checks that an array gets the least dimensions, with which the elements that remain get the same values.
func checkShrink(t *testing.T, r *rand.Rand, p impl.Program, name string, s *footprintSeen) {
	t.Helper()
	got, ok := impl.ShrinkArray(p, name)
	n := slices.IndexFunc(p.Arrays, func(a impl.Array) bool { return a.Name == name })
	if n < 0 {
		if ok || !programIsZero(got) {
			t.Errorf("ShrinkArray(%q, %q) = %v, %v", impl.FormatProgram(p), name, got, ok)
		}
		return
	}
	if want := shrunk(p, n); !ok || !impl.ProgramSame(got, want) {
		t.Errorf("ShrinkArray(%q, %q) = %q, %v, not %q", impl.FormatProgram(p), name, impl.FormatProgram(got), ok, impl.FormatProgram(want))
		return
	}
	s.shrinks.add(!impl.ProgramSame(got, p))
	checkRemaining(t, r, p, got)
}

// checkRemaining checks that the elements of a program with smaller arrays get the values that they have in another one.
func checkRemaining(t *testing.T, r *rand.Rand, p impl.Program, small impl.Program) {
	t.Helper()
	before, after := cellNumbers(p.Arrays), cellNumbers(small.Arrays)
	kept := func(m []int) []int {
		rest := make([]int, len(after))
		for name, n := range after {
			rest[n] = m[before[name]]
		}
		return rest
	}
	for _, m := range memoriesOf(r, len(before))[3:] {
		want, _ := impl.RunProgram(p, m)
		if got, ok := impl.RunProgram(small, kept(m)); !ok || !slices.Equal(got, kept(want)) {
			t.Errorf("%q leads to %v, %v, and %q to %v", impl.FormatProgram(small), got, ok, impl.FormatProgram(p), kept(want))
		}
	}
}

func TestFootprints(t *testing.T) {
	r := rand.New(rand.NewSource(18))
	for _, lines := range validPrograms() {
		checkFootprints(t, r, programOf(t, lines), &footprintSeen{})
	}
}

// TestRandomFootprints checks random programs, and thus that independent parts can be exchanged and parts without live instances dropped.
func TestRandomFootprints(t *testing.T) {
	r := rand.New(rand.NewSource(19))
	var s footprintSeen
	for n := range 2400 {
		p := denseProgram(r)
		switch n % 4 {
		case 1:
			p = spreadProgram(r)
		case 2, 3:
			p = randomProgram(r)
			randomLeaves(r, &p)
		}
		if isProgram(p) && len(p.Parts) > 0 && len(instancesOf(p)) <= 40 {
			checkFootprints(t, r, p, &s)
		}
	}
	s.swaps.check(t, 50)
	s.drops.check(t, 50)
	s.shrinks.check(t, 50)
}

// TestSwapsAndDropsInTurn checks that many exchanges and removals one after the other lead to the memory of the first program.
func TestSwapsAndDropsInTurn(t *testing.T) {
	r := rand.New(rand.NewSource(20))
	changed := 0
	for range 2400 {
		p := denseProgram(r)
		if !isProgram(p) {
			continue
		}
		q := p
		for range 8 {
			part := r.Intn(len(q.Parts) + 1)
			next, ok := impl.SwapParts(q, part)
			if r.Intn(2) == 0 {
				next, ok = impl.DropPart(q, part)
			}
			if ok {
				q = next
			}
		}
		if !impl.ProgramSame(p, q) {
			changed++
		}
		checkEqualMemories(t, r, p, q)
	}
	if changed < 50 {
		t.Errorf("only %d programs are changed", changed)
	}
}

// allArrays are the lines of the arrays with the most cells.
const allArrays = "array A 6 6/array B 6 6/array C 6 6/array D 6 6/"

func TestPartReadsAndWrites(t *testing.T) {
	for _, c := range []struct {
		lines         string
		part          int
		reads, writes string
	}{
		{"array A 6/part/for 0 3/A[i+1]=A[i]", 0, "[0 1 2]", "[1 2 3]"},
		// No reads, cells that are read more than once, and cells that are read in another order.
		{"array A 6/part/for 0 3/A[-i+5]=1", 0, "[]", "[3 4 5]"}, {"array A 6/part/A[2]=((A[2]*A[1])*A[2])", 0, "[1 2]", "[2]"}, {"array A 6/part/A[0]=((A[5]+A[3])-A[4])", 0, "[3 4 5]", "[0]"},
		{"array A 6/part/for 0 5/A[0]=A[-i+4]", 0, "[0 1 2 3 4]", "[0]"}, {"array A 6/part/for 0 5/A[3]=A[3]", 0, "[3]", "[3]"},
		// Several statements, arrays, subscripts and loops; an index is no read.
		{"array A 2/array B 2 3/part/for 0 2/A[i]=B[i,2]/B[i,1]=A[0]", 0, "[0 4 7]", "[0 1 3 6]"}, {"array B 2 3/part/for 0 2/for i 2/B[j,i+1]=(B[i,j]-{i+j})", 0, "[0 1 4]", "[1 4 5]"},
		{"array A 4/part/for -3 1/A[-i]=A[0]", 0, "[0]", "[0 1 2 3]"},
		// Other parts do not matter.
		{between, 0, "[]", "[0 1]"}, {between, 1, "[]", "[0 1 2]"}, {between, 2, "[]", "[0 1]"}, {"array A 6/part/A[0]=A[1]/part/A[2]=A[3]", 1, "[3]", "[2]"},
		// Parts without instances, whose accesses need not denote elements.
		{vacant, 1, "[]", "[]"}, {"array A 3/part/for 0 0/A[0]=A[1]", 0, "[]", "[]"}, {"array A 3/part/for 0 3/for i 0/D[9,9]=C[-5]", 0, "[]", "[]"}, {"array A 3/part/for 1 1/A[0]=A[1]/part/A[1]=A[2]", 1, "[2]", "[1]"},
		// The first cells, the last ones, and those in the middle.
		{allArrays + "part/A[0,0]=(D[5,5]+(B[4,3]+B[4,4]))", 0, "[63 64 143]", "[0]"}, {allArrays + "part/D[5,5]=(D[3,1]+D[3,2])/B[4,3]=1/B[4,4]=2", 0, "[127 128]", "[63 64 143]"},
		// Parts that do not exist.
		{"array A 6/part/A[0]=A[1]", -1, "[]", "[]"}, {"array A 6/part/A[0]=A[1]", 1, "[]", "[]"}, {"array A 6/part/A[0]=A[1]", math.MaxInt, "[]", "[]"}, {"array A 6/part/A[0]=A[1]", math.MinInt, "[]", "[]"}, {"array A 6", 0, "[]", "[]"}, {"", 0, "[]", "[]"},
	} {
		p := programOf(t, c.lines)
		if reads, writes := fmt.Sprint(impl.PartReads(p, c.part)), fmt.Sprint(impl.PartWrites(p, c.part)); reads != c.reads || writes != c.writes {
			t.Errorf("the part %d of %s reads %s and writes %s, not %s and %s", c.part, c.lines, reads, writes, c.reads, c.writes)
		}
	}
}

// TestAllCells checks a part that reads as many cells as there can be in two arrays, and writes as many in the others.
func TestAllCells(t *testing.T) {
	p := programOf(t, allArrays+"part/for 0 6/for 0 6/A[i,j]=B[i,j]/C[i,j]=D[i,j]")
	all := upTo(144)
	if got := impl.PartReads(p, 0); !slices.Equal(got, slices.Concat(all[36:72], all[108:])) {
		t.Errorf("PartReads = %v", got)
	}
	if got := impl.PartWrites(p, 0); !slices.Equal(got, slices.Concat(all[:36], all[72:108])) {
		t.Errorf("PartWrites = %v", got)
	}
}

// cellAccess returns an access to a cell of allArrays.
func cellAccess(cell int) impl.Access {
	n := cell % 36
	return access("ABCD"[cell/36:cell/36+1], lin(n/6, 0, 0, 0, 0), lin(n%6, 0, 0, 0, 0))
}

// TestIndependenceOfEachCell checks for each cell that it makes two parts dependent if one of them writes it, and that other cells do not.
func TestIndependenceOfEachCell(t *testing.T) {
	arrays := looseProgram(t, strings.TrimSuffix(allArrays, "/")).Arrays
	for cell := range 144 {
		for _, distance := range []int{0, 1, 16, 32, 64, 80} {
			other := (cell + distance) % 144
			write := impl.Stmt{Write: cellAccess(cell), Value: numExpr(1)}
			writeOther := impl.Stmt{Write: cellAccess(other), Value: numExpr(2)}
			// The part also writes a cell that is neither of the two.
			readOther := impl.Stmt{Write: cellAccess((cell + 100) % 144), Value: impl.Expr{Kind: impl.ExprRead, Read: cellAccess(other)}}
			for _, s := range []impl.Stmt{writeOther, readOther} {
				p := impl.Program{Arrays: arrays, Parts: []impl.Part{{Body: []impl.Stmt{write}}, {Body: []impl.Stmt{s}}}}
				if got, back := impl.PartsIndependent(p, 0, 1), impl.PartsIndependent(p, 1, 0); got != (distance > 0) || back != got {
					t.Errorf("PartsIndependent(%q) = %v, %v", impl.FormatProgram(p), got, back)
				}
			}
		}
	}
}

func TestPartsIndependent(t *testing.T) {
	for _, c := range []struct {
		lines string
		a, b  int
		want  bool
	}{
		// One part writes what the other one reads, both write the same cell, or both only read it.
		{"array A 6/part/A[0]=1/part/A[1]=A[0]", 0, 1, false}, {"array A 6/part/A[1]=A[0]/part/A[0]=1", 0, 1, false}, {"array A 6/part/A[0]=1/part/A[0]=2", 0, 1, false}, {"array A 6/part/A[1]=A[0]/part/A[2]=A[0]", 0, 1, true},
		{"array A 6/part/A[1]=A[0]/part/A[0]=A[1]", 0, 1, false}, {"array A 6/part/A[1]=A[1]/part/A[0]=A[0]", 0, 1, true}, {"array A 6/part/A[0]=1/part/A[0]=1", 0, 1, false},
		// Only some of the instances matter.
		{"array A 6/part/for 0 3/A[i]=1/part/for 2 6/A[i]=2", 0, 1, false}, {"array A 6/part/for 0 3/A[i]=1/part/for 3 6/A[i]=2", 0, 1, true}, {"array A 6/part/for 0 3/A[i]=1/part/for 3 6/A[i]=A[5]", 0, 1, true},
		{"array A 6/part/for 0 3/A[i]=1/part/for 3 6/A[i]=A[2]", 0, 1, false}, {"array A 6/part/for 0 3/A[2*i]=A[2*i]/part/for 0 3/A[2*i+1]=A[2*i+1]", 0, 1, true}, {"array A 6/part/for 0 3/A[2*i]=A[2*i]/part/for 0 3/A[2*i+1]=A[2*i]", 0, 1, false},
		// Elements of different arrays with equal subscripts.
		{"array A 6/array C 6/part/for 0 6/A[i]=1/part/for 0 6/C[i]=2", 0, 1, true},
		// Statements of one part that depend on each other.
		{"array A 6/part/A[0]=A[1]/A[1]=A[0]/part/A[2]=1", 0, 1, true}, {"array A 6/part/A[0]=A[1]/A[1]=A[0]/part/A[1]=1", 0, 1, false},
		// Parts that are not neighbours, in both orders; a part between them depends on both.
		{"array A 6/part/A[0]=1/part/A[1]=A[0]/part/A[2]=A[1]", 0, 2, true}, {"array A 6/part/A[0]=1/part/A[1]=A[0]/part/A[2]=A[1]", 2, 0, true}, {"array A 6/part/A[0]=1/part/A[1]=A[0]/part/A[2]=A[1]", 2, 1, false},
		{"array A 6/part/A[0]=1/part/A[3]=4/part/A[0]=A[1]", 2, 0, false}, {"array A 6/part/A[0]=1/part/A[3]=4/part/A[0]=A[1]", 1, 0, true},
		// Parts without instances.
		{vacant, 0, 1, true}, {vacant, 1, 2, true}, {vacant, 2, 1, true}, {"array A 1/part/for 0 0/A[0]=1/part/for 0 0/A[0]=1", 0, 1, true}, {"array A 1/part/for 0 0/A[0]=1/part/A[0]=A[0]", 0, 1, true},
		{"array A 1/part/for 0 0/D[9,9]=C[-5]/part/A[0]=A[0]", 1, 0, true},
		// The same part, with and without instances.
		{"array A 6/part/A[0]=1", 0, 0, false}, {vacant, 1, 1, false}, {vacant, 2, 2, false},
		// Parts that do not exist.
		{vacant, 0, 3, false}, {vacant, 3, 0, false}, {vacant, -1, 1, false}, {vacant, 1, -1, false}, {vacant, -1, 3, false}, {vacant, 1, math.MaxInt, false}, {vacant, math.MinInt, 1, false}, {"", 0, 1, false}, {"", -1, 0, false}, {"array A 6", 0, 1, false},
	} {
		p := programOf(t, c.lines)
		if got := impl.PartsIndependent(p, c.a, c.b); got != c.want {
			t.Errorf("PartsIndependent(%s, %d, %d) = %v", c.lines, c.a, c.b, got)
		}
	}
}

// lifting is a call that returns a program, or none.
type lifting func(p impl.Program, part int) (impl.Program, bool)

// liftingCase has the lines of a program, a part, and the lines of the parts of the result, which are empty if there is no result.
type liftingCase struct {
	lines string
	part  int
	want  string
}

// none is in the place of the lines of a result without parts.
const none = "none"

// check compares the result of a call, whose arrays are those of the program.
func (c liftingCase) check(t *testing.T, call lifting) {
	t.Helper()
	p := programOf(t, c.lines)
	var want impl.Program
	if c.want != "" {
		arrays, _, _ := strings.Cut(c.lines, "/part")
		want = programOf(t, strings.TrimSuffix(arrays+"/"+c.want, "/"+none))
	}
	if got, ok := call(p, c.part); ok != (c.want != "") || !impl.ProgramSame(got, want) || !ok && !programIsZero(got) {
		t.Errorf("%s, %d: %q, %v", c.lines, c.part, impl.FormatProgram(got), ok)
	}
}

func TestSwapParts(t *testing.T) {
	for _, c := range []liftingCase{
		{"array A 6/part/A[0]=1/part/A[1]=2", 0, "part/A[1]=2/part/A[0]=1"},
		{"array A 6/array B 2 2/part/for 0 3/A[i]={i}/A[5]=A[i]/part/for 0 2/for i 2/B[i,j]=(B[j,i]-4)", 0, "part/for 0 2/for i 2/B[i,j]=(B[j,i]-4)/part/for 0 3/A[i]={i}/A[5]=A[i]"},
		// The first, the middle and the last two parts.
		{"array A 6/part/A[0]=1/part/A[1]=2/part/A[2]=3/part/A[3]=4", 0, "part/A[1]=2/part/A[0]=1/part/A[2]=3/part/A[3]=4"}, {"array A 6/part/A[0]=1/part/A[1]=2/part/A[2]=3/part/A[3]=4", 1, "part/A[0]=1/part/A[2]=3/part/A[1]=2/part/A[3]=4"},
		{"array A 6/part/A[0]=1/part/A[1]=2/part/A[2]=3/part/A[3]=4", 2, "part/A[0]=1/part/A[1]=2/part/A[3]=4/part/A[2]=3"}, {"array A 6/part/A[0]=1/part/A[1]=2/part/A[2]=3/part/A[3]=4", 3, ""},
		// Other parts may depend on both.
		{"array A 6/part/A[0]=1/part/A[1]=A[0]/part/A[2]=A[0]/part/A[3]=(A[1]+A[2])", 1, "part/A[0]=1/part/A[2]=A[0]/part/A[1]=A[0]/part/A[3]=(A[1]+A[2])"}, {"array A 6/part/A[0]=1/part/A[1]=A[0]/part/A[2]=A[0]/part/A[3]=(A[1]+A[2])", 0, ""},
		{"array A 6/part/A[0]=1/part/A[1]=A[0]/part/A[2]=A[0]/part/A[3]=(A[1]+A[2])", 2, ""},
		// Each kind of dependence.
		{"array A 6/part/A[0]=1/part/A[1]=A[0]", 0, ""}, {"array A 6/part/A[1]=A[0]/part/A[0]=1", 0, ""}, {"array A 6/part/A[0]=1/part/A[0]=2", 0, ""}, {"array A 6/part/A[1]=A[0]/part/A[2]=A[0]", 0, "part/A[2]=A[0]/part/A[1]=A[0]"},
		// Even if the memory would be the same, dependent parts are not exchanged.
		{"array A 6/part/A[0]=1/part/A[0]=1", 0, ""}, {"array A 6/part/A[0]=A[0]/part/A[0]=A[0]", 0, ""}, {"array A 6/part/A[0]=1/part/A[0]=2/part/A[0]=3", 0, ""},
		// Parts without instances.
		{vacant, 0, "part/for 0 0/for 0 3/A[i]=1/part/A[0]=1/part/A[1]=2"}, {vacant, 1, "part/A[0]=1/part/A[1]=2/part/for 0 0/for 0 3/A[i]=1"}, {vacant, 2, ""},
		{"array A 1/part/for 0 0/D[9,9]=C[-5]/part/A[0]=A[0]", 0, "part/A[0]=A[0]/part/for 0 0/D[9,9]=C[-5]"}, {"array A 1/part/for 0 0/A[0]=1/part/for 1 1/A[0]=1", 0, "part/for 1 1/A[0]=1/part/for 0 0/A[0]=1"},
		// As many instances as there can be.
		{"array A 6/part/for 0 60/A[0]=(A[0]+{i})/part/for 0 60/A[1]=(A[1]*{i})", 0, "part/for 0 60/A[1]=(A[1]*{i})/part/for 0 60/A[0]=(A[0]+{i})"},
		// Parts that do not exist.
		{vacant, -1, ""}, {vacant, 3, ""}, {vacant, math.MaxInt, ""}, {vacant, math.MinInt, ""}, {vacant, math.MaxInt - 1, ""}, {"array A 6/part/A[0]=1", 0, ""}, {"array A 6/part/A[0]=1", -1, ""}, {"array A 6", 0, ""}, {"array A 6", -1, ""},
	} {
		c.check(t, impl.SwapParts)
	}
}

func TestDropPart(t *testing.T) {
	for _, c := range []liftingCase{
		// The example of the chapter.
		{"array A 6/part/for 0 6/A[i]={2*i}/part/for 0 6/A[i]=3", 0, "part/for 0 6/A[i]=3"}, {"array A 6/part/for 0 6/A[i]={2*i}/part/for 0 6/A[i]=3", 1, ""},
		// The values are read by a live instance, or only by one that is not live.
		{"array A 6/part/for 0 6/A[i]={2*i}/part/for 0 6/A[i]=A[i]", 0, ""}, {"array A 6/part/A[0]=1/part/A[1]=A[0]/part/A[0]=2", 0, ""}, {"array A 6/part/A[0]=1/part/A[1]=A[0]/part/A[0]=2/A[1]=2", 0, "part/A[1]=A[0]/part/A[0]=2/A[1]=2"},
		{"array A 6/part/A[0]=1/part/A[1]=A[0]/part/A[0]=2/A[1]=2", 1, "part/A[0]=1/part/A[0]=2/A[1]=2"}, {"array A 6/part/A[0]=1/part/A[1]=A[0]/part/A[0]=2/A[1]=2", 2, ""}, {"array A 6/part/A[0]=(A[0]+1)/part/A[0]=7", 0, "part/A[0]=7"},
		{"array A 6/part/for 0 5/A[i+1]=(A[i]+1)/part/for 0 6/A[i]=7", 0, "part/for 0 6/A[i]=7"}, {"array A 6/part/for 0 5/A[i+1]=(A[i]+1)/part/for 0 5/A[i]=7", 0, ""},
		// One instance is live, the first, the last or one in the middle.
		{"array A 6/part/for 0 6/A[i]=1/part/for 1 6/A[i]=3", 0, ""}, {"array A 6/part/for 0 6/A[i]=1/part/for 0 5/A[i]=3", 0, ""}, {"array A 6/part/for 0 6/A[i]=1/part/for 0 3/A[i]=3/A[i+3]=A[4]", 0, ""}, {"array A 6/part/for 0 6/A[i]=1/part/for 0 3/A[i]=3/A[i+3]=A[0]", 0, "part/for 0 3/A[i]=3/A[i+3]=A[0]"},
		// Several parts overwrite the values.
		{"array A 6/part/for 0 6/A[i]=1/part/for 0 2/A[i]=3/part/for 4 6/A[i]=3/part/A[3]=A[0]/A[2]=1", 0, "part/for 0 2/A[i]=3/part/for 4 6/A[i]=3/part/A[3]=A[0]/A[2]=1"},
		// A part in the middle; the values before it are overwritten by it, or by another part.
		{"array A 6/part/A[0]=1/part/A[0]=2/part/A[0]=3", 1, "part/A[0]=1/part/A[0]=3"}, {"array A 6/part/A[0]=1/part/A[0]=2/part/A[0]=3", 0, "part/A[0]=2/part/A[0]=3"}, {"array A 6/part/A[0]=1/part/A[0]=2/part/A[0]=3", 2, ""},
		// An instance that changes nothing is live if it is the last one to write its cell.
		{"array A 6/part/A[0]=A[0]", 0, ""}, {"array A 6/part/A[0]=1/part/A[0]=1", 1, ""}, {"array A 6/part/A[0]=1/part/A[0]=1", 0, "part/A[0]=1"}, {"array A 6/part/A[0]=1/part/A[1]=(A[0]*0)", 0, ""},
		// Parts without instances.
		{vacant, 1, "part/A[0]=1/part/A[1]=2"}, {vacant, 0, ""}, {vacant, 2, ""}, {"array A 1/part/for 0 0/A[0]=1", 0, none}, {"array A 1/part/for 0 0/D[9,9]=C[-5]/part/A[0]=1", 0, "part/A[0]=1"}, {"array A 1/part/for 0 0/A[0]=1/part/for 1 1/A[0]=2", 1, "part/for 0 0/A[0]=1"},
		// As many instances as there can be.
		{"array A 1/part/for -60 59/A[0]=(A[0]+{i})/part/A[0]=1", 0, "part/A[0]=1"}, {"array A 1/part/for -60 59/A[0]=(A[0]+{i})/part/A[0]=(A[0]+1)", 0, ""},
		// Parts that do not exist.
		{vacant, -1, ""}, {vacant, 3, ""}, {vacant, math.MaxInt, ""}, {vacant, math.MinInt, ""}, {"array A 1/part/for 0 0/A[0]=1", 1, ""}, {"array A 1/part/for 0 0/A[0]=1", -1, ""}, {"array A 6", 0, ""}, {"array A 6", -1, ""},
	} {
		c.check(t, impl.DropPart)
	}
}

func TestShrinkArray(t *testing.T) {
	for _, c := range []struct{ lines, name, dims string }{
		{"array B 4 5/part/B[0,0]=B[2,3]", "B", "3 4"}, {"array A 6/part/for 0 3/A[i]=1", "A", "3"}, {"array A 6/part/for 0 3/A[0]=A[i+1]", "A", "4"}, {"array A 6/part/for 0 3/A[-i+4]=1", "A", "5"},
		// A subscript without variables.
		{"array A 6/part/for 0 3/A[2]={i}", "A", "3"}, {"array A 6/part/A[0]=1", "A", "1"}, {"array A 6/part/A[5]=1", "A", "6"}, {"array B 4 5/part/for 0 4/B[i,2]=B[i,1]", "B", "4 3"}, {"array B 4 5/part/for 0 4/B[2,i]=B[1,i]", "B", "3 4"},
		// The greatest values belong to different accesses, statements, parts and points.
		{"array B 4 5/part/B[3,0]=B[0,4]", "B", "4 5"}, {"array B 4 5/part/B[2,1]=(B[0,3]+B[1,0])", "B", "3 4"}, {"array B 4 5/part/B[0,0]=1/B[0,2]=1/B[1,0]=1", "B", "2 3"}, {"array B 4 5/part/B[0,3]=1/part/B[2,0]=1/part/B[1,1]=1", "B", "3 4"},
		{"array B 4 5/part/for 0 3/for i 3/B[-i+2,-j+2]=1", "B", "3 3"}, {"array B 6 6/part/for 0 3/for 0 -i+3/B[i+j,i]=1", "B", "3 3"}, {"array B 6 6/part/for 0 4/for 2 -i+5/B[i,j]=1", "B", "3 5"},
		{"array A 6/part/for -2 1/A[-i]=1", "A", "3"}, {"array A 6/part/for -2 1/A[-2*i]=1", "A", "5"},
		// An array that is never accessed, or only by parts without instances, also in another way than others could.
		{"array A 6", "A", "1"}, {"array B 6 6", "B", "1 1"}, {"array A 6/array C 6/part/for 0 6/C[i]=1", "A", "1"}, {"array A 6/part/for 0 0/A[5]=A[4]", "A", "1"}, {"array B 4 5/part/for 2 1/B[3,4]=1", "B", "1 1"}, {"array B 4 5/part/for 0 0/B[3]=B[i]", "B", "1 1"},
		{"array A 6/part/for 0 0/A[5,5]=1/part/A[1]=A[0]", "A", "2"}, {"array A 6/part/for 0 0/A[99]=A[-99]/part/A[1]=A[0]", "A", "2"}, {"array A 6/part/for 0 3/for i 0/A[5]=1/part/for 0 3/A[i]=1", "A", "3"},
		// Accesses to other arrays do not matter.
		{"array A 6/array C 6/part/A[1]=C[4]", "A", "2"}, {"array A 6/array C 6/part/A[1]=C[4]", "C", "5"}, {"array A 6/array B 4 5/part/A[5]=B[2,1]", "B", "3 2"}, {"array A 6/array B 4 5/array D 3/part/A[5]=B[2,1]", "D", "1"},
		// An index is no access.
		{"array A 6/part/for 0 6/A[0]={i}", "A", "1"},
		// The dimensions are already the least ones.
		{"array A 6/part/for 0 6/A[i]=1", "A", "6"}, {"array A 1/part/A[0]=1", "A", "1"}, {"array A 1", "A", "1"}, {"array B 6 6/part/for 0 6/for 0 6/B[i,j]=1", "B", "6 6"}, {"array B 1 1/part/B[0,0]=B[0,0]", "B", "1 1"},
	} {
		checkDims(t, c.lines, c.name, c.dims)
	}
}

// checkDims checks that an array gets the given dimensions, and that nothing else changes.
func checkDims(t *testing.T, lines string, name string, dims string) {
	t.Helper()
	p := programOf(t, lines)
	var want []string
	for line := range strings.SplitSeq(lines, "/") {
		if strings.HasPrefix(line, "array "+name) {
			line = "array " + name + " " + dims
		}
		want = append(want, line)
	}
	got, ok := impl.ShrinkArray(p, name)
	if !ok || !impl.ProgramSame(got, programOf(t, strings.Join(want, "/"))) {
		t.Errorf("ShrinkArray(%s, %s) = %q, %v", lines, name, impl.FormatProgram(got), ok)
	}
}

// TestMissingArrays checks names that a program does not have.
func TestMissingArrays(t *testing.T) {
	for _, lines := range []string{"", "part/for 0 0/A[0]=1", "array B 3 4", "array B 3 4/part/B[0,0]=B[1,1]", "array B 3 4/part/for 0 0/A[0]=1"} {
		p := programOf(t, lines)
		for _, name := range []string{"", "A", "C", "D", "E", "@", "a", "b", "BB", "B ", " B", "B\x00", "\xff", "array"} {
			if q, ok := impl.ShrinkArray(p, name); ok || !programIsZero(q) {
				t.Errorf("ShrinkArray(%s, %q) = %v, %v", lines, name, q, ok)
			}
		}
	}
}

// rangeOf returns the least and the greatest value of an expression at points, and whether there are any.
func rangeOf(points [][]int, a impl.Affine) (int, int, bool) {
	var values []int
	for _, p := range points {
		values = append(values, valueAt(a, p))
	}
	if len(values) == 0 {
		return 0, 0, false
	}
	return slices.Min(values), slices.Max(values), true
}

func checkRange(t *testing.T, nest []impl.Loop, a impl.Affine, lo int, hi int, ok bool) {
	t.Helper()
	if gotLo, gotHi, got := impl.SubscriptRange(nest, a); gotLo != lo || gotHi != hi || got != ok {
		t.Errorf("SubscriptRange(%q, %v) = %d, %d, %v, not %d, %d, %v", impl.FormatNest(nest), a, gotLo, gotHi, got, lo, hi, ok)
	}
}

// TestRandomRanges compares SubscriptRange with the values at all points near random nests.
func TestRandomRanges(t *testing.T) {
	r := rand.New(rand.NewSource(21))
	var counts tally
	for n := range 1500 {
		count := n % 4
		nest := randomNest(r, count, 2)
		if _, fits := impl.NestPoints(nest); !fits {
			continue
		}
		points := slices.DeleteFunc(boxPoints(count, 2), func(p []int) bool { return !isMember(nest, p) })
		for range 4 {
			a := randomAffine(r)
			if r.Intn(4) > 0 {
				clear(a.Coefs[count:])
			}
			lo, hi, ok := rangeOf(points, a)
			if slices.ContainsFunc(a.Coefs[count:], func(n int) bool { return n != 0 }) {
				lo, hi, ok = 0, 0, false
			}
			checkRange(t, nest, a, lo, hi, ok)
			counts.add(ok)
		}
	}
	counts.check(t, 300)
}

func TestSubscriptRange(t *testing.T) {
	for _, c := range []struct {
		nest, text string
		lo, hi     int
		ok         bool
	}{
		{"0 3/i 3", "2*i-j", -2, 2, true}, {"0 3", "i", 0, 2, true}, {"0 3", "-i", -2, 0, true}, {"0 3", "9*i+99", 99, 117, true}, {"0 3", "-9*i-99", -117, -99, true}, {"-3 4", "2*i", -6, 6, true}, {"-5 -2", "i", -5, -3, true}, {"2 5", "i", 2, 4, true},
		// Subscripts without variables.
		{"0 3", "7", 7, 7, true}, {"0 3", "0", 0, 0, true}, {"0 3/i 3", "-99", -99, -99, true}, {"-60 60", "5", 5, 5, true},
		// One point only, also that of a nest without loops.
		{"", "4", 4, 4, true}, {"", "-4", -4, -4, true}, {"", "0", 0, 0, true}, {"5 6", "i", 5, 5, true}, {"2 3/i i+1/j j+1/k k+1", "i+2*j+3*k+4*l", 20, 20, true},
		// Not all variables of the loops are used, or they are used only by the bounds.
		{"0 3/0 4", "i", 0, 2, true}, {"0 3/0 4", "j", 0, 3, true}, {"0 3/i 4", "j", 0, 3, true}, {"1 3/i 4", "j", 1, 3, true}, {"0 2/0 2/0 2/0 2", "-i+l", -1, 1, true}, {"0 2/0 2/0 2/0 3", "k", 0, 1, true},
		// The least and the greatest values are not at the first and the last point.
		{"0 4/0 -i+4", "i+j", 0, 3, true}, {"-2 3/-i,i 4", "j", 0, 3, true}, {"0 3/0 3", "2*i-2*j", -4, 4, true}, {"0 4/i,-i+3 4", "i-3*j", -9, -4, true}, {"-2 3/0,2*i 3", "i-j", -4, 0, true},
		// Loops of which some values of the outer variables have no iterations.
		{"0 9/6 i", "i", 7, 8, true}, {"0 9/6 i", "i-j", 1, 2, true}, {"0 9/i 2", "i", 0, 1, true}, {"-9 9/i -i+1,1", "0", 0, 0, true},
		// The subscript uses more variables than there are.
		{"", "i", 0, 0, false}, {"", "l", 0, 0, false}, {"0 3", "j", 0, 0, false}, {"0 3", "i+j", 0, 0, false}, {"0 3/0 3", "k", 0, 0, false}, {"0 3/0 3/0 3", "-l", 0, 0, false}, {"0 1", "9*i-l+3", 0, 0, false},
		// No points.
		{"0 0", "i", 0, 0, false}, {"0 0", "5", 0, 0, false}, {"3 2", "i", 0, 0, false}, {"0 3/i 0", "i", 0, 0, false}, {"0 0/0 3", "7", 0, 0, false}, {"0 3/3 i", "j+4", 0, 0, false},
		// As many points and iterations as there can be, and more.
		{"-60 60", "i", -60, 59, true}, {"-60 61", "i", 0, 0, false}, {"0 99/0 99", "5", 0, 0, false}, {"0 11/-9 96/93 j", "j", 94, 95, true}, {"0 12/0 96/93 j", "j", 0, 0, false}, {"0 2/0 3/0 4/0 5", "i+j+k+l", 0, 10, true},
	} {
		checkRange(t, nestOf(t, c.nest), parsed(t, c.text), c.lo, c.hi, c.ok)
	}
}

// TestFarRanges checks the values at points whose coordinates reach the limits of points and are beyond them, which NestPoints returns all the same.
func TestFarRanges(t *testing.T) {
	for _, c := range []struct {
		nest, text string
		lo, hi     int
	}{
		{strings.ReplaceAll(farNest(9998, 10000), "for ", ""), "l", 9998, 9999}, {strings.ReplaceAll(farNest(9999, 10001), "for ", ""), "l", 9999, 10000}, {strings.ReplaceAll(farNest(-10001, -9999), "for ", ""), "-l", 10000, 10001},
		{"98 99/9*i+98 9*i+99/9*i+9*j+98 9*i+9*j+99/9*i+9*j+9*k+98 9*i+9*j+9*k+99", "9*l", 882000, 882000}, {"98 99/9*i+98 9*i+99/9*i+9*j+98 9*i+9*j+99/9*i+9*j+9*k+98 9*i+9*j+9*k+99", "i-3", 95, 95},
		{"98 99/9*i+98 9*i+99/9*i+9*j+98 9*i+9*j+99/9*i+9*j+9*k+98 9*i+9*j+9*k+99", "7", 7, 7},
	} {
		checkRange(t, nestOf(t, c.nest), parsed(t, c.text), c.lo, c.hi, true)
	}
}

func TestRangesOfInvalidArguments(t *testing.T) {
	for _, nest := range invalidNests() {
		for _, a := range []impl.Affine{lin(0, 0, 0, 0, 0), variable(0), variable(3)} {
			checkRange(t, nest, a, 0, 0, false)
		}
	}
	for _, a := range invalidAffines() {
		for _, lines := range []string{"", "0 3", "0 0", "0 2/0 2/0 2/0 2"} {
			checkRange(t, nestOf(t, lines), a, 0, 0, false)
		}
	}
}

func TestFootprintsOfInvalidPrograms(t *testing.T) {
	for n, p := range brokenPrograms(t) {
		for part := range 3 {
			if reads, writes := impl.PartReads(p, part), impl.PartWrites(p, part); len(reads) != 0 || len(writes) != 0 {
				t.Errorf("the part %d of the invalid program %d reads %v and writes %v", part, n, reads, writes)
			}
			if impl.PartsIndependent(p, part, (part+1)%3) {
				t.Errorf("the part %d of the invalid program %d is independent of another one", part, n)
			}
			for _, call := range []lifting{impl.SwapParts, impl.DropPart} {
				if q, ok := call(p, part); ok || !programIsZero(q) {
					t.Errorf("the invalid program %d and the part %d become %v, %v", n, part, q, ok)
				}
			}
		}
		for _, name := range []string{"A", "B", "D", "", "E", "AB"} {
			if q, ok := impl.ShrinkArray(p, name); ok || !programIsZero(q) {
				t.Errorf("ShrinkArray of the invalid program %d and %q = %v, %v", n, name, q, ok)
			}
		}
	}
}

// liftedLines are the lines of a program whose first part is independent of the next one and can be dropped, and whose arrays can be smaller.
const liftedLines = "array A 6/array B 4 5/part/for 0,-1 2/for i 2/A[i]=(A[j]+{3*i})/A[j]=4/part/for 0 2/B[i,i+1]=(B[i,2]-1)/part/for 0 2/A[i]=B[0,1]"

// liftings are calls that return a program for liftedLines, by their names.
func liftings() map[string]func(p impl.Program) (impl.Program, bool) {
	return map[string]func(p impl.Program) (impl.Program, bool){
		"SwapParts":   func(p impl.Program) (impl.Program, bool) { return impl.SwapParts(p, 0) },
		"DropPart":    func(p impl.Program) (impl.Program, bool) { return impl.DropPart(p, 0) },
		"ShrinkArray": func(p impl.Program) (impl.Program, bool) { return impl.ShrinkArray(p, "B") },
		"nothing to shrink": func(p impl.Program) (impl.Program, bool) {
			q, _ := impl.ShrinkArray(p, "A")
			return impl.ShrinkArray(q, "A")
		},
	}
}

// TestFootprintMemory checks that results are in memory of their own, and do not depend on earlier calls.
func TestFootprintMemory(t *testing.T) {
	for name, call := range liftings() {
		p := programOf(t, liftedLines)
		q, ok := call(p)
		again, okAgain := call(p)
		if !ok || !okAgain || !impl.ProgramSame(q, again) {
			t.Errorf("%s = %v, %v, and then %v, %v", name, q, ok, again, okAgain)
		}
		checkOwnPrograms(t, name, []*impl.Program{&p, &q, &again})
	}
	p := programOf(t, liftedLines)
	lists := func() [][]int {
		var all [][]int
		for part := range p.Parts {
			all = append(all, impl.PartReads(p, part), impl.PartWrites(p, part))
		}
		return all
	}
	first := fmt.Sprint(lists())
	checkOwnMemory(t, append(lists(), lists()...))
	if got := fmt.Sprint(lists()); got != first || !impl.ProgramSame(p, programOf(t, liftedLines)) {
		t.Errorf("the results are changed from %s to %s", first, got)
	}
}

// TestFootprintArguments checks that no function changes an argument or the memory behind it.
func TestFootprintArguments(t *testing.T) {
	p := programOf(t, liftedLines)
	whole := addSpares(&p)
	kept := whole()
	for name, call := range liftings() {
		if _, ok := call(p); !ok || whole() != kept {
			t.Errorf("%s changes its argument from %s to %s, or returns %v", name, kept, whole(), ok)
		}
	}
	impl.PartReads(p, 0)
	impl.PartWrites(p, 0)
	impl.PartsIndependent(p, 0, 1)
	lo, hi, ok := impl.SubscriptRange(p.Parts[0].Nest, p.Parts[0].Body[0].Write.Subs[0])
	if whole() != kept || lo != 0 || hi != 1 || !ok {
		t.Errorf("the argument is changed from %s to %s, or the range is %d, %d, %v", kept, whole(), lo, hi, ok)
	}
}
