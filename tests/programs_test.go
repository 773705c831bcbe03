package tests

import (
	"fmt"
	"iter"
	"math"
	"math/rand"
	"regexp"
	"slices"
	"strings"
	"testing"

	"loop.example/loopnests/impl"
)

// programText returns the text of the program whose lines, but for the first one, are separated by `/`.
func programText(lines string) string {
	if lines == "" {
		return "program\n"
	}
	return "program\n" + strings.ReplaceAll(lines, "/", "\n") + "\n"
}

// programOf reads the text of a program whose lines are separated by `/`.
func programOf(t *testing.T, lines string) impl.Program {
	t.Helper()
	p, ok := impl.ParseProgram(programText(lines))
	if !ok {
		t.Fatalf("ParseProgram(%q) returns false", programText(lines))
	}
	return p
}

// copyProgram returns a program in new memory; its statements must not contain themselves.
func copyProgram(p impl.Program) impl.Program {
	var result impl.Program
	for _, a := range p.Arrays {
		result.Arrays = append(result.Arrays, impl.Array{Name: a.Name, Dims: slices.Clone(a.Dims)})
	}
	for _, x := range p.Parts {
		part := impl.Part{Nest: copyNest(x.Nest)}
		for _, s := range x.Body {
			part.Body = append(part.Body, copyStmt(s))
		}
		result.Parts = append(result.Parts, part)
	}
	return result
}

func programIsZero(p impl.Program) bool {
	return len(p.Arrays) == 0 && len(p.Parts) == 0
}

// farNest returns the bounds of a nest of four loops whose points have from first up to last as their last coordinate.
func farNest(first int, last int) string {
	if first < 0 {
		return fmt.Sprintf("for -98 -97/for 9*i-98 9*i-97/for 9*i+9*j-97 9*i+9*j-96/for 2*i+k%d 2*i+k%d", first+9995, last+9995)
	}
	return fmt.Sprintf("for 98 99/for 9*i+98 9*i+99/for 9*i+9*j+97 9*i+9*j+98/for 2*i+k+%d 2*i+k+%d", first-9995, last-9995)
}

// validPrograms are the lines of programs with and without arrays, parts, loops and points, and at the limits.
func validPrograms() []string {
	return []string{
		"", "array A 1", "array D 6 6", "array A 3/array C 2 4/array D 6", "array A 1/array B 1/array C 1/array D 1", "array A 6 6/array B 6 6/array C 6 6/array D 6 6",
		"array A 3/part/A[0]=1", "array A 3/part/for 0 3/A[i]=1", "array A 3/part/for 0 3/A[-i+2]={-9*i-99}", "array A 3/part/A[2]=(A[0]-A[1])",
		"array A 3/array B 2 4/part/for 0 2/A[i]=1/B[i,i+2]=A[i]/part/A[0]=B[1,3]",
		"array B 4 5/array C 4/part/for 0 4/for 0 4/C[j]=(C[j]+B[j,i])",
		// Parts without points, whose accesses denote elements at each of their points.
		"part/for 0 0/A[i]=1", "part/for 0 3/for i 0/D[9,9]=C[-5]", "array A 1/part/for 3 1/A[0,0]=B[i]", "array A 1/part/for 0 0/A[1]=A[-1]/A[2]=1/part/A[0]=1",
		// A nest that has no points, although its first loop has iterations.
		"array A 1/part/for 0 2/for 1 i/A[i]=1",
		// The greatest numbers of parts, statements, loops, points and instances.
		"array A 1/part/A[0]=1/part/A[0]=2/part/A[0]=3/part/A[0]=4", "array A 1/part/A[0]=1/A[0]=2/A[0]=3/A[0]=4",
		"array A 1/part/for 0 1/for 0 1/for 0 1/for 0 1/A[l]=(A[i]+{j+k})", "array A 1/part/for -60 60/A[0]={i}", "array A 1/part/for 0 30/A[0]=1/A[0]=2/A[0]=3/A[0]=4",
		"array A 1/part/for 0 30/A[0]=1/part/for 0 30/A[0]=2/part/for 0 30/A[0]=3/part/for 0 30/A[0]=4", "array A 1/part/for 0 60/A[0]=1/A[0]=2/part/for 0 0/A[0]=1",
		// The greatest coordinates.
		"array A 1/part/" + farNest(9999, 10000) + "/A[0]=1", "array A 2/part/" + farNest(9998, 10000) + "/A[-2*i-k+l-3]=1", "array A 1/part/" + farNest(-9999, -9998) + "/A[0]={l}",
		// Statements that use fewer variables than there are, and each of them.
		"array A 2/array B 2 2/part/for 0 2/for 0 2/A[j]=(B[i,j]*{2*i})/A[i]=7/A[1]=8/B[j,i]=A[0]", "array B 6 6/part/for 0 6/for i 6/B[i,j]=B[j,i]",
		"array B 2 6/part/for 0 2/for 0,i 6,2*i+2/B[-i+1,-j+5]=(B[i,j]+(B[0,j]*B[i,0]))",
	}
}

// invalidPrograms are the lines of texts that would be those of programs if the programs were valid.
func invalidPrograms() []string {
	list := []string{
		// Arrays.
		"array A", "array A 0", "array A 7", "array A 1 0", "array A 1 7", "array A 0 1", "array A 7 1", "array A 1 1 1", "array A 1 1 1 1 1",
		"array A 10", "array A 1/array A 1", "array A 1/array A 2", "array B 1/array A 1", "array A 1/array C 1/array B 1", "array A 1/array B 1/array B 2/array C 1",
		"array A 1/array B 1/array C 1/array D 1/array D 1", "array A 1/array B 1/array C 1/array D 1/array A 1", "array A 1/array B 1/array C 1/array D 7",
		// Parts.
		"part", "array A 1/part", "array A 1/part/for 0 1", "array A 1/part/part/A[0]=1", "array A 1/part/A[0]=1/part",
		"array A 1" + strings.Repeat("/part/A[0]=1", 5), "array A 1" + strings.Repeat("/part/for 0 0/A[0]=1", 5), "array A 1/part" + strings.Repeat("/A[0]=1", 5),
		"array A 1/part/for 0 0" + strings.Repeat("/A[0]=1", 5), "array A 1/part/for 0 1/for 0 1/for 0 1/for 0 1/for 0 1/A[0]=1", "array A 1/part/for i 1/A[0]=1",
		"array A 1/part/for -60 61/A[0]=1", "array A 1/part/for 0 12/for 0 99/for 0 0/A[0]=1",
		// Instances.
		"array A 1/part/for 0 61/A[0]=1/A[0]=2", "array A 1/part/for 0 31/A[0]=1/A[0]=2/A[0]=3/A[0]=4", "array A 1/part/for 0 60/A[0]=1/part/for 0 61/A[0]=1",
		"array A 1/part/for 0 40/A[0]=1/A[0]=2/A[0]=3/part/A[0]=1", "array A 1" + strings.Repeat("/part/for -60 60/A[0]=1/A[0]=1/A[0]=1/A[0]=1", 4),
		// Coordinates.
		"array A 1/part/" + farNest(10000, 10001) + "/A[0]=1", "array A 1/part/" + farNest(9999, 10001) + "/A[0]=1",
		"array A 1/part/" + farNest(-10000, -9999) + "/A[0]=1", "array A 1/part/" + farNest(-10000, -9998) + "/A[0]=1",
		// Statements that use more variables than there are.
		"array A 1/part/A[i]=1", "array A 1/part/A[0]={i}", "array A 1/part/A[0]=(1+A[i])", "array A 1/part/for 0 1/A[j]=1", "array A 1/part/for 0 1/A[0]={j}",
		"array A 1/part/for 0 1/for 0 1/for 0 1/A[0]=(1-{l})", "array A 1/part/for 0 0/A[j]=1", "array A 1/part/for 0 1/A[0]=1/A[0]=2/A[0]=A[k]",
		// Arrays that the program does not have.
		"part/A[0]=1", "array A 1/part/B[0]=1", "array A 1/part/A[0]=B[0]", "array A 1/array C 1/part/A[0]=(A[0]+(C[0]-D[0]))", "array B 2/part/A[0]=1",
		"array A 1/part/for 0 1/A[0]=1/A[0]=1/part/A[0]=1/A[0]=C[0]",
		// Another number of subscripts.
		"array A 1/part/A[0,0]=1", "array A 1 1/part/A[0]=1", "array A 1/array B 2 2/part/A[0]=B[0]", "array A 1/array B 2 2/part/A[0]=(B[0,0]+A[0,0])",
		// Elements outside of an array, at the first point or the last one.
		"array A 3/part/A[3]=1", "array A 3/part/A[-1]=1", "array A 3/part/A[0]=A[3]", "array A 3/part/A[0]=(2*A[-1])", "array A 3/part/A[99]=1",
		"array A 3/part/for 0 4/A[i]=1", "array A 3/part/for -1 3/A[i]=1", "array A 3/part/for 0 3/A[i+1]=1", "array A 3/part/for 0 3/A[i-1]=1", "array A 3/part/for 0 3/A[-i+1]=1",
		"array B 2 4/part/B[2,0]=1", "array B 2 4/part/B[0,4]=1", "array B 2 4/part/B[-1,0]=1", "array B 2 4/part/B[0,-1]=1", "array B 2 4/part/B[1,-1]=1",
		"array B 2 4/part/for 0 2/for 0 4/B[j,i]=1", "array B 2 4/part/for 0 2/for 0 4/B[i,j]=B[i,j+1]", "array B 2 4/part/for 0 2/for 0 i+4/B[i,j]=1",
		"array A 2/part/for 0 2/A[i]=1/part/for 0 2/A[0]=1/A[0]=1/A[1]=A[i+1]", "array A 1/array B 1/part/A[1]=1", "array A 1/array B 1/part/B[-1]=1",
	}
	return list
}

// looseProgram reads lines into a program that need not be valid.
func looseProgram(t *testing.T, lines string) impl.Program {
	t.Helper()
	var p impl.Program
	for line := range strings.SplitSeq(lines, "/") {
		words := strings.Split(line, " ")
		last := len(p.Parts) - 1
		switch words[0] {
		case "array":
			a := impl.Array{Name: words[1]}
			for _, w := range words[2:] {
				var d int
				if _, err := fmt.Sscan(w, &d); err != nil {
					t.Fatal(err)
				}
				a.Dims = append(a.Dims, d)
			}
			p.Arrays = append(p.Arrays, a)
		case "part":
			p.Parts = append(p.Parts, impl.Part{})
		case "for":
			p.Parts[last].Nest = append(p.Parts[last].Nest, looseLoop(t, words))
		default:
			p.Parts[last].Body = append(p.Parts[last].Body, stmtOf(t, line))
		}
	}
	return p
}

func looseLoop(t *testing.T, words []string) impl.Loop {
	t.Helper()
	var sides [2][]impl.Affine
	for n := range sides {
		for text := range strings.SplitSeq(words[n+1], ",") {
			sides[n] = append(sides[n], parsed(t, text))
		}
	}
	return impl.Loop{Lo: sides[0], Hi: sides[1]}
}

// brokenPrograms are programs that are not valid, also such as have no text.
func brokenPrograms(t *testing.T) []impl.Program {
	t.Helper()
	var list []impl.Program
	for _, lines := range invalidPrograms() {
		list = append(list, looseProgram(t, lines))
	}
	change := func(apply func(p *impl.Program)) {
		p := programOf(t, "array A 3/array B 2 4/part/for 0 2/A[i]=1/B[i,i+2]=A[i]/part/A[0]=B[1,3]")
		apply(&p)
		list = append(list, p)
	}
	for _, name := range []string{"", "E", "@", "a", "AA", "AB", "A ", " A", "\x00", "A\x00", "\xff", "Ä", "array"} {
		change(func(p *impl.Program) { p.Arrays = append(p.Arrays, impl.Array{Name: name, Dims: []int{1}}) })
		change(func(p *impl.Program) { p.Arrays = append([]impl.Array{{Name: name, Dims: []int{1}}}, p.Arrays...) })
		list = append(list, impl.Program{Arrays: []impl.Array{{Name: name, Dims: []int{1}}}})
	}
	for _, d := range []int{-1, -6, 100, math.MaxInt, math.MinInt, math.MaxInt/2 + 2} {
		for _, dims := range [][]int{{d}, {d, 1}, {1, d}, {d, d}} {
			list = append(list, impl.Program{Arrays: []impl.Array{{Name: "D", Dims: dims}}})
			change(func(p *impl.Program) { p.Arrays = append(p.Arrays, impl.Array{Name: "C", Dims: dims}) })
		}
	}
	change(func(p *impl.Program) {
		p.Arrays = append(p.Arrays, impl.Array{Name: "C", Dims: slices.Repeat([]int{1}, 5000)})
	})
	change(func(p *impl.Program) {
		p.Arrays = append(p.Arrays, slices.Repeat([]impl.Array{{Name: "C", Dims: []int{1}}}, 5000)...)
	})
	change(func(p *impl.Program) { p.Parts = append(p.Parts, slices.Repeat(p.Parts[1:], 5000)...) })
	change(func(p *impl.Program) { p.Parts[1].Body = slices.Repeat(p.Parts[1].Body, 5000) })
	change(func(p *impl.Program) { p.Parts = append(p.Parts, impl.Part{}) })
	for _, nest := range invalidNests() {
		change(func(p *impl.Program) { p.Parts[1].Nest = nest })
	}
	for _, s := range invalidStmts() {
		for n := range 2 {
			change(func(p *impl.Program) { p.Parts[n].Body[0] = s })
			change(func(p *impl.Program) { p.Parts[n].Body = append(p.Parts[n].Body, s) })
		}
		// The statement is not executed, but it must be valid.
		change(func(p *impl.Program) {
			p.Parts = append(p.Parts, impl.Part{Nest: []impl.Loop{{Lo: side(0), Hi: side(0)}}, Body: []impl.Stmt{s}})
		})
	}
	return list
}

// element returns the text of the element of an array with the given subscripts.
func element(array string, subs []int) string {
	return fmt.Sprint(array, subs)
}

// cellNumbers returns the number of each element, by counting all of them.
func cellNumbers(arrays []impl.Array) map[string]int {
	numbers := map[string]int{}
	for _, a := range arrays {
		for x := range a.Dims[0] {
			if len(a.Dims) == 1 {
				numbers[element(a.Name, []int{x})] = len(numbers)
				continue
			}
			for y := range a.Dims[1] {
				numbers[element(a.Name, []int{x, y})] = len(numbers)
			}
		}
	}
	return numbers
}

// cellAt returns the number of the element that an access denotes at a point, or -1 if there is none.
func cellAt(arrays []impl.Array, a impl.Access, point []int) int {
	var subs []int
	for _, sub := range a.Subs {
		subs = append(subs, valueAt(sub, point))
	}
	n, ok := cellNumbers(arrays)[element(a.Array, subs)]
	if !ok {
		return -1
	}
	return n
}

// orderedNames is the form of the names of the arrays of a program, each of which is followed by a space.
var orderedNames = regexp.MustCompile(`^(A )?(B )?(C )?(D )?$`)

// arraysMatch reports whether arrays can be those of a program, directly from the definition.
func arraysMatch(arrays []impl.Array) bool {
	names := ""
	for _, a := range arrays {
		names += a.Name + " "
		if len(a.Dims) != 1 && len(a.Dims) != 2 || slices.Min(a.Dims) < 1 || slices.Max(a.Dims) > 6 {
			return false
		}
	}
	return orderedNames.MatchString(names)
}

// isProgram reports whether p is valid, directly from the definition.
func isProgram(p impl.Program) bool {
	if !arraysMatch(p.Arrays) || len(p.Parts) > 4 {
		return false
	}
	for _, x := range p.Parts {
		points, ok := impl.NestPoints(x.Nest)
		if !ok || len(x.Body) < 1 || len(x.Body) > 4 {
			return false
		}
		for _, point := range points {
			if len(point) > 0 && (slices.Min(point) < -9999 || slices.Max(point) > 9999) {
				return false
			}
		}
		for _, s := range x.Body {
			if !impl.StmtValid(s, len(x.Nest)) {
				return false
			}
		}
	}
	list := instancesOf(p)
	for _, x := range list {
		s := p.Parts[x.Part].Body[x.Stmt]
		for _, a := range append(impl.StmtReads(s), s.Write) {
			if cellAt(p.Arrays, a, x.Point) < 0 {
				return false
			}
		}
	}
	return len(list) <= 120
}

// instancesOf returns the instances of a program directly from the definition.
func instancesOf(p impl.Program) []impl.Instance {
	var list []impl.Instance
	for n, x := range p.Parts {
		points, _ := impl.NestPoints(x.Nest)
		for _, point := range points {
			for k := range x.Body {
				list = append(list, impl.Instance{Part: n, Stmt: k, Point: point})
			}
		}
	}
	return list
}

func sameInstance(x impl.Instance, y impl.Instance) bool {
	return x.Part == y.Part && x.Stmt == y.Stmt && slices.Equal(x.Point, y.Point)
}

// checkProgram compares what the functions return for a valid program with the definitions.
func checkProgram(t *testing.T, p impl.Program) {
	t.Helper()
	text := impl.FormatProgram(p)
	read, ok := impl.ParseProgram(text)
	if !impl.ProgramValid(p) || text == "" || !ok || !impl.ProgramSame(read, p) || impl.FormatProgram(read) != text {
		t.Errorf("ParseProgram(%q) = %v, %v", text, read, ok)
	}
	want := instancesOf(p)
	if list := impl.ProgramInstances(p); !slices.EqualFunc(list, want, sameInstance) {
		t.Errorf("ProgramInstances(%q) = %v, not %v", text, list, want)
	}
	if n := impl.CountCells(p); n != len(cellNumbers(p.Arrays)) {
		t.Errorf("CountCells(%q) = %d", text, n)
	}
	for _, x := range want {
		s := p.Parts[x.Part].Body[x.Stmt]
		var cells []int
		for _, a := range impl.StmtReads(s) {
			cells = append(cells, cellAt(p.Arrays, a, x.Point))
			if n := impl.CellOf(p, a, x.Point); n != cells[len(cells)-1] {
				t.Errorf("CellOf(%q, %v, %v) = %d", text, a, x.Point, n)
			}
		}
		reads, write, ok := impl.InstanceCells(p, x)
		if !ok || !slices.Equal(reads, cells) || write != cellAt(p.Arrays, s.Write, x.Point) {
			t.Errorf("InstanceCells(%q, %v) = %v, %d, %v", text, x, reads, write, ok)
		}
	}
}

// checkBroken checks what the functions return for a program that is not valid.
func checkBroken(t *testing.T, what string, p impl.Program) {
	t.Helper()
	if impl.ProgramValid(p) || impl.FormatProgram(p) != "" || len(impl.ProgramInstances(p)) != 0 || impl.CountCells(p) != 0 {
		t.Errorf("ProgramValid accepts %s", what)
	}
	if n := impl.CellOf(p, access("A", lin(0, 0, 0, 0, 0)), nil); n != -1 {
		t.Errorf("CellOf in %s is %d", what, n)
	}
	for _, x := range []impl.Instance{{}, {Point: []int{0}}, {Part: 1}, {Point: []int{0, 0}}} {
		if reads, write, ok := impl.InstanceCells(p, x); ok || len(reads) != 0 || write != 0 {
			t.Errorf("InstanceCells in %s = %v, %d, %v", what, reads, write, ok)
		}
	}
}

func TestValidPrograms(t *testing.T) {
	for _, lines := range validPrograms() {
		p := looseProgramOrEmpty(t, lines)
		if !isProgram(p) {
			t.Errorf("the test takes %s for invalid", lines)
		}
		if text := impl.FormatProgram(p); text != programText(lines) {
			t.Errorf("FormatProgram = %q, not %q", text, programText(lines))
		}
		checkProgram(t, p)
	}
	for _, p := range []impl.Program{
		{},
		{Arrays: []impl.Array{}, Parts: []impl.Part{}},
		{Parts: []impl.Part{{Nest: []impl.Loop{{Lo: side(0), Hi: side(0)}}, Body: []impl.Stmt{assign(numExpr(1))}}}},
		{Arrays: []impl.Array{{Name: "A", Dims: []int{1}}}, Parts: []impl.Part{{Nest: []impl.Loop{}, Body: []impl.Stmt{assign(numExpr(1))}}}},
	} {
		checkProgram(t, p)
	}
}

func looseProgramOrEmpty(t *testing.T, lines string) impl.Program {
	t.Helper()
	if lines == "" {
		return impl.Program{}
	}
	return looseProgram(t, lines)
}

func TestInvalidPrograms(t *testing.T) {
	for _, lines := range invalidPrograms() {
		if isProgram(looseProgram(t, lines)) {
			t.Errorf("the test takes %s for valid", lines)
		}
		if p, ok := impl.ParseProgram(programText(lines)); ok || !programIsZero(p) {
			t.Errorf("ParseProgram accepts %s", lines)
		}
	}
	for n, p := range brokenPrograms(t) {
		checkBroken(t, fmt.Sprint("the invalid program ", n), p)
	}
}

// TestProgramLimits checks that invalid programs are next to valid ones at each limit.
func TestProgramLimits(t *testing.T) {
	for _, c := range []struct{ valid, invalid string }{
		{"array A 1/array B 1/array C 1/array D 1", "array A 1/array B 1/array C 1/array D 1/array E 1"},
		{"array A 6", "array A 7"},
		{"array A 1 6", "array A 1 7"},
		{"array A 6 1", "array A 7 1"},
		{"array A 1", "array A 0"},
		{"array A 2 1", "array A 2 0"},
		{"array A 1 1", "array A 1 1 1"},
		{"array A 1 1", "array A"},
		{"array A 1" + strings.Repeat("/part/A[0]=1", 4), "array A 1" + strings.Repeat("/part/A[0]=1", 5)},
		{"array A 1/part" + strings.Repeat("/A[0]=1", 4), "array A 1/part" + strings.Repeat("/A[0]=1", 5)},
		{"array A 1/part/A[0]=1", "array A 1/part"},
		{"array A 1/part/for 0 99/A[0]=1/part/for 0 21/A[0]=1", "array A 1/part/for 0 99/A[0]=1/part/for 0 22/A[0]=1"},
		{"array A 1/part/for 0 40/A[0]=1/A[0]=1/A[0]=1", "array A 1/part/for 0 41/A[0]=1/A[0]=1/A[0]=1"},
		{"array A 1/part/for -60 60/A[0]=1", "array A 1/part/for -60 61/A[0]=1"},
		{"array A 1/part/" + farNest(9999, 10000) + "/A[0]=1", "array A 1/part/" + farNest(9999, 10001) + "/A[0]=1"},
		{"array A 1/part/" + farNest(-9999, -9998) + "/A[0]=1", "array A 1/part/" + farNest(-10000, -9998) + "/A[0]=1"},
		{"array A 3/part/A[0]=1", "array A 3/part/A[-1]=1"},
		{"array A 3/part/A[2]=1", "array A 3/part/A[3]=1"},
		{"array B 2 3/part/B[1,2]=1", "array B 2 3/part/B[1,3]=1"},
		{"array B 2 3/part/B[1,0]=1", "array B 2 3/part/B[2,0]=1"},
		{"array B 2 3/part/B[1,0]=1", "array B 2 3/part/B[1,-1]=1"},
		{"array B 2 3/part/B[0,1]=B[0,0]", "array B 2 3/part/B[0,1]=B[-1,0]"},
		{"array A 3/part/for 0 3/A[i]=A[-i+2]", "array A 3/part/for 0 3/A[i]=A[-i+3]"},
		{"array A 3/part/for 0 3/A[i]=A[-i+2]", "array A 3/part/for 0 3/A[i]=A[-i+1]"},
		{"array A 3/part/for 0 0/A[i+3]=B[0]", "array A 3/part/for 0 1/A[i+3]=B[0]"},
		{"array A 3/part/for 0 0/A[i]=1", "array A 3/part/for 0 0/A[j]=1"},
	} {
		if _, ok := impl.ParseProgram(programText(c.valid)); !ok {
			t.Errorf("ParseProgram refuses %s", c.valid)
		}
		if p, ok := impl.ParseProgram(programText(c.invalid)); ok || !programIsZero(p) {
			t.Errorf("ParseProgram accepts %s", c.invalid)
		}
	}
}

// TestProgramSame compares different programs with each other, and with copies of themselves.
func TestProgramSame(t *testing.T) {
	var list []impl.Program
	for _, lines := range append(validPrograms(), invalidPrograms()...) {
		list = append(list, looseProgramOrEmpty(t, lines))
	}
	one := impl.Stmt{Value: numExpr(777)}
	list = append(list,
		impl.Program{Arrays: []impl.Array{{}}},
		impl.Program{Arrays: []impl.Array{{}, {}}},
		impl.Program{Arrays: []impl.Array{{Name: "xyz", Dims: []int{-5, 1, 2, 3}}}},
		impl.Program{Arrays: []impl.Array{{Dims: []int{0}}}},
		impl.Program{Parts: []impl.Part{{}, {}}},
		impl.Program{Parts: []impl.Part{{Nest: []impl.Loop{{}}}}},
		impl.Program{Parts: []impl.Part{{Nest: []impl.Loop{{}, {}}}}},
		impl.Program{Parts: []impl.Part{{Body: []impl.Stmt{{}}}}},
		impl.Program{Parts: []impl.Part{{Body: []impl.Stmt{one}}}},
		impl.Program{Parts: []impl.Part{{Body: []impl.Stmt{one, {}}}}},
		impl.Program{Parts: []impl.Part{{Body: []impl.Stmt{{}, one}}}},
		impl.Program{Parts: []impl.Part{{Nest: []impl.Loop{{}}, Body: []impl.Stmt{one}}, {}}},
	)
	for n, a := range list {
		for m, b := range list {
			same := fmt.Sprint(a) == fmt.Sprint(b)
			if same != (n == m) {
				t.Fatalf("the programs %d and %d are both %v", n, m, a)
			}
			if impl.ProgramSame(a, copyProgram(b)) != same {
				t.Errorf("ProgramSame(%v, %v) is not %v", a, b, same)
			}
		}
	}
	empty := impl.Program{Arrays: []impl.Array{}, Parts: []impl.Part{}}
	if !impl.ProgramSame(impl.Program{}, empty) || !impl.ProgramSame(empty, impl.Program{}) {
		t.Error("ProgramSame tells nil slices from empty ones")
	}
	a := impl.Program{Arrays: []impl.Array{{}}, Parts: []impl.Part{{}}}
	b := impl.Program{Arrays: []impl.Array{{Dims: []int{}}}, Parts: []impl.Part{{Nest: []impl.Loop{}, Body: []impl.Stmt{}}}}
	if !impl.ProgramSame(a, b) || !impl.ProgramSame(b, a) {
		t.Error("ProgramSame tells nil slices from empty ones within arrays and parts")
	}
	// Statements that contain themselves.
	loop := func(levels int, n int) impl.Program {
		return impl.Program{Parts: []impl.Part{{Body: []impl.Stmt{assign(cycle(levels, n))}}}}
	}
	if !impl.ProgramSame(loop(2, 5), loop(2, 5)) || impl.ProgramSame(loop(2, 5), loop(2, 6)) {
		t.Error("ProgramSame does not compare statements that contain themselves")
	}
}

// numbersOf returns all numbers of a program.
func numbersOf(p *impl.Program) []*int {
	var list []*int
	add := func(a *impl.Affine) {
		list = append(list, &a.Const)
		for v := range a.Coefs {
			list = append(list, &a.Coefs[v])
		}
	}
	for n := range p.Arrays {
		for k := range p.Arrays[n].Dims {
			list = append(list, &p.Arrays[n].Dims[k])
		}
	}
	for n := range p.Parts {
		for _, l := range p.Parts[n].Nest {
			for _, s := range [][]impl.Affine{l.Lo, l.Hi} {
				for k := range s {
					add(&s[k])
				}
			}
		}
		for k := range p.Parts[n].Body {
			s := &p.Parts[n].Body[k]
			for _, a := range affinesOf(s) {
				add(a)
			}
			for _, e := range nodesOf(&s.Value) {
				list = append(list, &e.Num, &e.Kind)
			}
		}
	}
	return list
}

// TestProgramSameSeesEveryField changes one field after the other, at every level.
func TestProgramSameSeesEveryField(t *testing.T) {
	for _, lines := range validPrograms() {
		p := programOf(t, lines)
		changed := copyProgram(p)
		check := func(what string) {
			t.Helper()
			if impl.ProgramSame(p, changed) || impl.ProgramSame(changed, p) {
				t.Errorf("ProgramSame does not see another %s in %s", what, lines)
			}
			changed = copyProgram(p)
		}
		for k := range numbersOf(&changed) {
			*numbersOf(&changed)[k]++
			check("number")
		}
		for k := range p.Arrays {
			changed.Arrays[k].Name += "A"
			check("name")
			changed.Arrays[k].Dims = append(changed.Arrays[k].Dims, 1)
			check("number of dimensions")
			changed.Arrays = slices.Delete(changed.Arrays, k, k+1)
			check("number of arrays")
		}
		for k, x := range p.Parts {
			changed.Parts[k].Nest = append(changed.Parts[k].Nest, impl.Loop{})
			check("number of loops")
			changed.Parts[k].Body = append(changed.Parts[k].Body, impl.Stmt{})
			check("number of statements")
			changed.Parts[k].Body = changed.Parts[k].Body[1:]
			check("number of statements")
			changed.Parts = slices.Delete(changed.Parts, k, k+1)
			check("number of parts")
			for m := range x.Body {
				changed.Parts[k].Body[m].Write.Array += "A"
				check("array that is written")
			}
		}
	}
}

// badProgramTexts are texts that are not the text of a program.
func badProgramTexts() []string {
	valid := programText("array A 3/part/for 0 3/A[i]=1")
	list := []string{
		"", "\n", "program", "program\n\n", "\nprogram\n", " program\n", "program \n", "program\r\n", "Program\n", "PROGRAM\n", "programs\n", "program\nprogram\n", "part\n", "array A 3\n",
		"program\narray A 3", "program\narray A 3\nprogram\n", "array A 3\nprogram\n", "program\narray\n", "program\narray \n", "program\narray A\n", "program\narray A \n", "program\narray A 3 \n",
		"program\narray  A 3\n", "program\narray A  3\n", "program\n array A 3\n", "program\narray A\t3\n", "program\narrayA 3\n", "program\narray A3\n", "program\narrays A 3\n", "program\nArray A 3\n",
		"program\narray a 3\n", "program\narray E 3\n", "program\narray AB 3\n", "program\narray 3 A\n", "program\narray A 3 B 3\n", "program\narray A,3\n", "program\narray A 3,3\n",
		"program\narray A +3\n", "program\narray A 03\n", "program\narray A -3\n", "program\narray A 3.0\n", "program\narray A 3x\n", "program\narray A x\n", "program\narray A 3\x00\n",
		"program\narray A 18446744073709551619\n", "program\narray A 4294967299\n", "program\narray A " + strings.Repeat("3", 5000) + "\n", "program\narray A" + strings.Repeat(" 1", 5000) + "\n",
		valid + "\n", valid + " ", valid + "x", valid[:len(valid)-1], "\n" + valid, valid + valid, valid + "array B 3\n", valid + "for 0 3\n", valid + "program\n", valid + "end\n", valid + "A[3]\n",
		"program\narray A 3\nA[0]=1\n", "program\narray A 3\nfor 0 3\nA[i]=1\n", "program\npart\narray A 3\nA[0]=1\n", "program\narray A 3\npart\nA[0]=1\nfor 0 3\n", "program\narray A 3\npart\nA[0]=1\nfor 0 3\nA[0]=1\n",
		"program\narray A 3\npart\nfor 0 3\narray B 1\nA[0]=1\n", "program\narray A 3\npart\nA[0]=1;\n", "program\narray A 3\npart\n\nA[0]=1\n", "program\narray A 3\npart\nA[0]=1\n\nA[0]=1\n", "program\narray A 3\npart\nA[0]=1\r\n",
		"program\narray A 3\npart\nA[0] = 1\n", "program\narray A 3\npart\n A[0]=1\n", "program\narray A 3\npart \nA[0]=1\n", "program\narray A 3\npart 0\nA[0]=1\n", "program\narray A 3\nparts\nA[0]=1\n", "program\narray A 3\npart\nA[00]=1\n",
		"program\narray A 3\npart\nfor 0 3 \nA[0]=1\n", "program\narray A 3\npart\nfor 0\nA[0]=1\n", "program\narray A 3\npart\nfor 00 3\nA[0]=1\n", "program\narray A 3\npart\nfor 1*0 3\nA[0]=1\n", "program\narray A 3\npart\nfo 0 3\nA[0]=1\n",
		strings.Repeat("program\n", 5000), "program\n" + strings.Repeat("part\n", 5000), "program\n" + strings.Repeat("array A 1\n", 5000), "program\narray A 1\npart\n" + strings.Repeat("A[0]=1\n", 5000),
		"program\narray A 1\npart\n" + strings.Repeat("for 0 1\n", 5000) + "A[0]=1\n", strings.Repeat("\n", 5000), "program\narray A 1\npart\nA[0]=" + strings.Repeat("(", 50000) + "\n",
	}
	for _, lines := range invalidPrograms() {
		list = append(list, programText(lines))
	}
	return list
}

func TestParseProgramRefuses(t *testing.T) {
	for _, s := range badProgramTexts() {
		if p, ok := impl.ParseProgram(s); ok || !programIsZero(p) {
			t.Errorf("ParseProgram(%.80q) = %v, %v", s, p, ok)
		}
	}
}

// programForm returns a function that reports whether a text is that of a program, whose expressions are read by ParseNest and ParseStmt.
func programForm(t *testing.T) func(text string) bool {
	t.Helper()
	form := regexp.MustCompile(`^program\n(array [A-D]( [1-6]){1,2}\n)*(part\n(for .*\n)*([A-D]\[.*\n)+)*$`)
	nests := regexp.MustCompile(`(?m)(^for .*\n)+`)
	stmts := regexp.MustCompile(`(?m)^[A-D]\[.*$`)
	return func(text string) bool {
		if !form.MatchString(text) {
			return false
		}
		for _, s := range nests.FindAllString(text, -1) {
			if _, ok := impl.ParseNest(s); !ok {
				return false
			}
		}
		for _, s := range stmts.FindAllString(text, -1) {
			if _, ok := impl.ParseStmt(s); !ok {
				return false
			}
		}
		lines := strings.TrimSuffix(strings.TrimPrefix(text, "program\n"), "\n")
		return isProgram(looseProgramOrEmpty(t, strings.ReplaceAll(lines, "\n", "/")))
	}
}

// nearLines yields texts that differ from a text in that a line is left out, repeated or exchanged with another one.
func nearLines(text string) iter.Seq[string] {
	return func(yield func(string) bool) {
		lines := strings.SplitAfter(text, "\n")
		for n := range lines {
			if !yield(strings.Join(slices.Delete(slices.Clone(lines), n, n+1), "")) {
				return
			}
			for m := range lines {
				exchanged := slices.Clone(lines)
				exchanged[n], exchanged[m] = lines[m], lines[n]
				if !yield(strings.Join(slices.Insert(slices.Clone(lines), n, lines[m]), "")) || !yield(strings.Join(exchanged, "")) {
					return
				}
			}
		}
	}
}

// TestParseProgramNearTexts compares ParseProgram with the definitions for texts that are nearly that of a program.
func TestParseProgramNearTexts(t *testing.T) {
	expected := programForm(t)
	var counts tally
	check := func(s string) {
		p, ok := impl.ParseProgram(s)
		if ok != expected(s) || ok && impl.FormatProgram(p) != s || !ok && !programIsZero(p) {
			t.Errorf("ParseProgram(%q) = %v, %v", s, p, ok)
		}
		counts.add(ok)
	}
	for _, lines := range validPrograms() {
		text := programText(lines)
		for s := range nearLines(text) {
			check(s)
		}
		if len(text) > 90 {
			continue
		}
		for s := range nearTexts(text, "\n ,+-*[]013467ijABDEfp\x00") {
			check(s)
		}
	}
	for _, s := range badProgramTexts() {
		check(s)
	}
	counts.check(t, 500)
}

// randomProgram returns a program that need not be valid.
func randomProgram(r *rand.Rand) impl.Program {
	var p impl.Program
	for _, name := range []string{"A", "B", "C", "D"} {
		if r.Intn(3) > 0 {
			a := impl.Array{Name: name}
			for range 1 + r.Intn(2) {
				a.Dims = append(a.Dims, 1+r.Intn(6))
			}
			p.Arrays = append(p.Arrays, a)
		}
	}
	for range r.Intn(5) {
		count := r.Intn(4)
		x := impl.Part{Nest: randomNest(r, count, 1+r.Intn(2))}
		for range 1 + r.Intn(4) {
			s := impl.Stmt{Write: randomElement(r, p.Arrays, count), Value: numExpr(1)}
			for range r.Intn(3) {
				read := impl.Expr{Kind: impl.ExprRead, Read: randomElement(r, p.Arrays, count)}
				s.Value = nodeExpr(impl.ExprAdd+r.Intn(3), s.Value, read)
			}
			x.Body = append(x.Body, s)
		}
		p.Parts = append(p.Parts, x)
	}
	return p
}

// randomElement returns an access that mostly denotes elements of one of the arrays.
func randomElement(r *rand.Rand, arrays []impl.Array, loops int) impl.Access {
	a := access("A", lin(0, 0, 0, 0, 0))
	if len(arrays) == 0 {
		return a
	}
	x := arrays[r.Intn(len(arrays))]
	a = access(x.Name)
	for _, d := range x.Dims {
		sub := lin(r.Intn(d), 0, 0, 0, 0)
		if loops > 0 && r.Intn(3) == 0 {
			sub.Coefs[r.Intn(loops)] = 1 - 2*r.Intn(2)
		}
		a.Subs = append(a.Subs, sub)
	}
	return a
}

// TestRandomPrograms compares all functions with the definitions for random programs.
func TestRandomPrograms(t *testing.T) {
	r := rand.New(rand.NewSource(6))
	var counts tally
	for range 3000 {
		p := randomProgram(r)
		valid := isProgram(p)
		if valid {
			checkProgram(t, p)
		} else {
			checkBroken(t, fmt.Sprint(p), p)
		}
		// Programs without parts are too simple to be counted.
		if len(p.Parts) > 0 {
			counts.add(valid)
		}
	}
	counts.check(t, 300)
}

func TestProgramInstances(t *testing.T) {
	for lines, want := range map[string]string{
		"":                                          "[]",
		"array A 3":                                 "[]",
		"part/for 0 0/A[i]=1":                       "[]",
		"array A 3/part/A[0]=1":                     "[{0 0 []}]",
		"array A 3/part/A[0]=1/A[1]=2":              "[{0 0 []} {0 1 []}]",
		"array A 3/part/for 1 3/A[i]=1":             "[{0 0 [1]} {0 0 [2]}]",
		"array A 3/part/for -2 0/A[-i]=1":           "[{0 0 [-2]} {0 0 [-1]}]",
		"array A 3/part/for 2 0/A[i]=1":             "[]",
		"array A 3/part/for 0 2/A[i]=1/part/A[0]=2": "[{0 0 [0]} {0 0 [1]} {1 0 []}]",
		// The statements are executed in order at each point, and the parts without points are counted.
		"array A 3/part/for 0 2/A[i]=1/A[0]=2/part/for 0 0/A[i]=1/part/A[0]=3/A[0]=4": "[{0 0 [0]} {0 1 [0]} {0 0 [1]} {0 1 [1]} {2 0 []} {2 1 []}]",
		"array B 2 2/part/for 0 2/for i 2/B[i,j]=1":                                   "[{0 0 [0 0]} {0 0 [0 1]} {0 0 [1 1]}]",
		"array A 1/part/" + farNest(9998, 10000) + "/A[0]=1":                          "[{0 0 [98 980 9799 9998]} {0 0 [98 980 9799 9999]}]",
	} {
		if list := impl.ProgramInstances(programOf(t, lines)); fmt.Sprint(list) != want {
			t.Errorf("ProgramInstances(%s) = %v, not %s", lines, list, want)
		}
	}
	p := programOf(t, "array A 1/part/for 0 30/A[0]=1/A[0]=2/A[0]=3/A[0]=4")
	if n := len(impl.ProgramInstances(p)); n != 120 {
		t.Errorf("there are %d instances", n)
	}
}

func TestCountCells(t *testing.T) {
	for lines, want := range map[string]int{
		"": 0, "part/for 0 0/A[i]=1": 0, "array A 1": 1, "array C 6": 6, "array B 2 4": 8, "array D 6 6": 36, "array A 3/array B 2 4": 11, "array A 1/array B 1/array C 1/array D 1": 4,
		"array A 6 6/array B 6 6/array C 6 6/array D 6 6": 144, "array A 2/part/A[0]=1": 2, "array B 4 5/array C 4": 24,
	} {
		if n := impl.CountCells(programOf(t, lines)); n != want {
			t.Errorf("CountCells(%s) = %d, not %d", lines, n, want)
		}
	}
}

func TestCellOf(t *testing.T) {
	arrays := "array A 3/array B 2 4/array D 5"
	for _, lines := range []string{arrays, arrays + "/part/A[0]=1", arrays + "/part/for 0 2/B[i,i]=A[0]/A[0]=1"} {
		p := programOf(t, lines)
		for _, c := range []struct {
			access string
			point  []int
			cell   int
		}{
			{"A[0]", nil, 0}, {"A[1]", nil, 1}, {"A[2]", nil, 2}, {"A[3]", nil, -1}, {"A[-1]", nil, -1},
			{"B[0,0]", nil, 3}, {"B[0,3]", nil, 6}, {"B[0,4]", nil, -1}, {"B[0,-1]", nil, -1}, {"B[1,0]", nil, 7}, {"B[1,2]", nil, 9}, {"B[1,3]", nil, 10},
			{"B[1,-1]", nil, -1}, {"B[2,0]", nil, -1}, {"B[-1,0]", nil, -1}, {"B[-1,4]", nil, -1}, {"B[2,-4]", nil, -1},
			{"D[0]", nil, 11}, {"D[4]", nil, 15}, {"D[5]", nil, -1}, {"D[-1]", nil, -1},
			// The array is not one of the program, or has another number of dimensions.
			{"C[0]", nil, -1}, {"C[0,0]", nil, -1}, {"A[0,0]", nil, -1}, {"A[0,1]", nil, -1}, {"B[0]", nil, -1}, {"B[1]", nil, -1},
			// All variables can be used; the coordinates that the point does not have are 0.
			{"A[i]", []int{2}, 2}, {"A[i]", []int{3}, -1}, {"A[i]", []int{-1}, -1}, {"A[i]", nil, 0}, {"A[l]", []int{0, 0, 0, 2}, 2}, {"A[l]", []int{1, 1, 1}, 0},
			{"B[i,j]", []int{1, 2}, 9}, {"B[j,i]", []int{2, 1}, 9}, {"B[k,l]", []int{7, 7, 1, 2}, 9}, {"B[i,2]", []int{1}, 9}, {"B[i,2]", []int{2}, -1}, {"B[i,j]", []int{1}, 7},
			{"B[i+1,j-1]", []int{0, 3}, 9}, {"B[i+1,j-1]", []int{0, 0}, -1}, {"D[i+j+k+l]", []int{1, 1, 1, 1}, 15}, {"D[i+j+k+l]", []int{2, 1, 1, 1}, -1},
			// Points at the limits.
			{"D[i-j+4]", []int{9999, 9999}, 15}, {"D[i+j+1]", []int{-9999, 9999}, 12}, {"D[9*i+9*j+9*k+9*l]", []int{9999, -9999, 9999, -9999}, 11}, {"D[9*i+9*j+9*k+9*l]", []int{9999, 9999, 9999, 9999}, -1},
			{"D[0]", []int{9999, -9999, 9999, -9999}, 11},
		} {
			a := stmtOf(t, c.access+"=1").Write
			if n := impl.CellOf(p, a, c.point); n != c.cell {
				t.Errorf("CellOf(%s, %s, %v) = %d, not %d", lines, c.access, c.point, n, c.cell)
			}
		}
		for _, point := range badPoints() {
			if n := impl.CellOf(p, access("A", lin(0, 0, 0, 0, 0)), point); n != -1 {
				t.Errorf("CellOf at %v = %d", point, n)
			}
		}
		for _, a := range badAccesses() {
			if n := impl.CellOf(p, a, []int{0, 0}); n != -1 {
				t.Errorf("CellOf of %v = %d", a, n)
			}
		}
	}
}

func TestInstanceCells(t *testing.T) {
	p := programOf(t, "array A 3/array B 2 4/part/for 0 2/A[i]=(B[1,i]+(A[i]*B[1,i]))/B[i,i+2]=A[i]/part/A[0]=B[1,3]/part/for 0 0/A[i]=1/part/for 1 3/A[i]={i}")
	for _, c := range []struct {
		x     impl.Instance
		reads []int
		write int
	}{
		{impl.Instance{Part: 0, Stmt: 0, Point: []int{0}}, []int{7, 0, 7}, 0},
		{impl.Instance{Part: 0, Stmt: 1, Point: []int{0}}, []int{0}, 5},
		{impl.Instance{Part: 0, Stmt: 0, Point: []int{1}}, []int{8, 1, 8}, 1},
		{impl.Instance{Part: 0, Stmt: 1, Point: []int{1}}, []int{1}, 10},
		{impl.Instance{Part: 1}, []int{10}, 0},
		{impl.Instance{Part: 1, Point: []int{}}, []int{10}, 0},
		{impl.Instance{Part: 3, Point: []int{1}}, nil, 1},
		{impl.Instance{Part: 3, Point: []int{2}}, nil, 2},
	} {
		reads, write, ok := impl.InstanceCells(p, c.x)
		if !ok || !slices.Equal(reads, c.reads) || write != c.write {
			t.Errorf("InstanceCells(%v) = %v, %d, %v", c.x, reads, write, ok)
		}
	}
}

// refusingProgram has parts with different numbers of loops and statements, and one without points.
const refusingProgram = "array A 3/part/for 0 3/A[i]=(A[1]-1)/A[2]=1/part/A[0]=A[1]/part/for 0 0/A[i]=1/part/for 0 1/for 0 1/A[i]=A[j]"

// instancesNear yields the instances of refusingProgram and others, whose parts, statements or points are not those of the program.
func instancesNear() iter.Seq[impl.Instance] {
	indices := []int{-1, 0, 1, 2, 3, 4, 5, math.MaxInt, math.MinInt}
	points := append(append(badPoints(), boxPoints(1, 4)...), boxPoints(2, 2)...)
	points = append(points, nil, []int{0, 0, 0}, []int{9999}, []int{0, 9999}, []int{0, 0, 0, 0})
	return func(yield func(impl.Instance) bool) {
		for _, part := range indices {
			for _, stmt := range indices {
				for _, point := range points {
					if !yield(impl.Instance{Part: part, Stmt: stmt, Point: point}) {
						return
					}
				}
			}
		}
	}
}

func TestInstanceCellsRefuses(t *testing.T) {
	p := programOf(t, refusingProgram)
	real := impl.ProgramInstances(p)
	found := 0
	for x := range instancesNear() {
		in := slices.ContainsFunc(real, func(y impl.Instance) bool { return sameInstance(x, y) })
		reads, write, ok := impl.InstanceCells(p, x)
		if ok != in || !ok && (len(reads) != 0 || write != 0) {
			t.Errorf("InstanceCells(%v) = %v, %d, %v", x, reads, write, ok)
		}
		if ok {
			found++
		}
	}
	if found != len(real) {
		t.Errorf("%d of %d instances are found", found, len(real))
	}
}

// appendToProgram appends to all slices of a program, which changes what shares their unused memory.
func appendToProgram(p *impl.Program) {
	_ = append(p.Arrays, impl.Array{Name: "X"})
	_ = append(p.Parts, impl.Part{Nest: []impl.Loop{{}}})
	for _, a := range p.Arrays {
		_ = append(a.Dims, 55)
	}
	for n := range p.Parts {
		x := &p.Parts[n]
		_ = append(x.Nest, impl.Loop{Lo: side(1)})
		_ = append(x.Body, assign(numExpr(44)))
		for _, l := range x.Nest {
			for _, s := range [][]impl.Affine{l.Lo, l.Hi} {
				for _, a := range append(s, lin(33)) {
					_ = append(a.Coefs, 22)
				}
			}
		}
		for k := range x.Body {
			appendEverywhere(&x.Body[k])
		}
	}
}

// TestProgramMemory checks that results are in memory of their own.
func TestProgramMemory(t *testing.T) {
	lines := "array A 3/array B 2 4/part/for 0 2/for 0,i 2,2/A[i]=(A[j]+B[i,j])/A[j]=({i}-1)/part/A[0]=1"
	p, q, x := programOf(t, lines), programOf(t, lines), programOf(t, lines)
	checkOwnPrograms(t, "ParseProgram", []*impl.Program{&p, &q, &x})
}

// checkOwnPrograms changes the numbers of programs and appends to their lists, which must not change other numbers of any of them.
func checkOwnPrograms(t *testing.T, what string, programs []*impl.Program) {
	t.Helper()
	var wanted []impl.Program
	number := 100
	for _, p := range programs {
		changed := copyProgram(*p)
		for _, n := range numbersOf(&changed) {
			number++
			*n = number
		}
		wanted = append(wanted, changed)
	}
	number = 100
	for _, p := range programs {
		appendToProgram(p)
		for _, n := range numbersOf(p) {
			number++
			*n = number
		}
	}
	for n, p := range programs {
		if !impl.ProgramSame(*p, wanted[n]) {
			t.Errorf("%s: the program %d shares memory: %v", what, n, *p)
		}
	}
}

// checkOwnMemory changes the numbers of lists and appends to them, which must not change the other lists.
func checkOwnMemory(t *testing.T, lists [][]int) {
	t.Helper()
	number := 0
	for _, list := range lists {
		_ = append(list, -1, -1)
		for k := range list {
			number++
			list[k] = number
		}
	}
	number = 0
	for n, list := range lists {
		for k := range list {
			number++
			if list[k] != number {
				t.Errorf("the list %d shares memory: %v", n, list)
			}
		}
	}
}

// TestInstancesMemory checks that the points of instances and lists of cells are in memory of their own.
func TestInstancesMemory(t *testing.T) {
	p := programOf(t, "array A 3/array B 2 4/part/for 0 2/for 0 2/A[i]=(A[j]+B[i,j])/A[j]=({i}-1)/part/A[0]=1")
	kept := copyProgram(p)
	var lists [][]int
	for range 2 {
		list := impl.ProgramInstances(p)
		_ = append(list, impl.Instance{Part: 7})
		for _, x := range list {
			lists = append(lists, x.Point)
			reads, _, _ := impl.InstanceCells(p, x)
			lists = append(lists, reads)
		}
	}
	checkOwnMemory(t, lists)
	if !impl.ProgramSame(p, kept) {
		t.Errorf("the program is changed to %v", p)
	}
}

// TestProgramArguments checks that no function changes an argument or the memory behind it.
func TestProgramArguments(t *testing.T) {
	p := programOf(t, "array A 3/array B 2 4/part/for 0 2/for 0,i 2,2/A[i]=(A[j]+B[i,j])/A[j]=({i}-1)/part/A[0]=1")
	// The arrays, parts, dimensions, loops, statements and points have others behind them.
	p.Arrays = append(p.Arrays, impl.Array{Name: "X", Dims: []int{9}})[:2]
	p.Parts = append(p.Parts, impl.Part{Nest: []impl.Loop{{}}})[:2]
	p.Arrays[0].Dims = append(p.Arrays[0].Dims, 9)[:1]
	p.Parts[0].Nest = append(p.Parts[0].Nest, impl.Loop{Lo: side(9)})[:2]
	p.Parts[0].Body = append(p.Parts[0].Body, assign(numExpr(9)))[:2]
	point := []int{1, 1, 9}
	x := impl.Instance{Part: 0, Stmt: 0, Point: point[:2]}
	whole := impl.Program{Arrays: p.Arrays[:3], Parts: p.Parts[:3]}
	kept, keptWhole := copyProgram(p), copyProgram(whole)
	impl.ProgramValid(p)
	impl.ProgramSame(p, kept)
	impl.FormatProgram(p)
	impl.ProgramInstances(p)
	impl.CountCells(p)
	a := p.Parts[0].Body[0].Write
	if n := impl.CellOf(p, a, point[:2]); n != 1 {
		t.Errorf("CellOf = %d", n)
	}
	if _, _, ok := impl.InstanceCells(p, x); !ok {
		t.Error("InstanceCells returns false")
	}
	if fmt.Sprint(p) != fmt.Sprint(kept) || fmt.Sprint(whole) != fmt.Sprint(keptWhole) || !slices.Equal(point, []int{1, 1, 9}) {
		t.Errorf("arguments are changed to %v, %v", whole, point)
	}
	if p.Arrays[0].Dims[:2][1] != 9 || p.Parts[0].Nest[:3][2].Lo[0].Const != 9 || p.Parts[0].Body[:3][2].Value.Num != 9 {
		t.Error("the memory behind arguments is changed")
	}
}
