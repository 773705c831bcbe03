package tests

import (
	"fmt"
	"iter"
	"math"
	"math/rand"
	"slices"
	"testing"

	"loop.example/loopnests/impl"
)

// relation has the dependences of a program, directly from their definition.
type relation struct {
	count int
	deps  []impl.Dep
}

func relationOf(p impl.Program) relation {
	x := accessesOf(p)
	return relation{len(x.instances), x.deps()}
}

// broken returns the dependences that an order breaks.
func (x relation) broken(order []int) []impl.Dep {
	var list []impl.Dep
	for _, d := range x.deps {
		if slices.Index(order, d.To) < slices.Index(order, d.From) {
			list = append(list, d)
		}
	}
	return list
}

// levels returns the levels: it increases those that are too small until there are no others.
func (x relation) levels() []int {
	levels := make([]int, x.count)
	for changed := true; changed; {
		changed = false
		for _, d := range x.deps {
			if levels[d.To] <= levels[d.From] {
				levels[d.To] = levels[d.From] + 1
				changed = true
			}
		}
	}
	return levels
}

func (x relation) critical() int {
	if x.count == 0 {
		return 0
	}
	return 1 + slices.Max(x.levels())
}

// latest returns the latest levels: it decreases those that are too great until there are no others.
func (x relation) latest() []int {
	latest := slices.Repeat([]int{x.critical() - 1}, x.count)
	for changed := true; changed; {
		changed = false
		for _, d := range x.deps {
			if latest[d.From] >= latest[d.To] {
				latest[d.From] = latest[d.To] - 1
				changed = true
			}
		}
	}
	return latest
}

// connected gives each instance the lesser number of those that it depends on or that depend on it, until there are no others.
func (x relation) connected() []int {
	list := upTo(x.count)
	for changed := true; changed; {
		changed = false
		for _, d := range x.deps {
			if list[d.From] != list[d.To] {
				least := min(list[d.From], list[d.To])
				list[d.From], list[d.To] = least, least
				changed = true
			}
		}
	}
	return list
}

// able returns the instances that can be chosen next, in ascending order.
func (x relation) able(order []int) []int {
	var list []int
	for n := range x.count {
		waits := slices.ContainsFunc(x.deps, func(d impl.Dep) bool { return d.To == n && !slices.Contains(order, d.From) })
		if !waits && !slices.Contains(order, n) {
			list = append(list, n)
		}
	}
	return list
}

// greedy returns the order that choices build; only positive ones choose another instance than the first one.
func (x relation) greedy(choices []int) []int {
	var order []int
	for n := range x.count {
		able := x.able(order)
		number := 0
		if len(choices) > 0 {
			number = max(0, choices[n%len(choices)]) % len(able)
		}
		order = append(order, able[number])
	}
	return order
}

// choicesFor returns the choices that build a legal order.
func (x relation) choicesFor(order []int) []int {
	var choices []int
	for n, next := range order {
		choices = append(choices, slices.Index(x.able(order[:n]), next))
	}
	return choices
}

// sortedBy returns the numbers from 0 up to the number of keys, ordered by their keys.
func sortedBy(keys []int) []int {
	order := upTo(len(keys))
	slices.SortStableFunc(order, func(a int, b int) int { return keys[a] - keys[b] })
	return order
}

// randomChoices returns choices of which some are negative, and some are greater than the number of instances.
func randomChoices(r *rand.Rand) []int {
	var choices []int
	for range r.Intn(8) {
		choices = append(choices, r.Intn(40)-r.Intn(20))
	}
	return choices
}

// checkLevels compares what the functions return for a program with the definitions.
func checkLevels(t *testing.T, p impl.Program) {
	t.Helper()
	x := relationOf(p)
	text := impl.FormatProgram(p)
	if list := impl.LevelsOf(p); !slices.Equal(list, x.levels()) {
		t.Errorf("LevelsOf(%q) = %v, not %v", text, list, x.levels())
	}
	if list := impl.LatestLevels(p); !slices.Equal(list, x.latest()) {
		t.Errorf("LatestLevels(%q) = %v, not %v", text, list, x.latest())
	}
	if list := impl.LevelOrder(p); !slices.Equal(list, sortedBy(x.levels())) {
		t.Errorf("LevelOrder(%q) = %v, not %v", text, list, sortedBy(x.levels()))
	}
	if n := impl.CriticalLength(p); n != x.critical() {
		t.Errorf("CriticalLength(%q) = %d, not %d", text, n, x.critical())
	}
	if list := impl.ConnectedParts(p); !slices.Equal(list, x.connected()) {
		t.Errorf("ConnectedParts(%q) = %v, not %v", text, list, x.connected())
	}
}

// checkOrder compares what the functions return for a program and one of its orders with the definitions; legal orders must lead to the memory of the program.
// It returns whether the order is legal.
func checkOrder(t *testing.T, p impl.Program, x relation, memories [][]int, order []int) bool {
	t.Helper()
	text := impl.FormatProgram(p)
	broken := x.broken(order)
	legal := len(broken) == 0
	if impl.OrderLegal(p, order) != legal {
		t.Errorf("OrderLegal(%q, %v) is %v", text, order, !legal)
	}
	var first impl.Dep
	if !legal {
		first = broken[0]
	}
	if d, ok := impl.OrderBroken(p, order); ok == legal || d != first {
		t.Errorf("OrderBroken(%q, %v) = %v, %v, not %v", text, order, d, ok, first)
	}
	if legal {
		checkSameMemory(t, p, memories, order)
	}
	return legal
}

// checkSameMemory checks that an order leads to the memory of the program.
func checkSameMemory(t *testing.T, p impl.Program, memories [][]int, order []int) {
	t.Helper()
	for _, m := range memories {
		want, _ := impl.RunProgram(p, m)
		if got, ok := impl.RunOrder(p, m, order); !ok || !slices.Equal(got, want) {
			t.Errorf("the order %v of %q leads from %v to %v, %v, not %v", order, impl.FormatProgram(p), m, got, ok, want)
		}
	}
}

// checkGreedy compares GreedyOrder with the definition; its order must be legal.
func checkGreedy(t *testing.T, p impl.Program, x relation, memories [][]int, choices []int) {
	t.Helper()
	order := impl.GreedyOrder(p, choices)
	if want := x.greedy(choices); !slices.Equal(order, want) {
		t.Errorf("GreedyOrder(%q, %v) = %v, not %v", impl.FormatProgram(p), choices, order, want)
		return
	}
	if !checkOrder(t, p, x, memories, order) {
		t.Errorf("GreedyOrder(%q, %v) = %v, which is not legal", impl.FormatProgram(p), choices, order)
	}
}

// checkOrders checks the levels and many orders of a program.
func checkOrders(t *testing.T, r *rand.Rand, p impl.Program) {
	t.Helper()
	checkLevels(t, p)
	x := relationOf(p)
	memories := memoriesOf(r, impl.CountCells(p))[3:]
	// These orders respect all dependences.
	for _, order := range [][]int{upTo(x.count), impl.LevelOrder(p), sortedBy(impl.LatestLevels(p)), sortedBy(impl.ConnectedParts(p))} {
		if !checkOrder(t, p, x, memories, order) {
			t.Errorf("the order %v of %q is not legal", order, impl.FormatProgram(p))
		}
	}
	checkOrder(t, p, x, memories, reversed(upTo(x.count)))
	checkOrder(t, p, x, memories, r.Perm(x.count))
	for _, choices := range [][]int{nil, {}, {0}, {1}, {-1}, {math.MaxInt}, {math.MinInt}, randomChoices(r), randomChoices(r)} {
		checkGreedy(t, p, x, memories, choices)
	}
}

func TestOrdersOfPrograms(t *testing.T) {
	r := rand.New(rand.NewSource(5))
	for _, lines := range validPrograms() {
		checkOrders(t, r, programOf(t, lines))
	}
}

func TestRandomOrders(t *testing.T) {
	r := rand.New(rand.NewSource(8))
	count, slack, other, groups := 0, 0, 0, 0
	for n := range 2500 {
		p := denseProgram(r)
		if n%3 == 0 {
			p = randomProgram(r)
			randomLeaves(r, &p)
		}
		if !impl.ProgramValid(p) || len(p.Parts) == 0 || len(impl.ProgramInstances(p)) > 40 {
			continue
		}
		count++
		checkOrders(t, r, p)
		x := relationOf(p)
		if !slices.Equal(x.levels(), x.latest()) {
			slack++
		}
		if !slices.IsSorted(x.greedy([]int{1})) {
			other++
		}
		if list := x.connected(); len(list) > 0 && slices.Max(list) > 0 {
			groups++
		}
	}
	if count < 300 || slack < 100 || other < 100 || groups < 100 {
		t.Errorf("of %d programs, %d have instances that can be later, %d other legal orders, and %d several groups", count, slack, other, groups)
	}
}

// permutations yields all orders of a number of instances.
func permutations(count int) iter.Seq[[]int] {
	return func(yield func([]int) bool) {
		if count == 0 {
			yield(nil)
			return
		}
		for order := range permutations(count - 1) {
			for place := range count {
				if !yield(slices.Insert(slices.Clone(order), place, count-1)) {
					return
				}
			}
		}
	}
}

// smallPrograms are the lines of programs with few instances, and the number of their legal orders.
func smallPrograms() map[string]int {
	return map[string]int{
		"": 1, "array A 3": 1, "array A 3/part/for 0 0/A[i]=A[i]": 1, "array A 1/part/A[0]=1": 1,
		// All orders are legal, or only one is.
		"array A 4/part/for 0 4/A[i]={i}": 24, "array A 4/part/A[0]=1/A[1]=2/A[2]=3/A[3]=4": 24, "array A 4/part/for 0 3/A[i+1]=A[i]": 1, "array A 1/part/for 0 5/A[0]=(A[0]*{i+2})": 1,
		"array A 4/part/for 0 3/A[i]=A[i+1]": 1, "array A 1/part/A[0]=1/A[0]=2/A[0]=3": 1,
		// Each kind of dependences alone.
		"array A 2/array B 1/part/A[0]=9/A[1]=A[0]/B[0]=1": 3, "array A 2/array B 1/part/A[0]=A[1]/A[1]=9/B[0]=1": 3, "array A 2/array B 1/part/A[0]=A[1]/A[0]=9/B[0]=1": 3,
		// Instances that only read the same cell.
		"array A 4/part/for 0 3/A[i]=A[3]": 6, "array A 4/part/for 0 3/A[i]=(A[i]+A[3])": 6,
		// Instances that depend on several others, or on which several others depend.
		"array A 3/part/A[0]=1/A[1]=2/A[2]=(A[0]+A[1])": 2, "array A 4/part/A[0]=1/A[1]=A[0]/A[2]=A[0]/A[3]=A[0]": 6, "array A 4/part/for 0 3/A[i]={i+1}/part/A[3]=(A[0]+(A[1]*A[2]))": 6,
		"array A 4/part/A[0]=1/A[1]=A[0]/A[2]=A[0]/A[3]=(A[1]-A[2])": 2,
		// Two chains, in one part and in two.
		"array A 4/array B 4/part/for 0 3/A[i+1]=A[i]/B[i+1]=(B[i]+1)": 20, "array A 4/array B 4/part/for 0 3/A[i+1]=A[i]/part/for 0 3/B[i+1]=(B[i]+1)": 20,
		"array A 3/part/for 0 2/A[i]=1/part/for 0 2/A[i+1]=A[i]": 2, "array A 4/array C 3/part/for 0 3/A[i+1]=A[i]/C[i]=A[i+1]": 15,
		"array B 2 3/part/for 0 2/for 0 3/B[i,j]=(B[i,0]+{j})": 80,
	}
}

// TestAllOrders checks all orders of small programs; each legal one can be built by choices.
func TestAllOrders(t *testing.T) {
	r := rand.New(rand.NewSource(9))
	for lines, want := range smallPrograms() {
		p := programOf(t, lines)
		x := relationOf(p)
		memories := memoriesOf(r, impl.CountCells(p))
		count := 0
		for order := range permutations(x.count) {
			if !checkOrder(t, p, x, memories, order) {
				continue
			}
			count++
			if got := impl.GreedyOrder(p, x.choicesFor(order)); !slices.Equal(got, order) {
				t.Errorf("GreedyOrder(%s, %v) = %v, not %v", lines, x.choicesFor(order), got, order)
			}
		}
		if count != want {
			t.Errorf("%s has %d legal orders, not %d", lines, count, want)
		}
		checkOrders(t, r, p)
	}
}

// ordersCase has the lines of a program, and what the functions return for it, as texts.
type ordersCase struct {
	lines, levels, latest, order, connected string
	length                                  int
}

func (c ordersCase) check(t *testing.T) {
	t.Helper()
	p := programOf(t, c.lines)
	got := ordersCase{c.lines, fmt.Sprint(impl.LevelsOf(p)), fmt.Sprint(impl.LatestLevels(p)), fmt.Sprint(impl.LevelOrder(p)), fmt.Sprint(impl.ConnectedParts(p)), impl.CriticalLength(p)}
	if got != c {
		t.Errorf("%+v, not %+v", got, c)
	}
}

func TestLevelCases(t *testing.T) {
	for _, c := range []ordersCase{
		// Programs without instances.
		{"", "[]", "[]", "[]", "[]", 0},
		{"array A 3", "[]", "[]", "[]", "[]", 0},
		{"array A 3/part/for 0 0/A[i]=A[i]/A[i]=1", "[]", "[]", "[]", "[]", 0},
		// The example of the chapter: each instance depends on the one before it.
		{"array A 4/part/for 0 3/A[i+1]=A[i]", "[0 1 2]", "[0 1 2]", "[0 1 2]", "[0 0 0]", 3},
		{"array A 1/part/for 0 3/A[0]=(A[0]+{i})", "[0 1 2]", "[0 1 2]", "[0 1 2]", "[0 0 0]", 3},
		// Parts without loops.
		{"array A 1/part/A[0]=A[0]", "[0]", "[0]", "[0]", "[0]", 1},
		{"array A 2/part/A[0]=1/A[1]=2", "[0 0]", "[0 0]", "[0 1]", "[0 1]", 1},
		{"array A 2/part/A[0]=1/part/A[1]=A[0]/part/A[0]=A[0]", "[0 1 2]", "[0 1 2]", "[0 1 2]", "[0 0 0]", 3},
		// Instances that depend on no other one, although some of them read the same cell.
		{"array A 3/part/for 0 3/A[i]=1", "[0 0 0]", "[0 0 0]", "[0 1 2]", "[0 1 2]", 1},
		{"array A 3/array B 3/part/for 0 3/A[i]=(B[i]+B[0])", "[0 0 0]", "[0 0 0]", "[0 1 2]", "[0 1 2]", 1},
		// Each kind of dependences alone, and several kinds between the same two instances.
		{"array A 2/part/A[0]=9/A[1]=A[0]", "[0 1]", "[0 1]", "[0 1]", "[0 0]", 2},
		{"array A 2/part/A[0]=A[1]/A[1]=9", "[0 1]", "[0 1]", "[0 1]", "[0 0]", 2},
		{"array A 2/part/A[0]=A[1]/A[0]=A[1]", "[0 1]", "[0 1]", "[0 1]", "[0 0]", 2},
		{"array A 2/part/A[0]=A[1]/A[1]=A[0]", "[0 1]", "[0 1]", "[0 1]", "[0 0]", 2},
		{"array A 2/part/A[0]=(A[1]-A[0])/A[0]=(A[0]*A[1])", "[0 1]", "[0 1]", "[0 1]", "[0 0]", 2},
		// An instance that depends on several others, which are connected only through it.
		{"array A 3/part/A[0]=1/A[1]=2/A[2]=(A[0]+A[1])", "[0 0 1]", "[0 0 1]", "[0 1 2]", "[0 0 0]", 2},
		{"array A 3/part/A[2]=1/A[0]=A[2]/A[1]=(A[0]+A[2])", "[0 1 2]", "[0 1 2]", "[0 1 2]", "[0 0 0]", 3},
		{"array A 4/part/A[0]=1/A[1]=A[0]/A[2]=5/A[3]=(A[2]+(A[1]+A[2]))", "[0 1 0 2]", "[0 1 1 2]", "[0 2 1 3]", "[0 0 0 0]", 3},
		// Several instances that depend on one, and are connected only through it.
		{"array A 4/part/A[0]=1/A[1]=A[0]/A[2]=A[0]/A[3]=A[1]", "[0 1 1 2]", "[0 1 2 2]", "[0 1 2 3]", "[0 0 0 0]", 3},
		// The first instance is connected only late, or with another one than that before it.
		{"array A 1/array B 2/array C 1/part/A[0]=1/B[0]=1/B[1]=B[0]/C[0]=(A[0]+B[1])", "[0 0 1 2]", "[1 0 1 2]", "[0 1 2 3]", "[0 0 0 0]", 3},
		{"array A 1/array B 2/array C 1/part/A[0]=1/B[0]=1/B[1]=B[0]/C[0]=A[0]", "[0 0 1 1]", "[0 0 1 1]", "[0 1 2 3]", "[0 1 1 0]", 2},
		{"array A 6/part/for 0 3/A[i]=1/part/for 0 3/A[i+3]=A[-i+2]", "[0 0 0 1 1 1]", "[0 0 0 1 1 1]", "[0 1 2 3 4 5]", "[0 1 2 2 1 0]", 2},
		// Two chains that no instance connects, and that the last instance connects.
		{"array A 4/array B 4/part/for 0 3/A[i+1]=A[i]/B[i+1]=B[i]", "[0 0 1 1 2 2]", "[0 0 1 1 2 2]", "[0 1 2 3 4 5]", "[0 1 0 1 0 1]", 3},
		{"array A 4/array B 4/part/for 0 2/A[i+1]=A[i]/B[i+1]=B[i]/part/A[3]=(A[2]+B[2])", "[0 0 1 1 2]", "[0 0 1 1 2]", "[0 1 2 3 4]", "[0 0 0 0 0]", 3},
		{"array A 4/array B 4/part/for 0 3/A[i+1]=A[i]/part/for 0 2/B[i+1]=B[i]", "[0 1 2 0 1]", "[0 1 2 1 2]", "[0 3 1 4 2]", "[0 0 0 3 3]", 3},
		// Instances that can be later than their levels.
		{"array A 4/array C 3/part/for 0 3/A[i+1]=A[i]/C[i]=A[i+1]", "[0 1 1 2 2 3]", "[0 3 1 3 2 3]", "[0 1 2 3 4 5]", "[0 0 0 0 0 0]", 4},
		{"array A 3/array B 2/part/A[0]=1/B[0]=2/A[1]=A[0]/B[1]=3/part/A[2]=A[1]", "[0 0 1 0 2]", "[0 2 1 2 2]", "[0 1 3 2 4]", "[0 1 0 3 0]", 3},
		// Dependences between instances of different parts.
		{"array A 3/part/for 0 2/A[i]=1/part/for 0 2/A[i+1]=A[i]", "[0 0 1 2]", "[0 0 1 2]", "[0 1 2 3]", "[0 0 0 0]", 3},
		{"array A 3/array B 3/part/for 0 3/A[i]=1/part/for 0 0/B[i]=A[i]/part/for 0 3/B[i]=A[-i+2]", "[0 0 0 1 1 1]", "[0 0 0 1 1 1]", "[0 1 2 3 4 5]", "[0 1 2 2 1 0]", 2},
		// Several loops.
		{"array B 3 3/part/for 0 2/for 0 2/B[i+1,j]=B[i,j+1]", "[0 0 1 0]", "[1 0 1 1]", "[0 1 3 2]", "[0 1 1 3]", 2},
		{"array A 2/part/for 0 2/for 0 2/A[j]=A[i]", "[0 1 2 3]", "[0 1 2 3]", "[0 1 2 3]", "[0 0 0 0]", 4},
		{"array A 1/part/" + farNest(9998, 10000) + "/A[0]={l}", "[0 1]", "[0 1]", "[0 1]", "[0 0]", 2},
	} {
		c.check(t)
	}
}

// TestMostInstances checks the greatest number of instances, each of which depends on all before it, on none, or on the one 30 before it.
func TestMostInstances(t *testing.T) {
	r := rand.New(rand.NewSource(10))
	dense := programOf(t, "array A 1/part/for -60 60/A[0]=(A[0]-{i})")
	if !slices.Equal(impl.LevelsOf(dense), upTo(120)) || !slices.Equal(impl.LatestLevels(dense), upTo(120)) || impl.CriticalLength(dense) != 120 {
		t.Error("the levels are wrong if each instance depends on all before it")
	}
	if !slices.Equal(impl.LevelOrder(dense), upTo(120)) || !slices.Equal(impl.GreedyOrder(dense, []int{7, -7}), upTo(120)) || !slices.Equal(impl.ConnectedParts(dense), make([]int, 120)) {
		t.Error("the orders are wrong if each instance depends on all before it")
	}
	if d, ok := impl.OrderBroken(dense, reversed(upTo(120))); !ok || d != (impl.Dep{From: 0, To: 1, Kinds: 7}) {
		t.Errorf("OrderBroken = %v, %v", d, ok)
	}
	loose := programOf(t, "array A 5 6/array B 5 6/array C 5 6/array D 5 6/part/for 0 5/for 0 6/A[i,j]=1/B[i,j]=2/C[i,j]=3/D[i,j]=4")
	if !slices.Equal(impl.LevelsOf(loose), make([]int, 120)) || !slices.Equal(impl.LatestLevels(loose), make([]int, 120)) || impl.CriticalLength(loose) != 1 || !slices.Equal(impl.ConnectedParts(loose), upTo(120)) {
		t.Error("the levels are wrong if no instance depends on another one")
	}
	// In each step, the last one of the instances is chosen.
	if !slices.Equal(impl.GreedyOrder(loose, reversed(upTo(120))), reversed(upTo(120))) || !impl.OrderLegal(loose, reversed(upTo(120))) {
		t.Error("the orders are wrong if no instance depends on another one")
	}
	chains := programOf(t, "array A 5 6/part/for 0 4/for 0 5/for 0 6/A[j,k]=(A[j,k]+1)")
	for n, level := range impl.LevelsOf(chains) {
		if level != n/30 || impl.LatestLevels(chains)[n] != n/30 || impl.ConnectedParts(chains)[n] != n%30 {
			t.Errorf("the level of %d is %d", n, level)
		}
	}
	for _, p := range []impl.Program{loose, chains} {
		for range 10 {
			order := impl.GreedyOrder(p, randomChoices(r))
			if !impl.OrderLegal(p, order) {
				t.Errorf("the order %v is not legal", order)
			}
			checkSameMemory(t, p, memoriesOf(r, impl.CountCells(p)), order)
		}
	}
}

// TestGreedyChoices checks orders that are built step by step.
func TestGreedyChoices(t *testing.T) {
	free := "array A 4/part/for 0 4/A[i]={i}"
	chains := "array A 4/array C 3/part/for 0 3/A[i+1]=A[i]/C[i]=A[i+1]"
	pair := "array A 2/array B 2/part/A[0]=1/A[1]=A[0]/B[0]=2/B[1]=3"
	for _, c := range []struct {
		lines   string
		choices []int
		want    string
	}{
		// No choices, and the choice of the first one.
		{free, nil, "[0 1 2 3]"}, {free, []int{}, "[0 1 2 3]"}, {free, []int{0}, "[0 1 2 3]"}, {free, []int{0, 0, 0, 0}, "[0 1 2 3]"},
		// As many choices as steps.
		{free, []int{3, 2, 1, 0}, "[3 2 1 0]"}, {free, []int{2, 2, 0, 0}, "[2 3 0 1]"}, {free, []int{1, 1, 1, 0}, "[1 2 3 0]"},
		// Fewer choices than steps, and more.
		{free, []int{1}, "[1 2 3 0]"}, {free, []int{0, 1}, "[0 2 1 3]"}, {free, []int{1, 0}, "[1 0 3 2]"}, {free, []int{2, 0, 1}, "[2 0 3 1]"}, {free, []int{2, 1, 1, 0, 99, 98}, "[2 1 3 0]"},
		// Choices that are greater than the number of instances that can be chosen, or equal to it.
		{free, []int{3}, "[3 0 2 1]"}, {free, []int{4}, "[0 2 1 3]"}, {free, []int{5}, "[1 3 2 0]"}, {free, []int{4, 3, 2, 1}, "[0 1 2 3]"}, {free, []int{12}, "[0 1 2 3]"}, {free, []int{math.MaxInt}, "[3 1 2 0]"},
		// Negative choices, with remainders of all kinds.
		{free, []int{-1}, "[0 1 2 3]"}, {free, []int{-2}, "[0 1 2 3]"}, {free, []int{-4}, "[0 1 2 3]"}, {free, []int{-5}, "[0 1 2 3]"}, {free, []int{-7}, "[0 1 2 3]"}, {free, []int{math.MinInt}, "[0 1 2 3]"},
		{free, []int{-3, 2}, "[0 3 1 2]"}, {free, []int{2, -1}, "[2 0 1 3]"}, {free, []int{3, -3, 1, -1}, "[3 0 2 1]"},
		// Dependences: the only legal order, and instances that can be chosen only later.
		{"array A 4/part/for 0 3/A[i+1]=A[i]", []int{1, 2, -1}, "[0 1 2]"}, {"array A 1/part/for 0 3/A[0]=(A[0]+{i})", []int{5}, "[0 1 2]"},
		{chains, nil, "[0 1 2 3 4 5]"}, {chains, []int{1}, "[0 2 3 4 5 1]"}, {chains, []int{0, 1, 1, 2, 1, 0}, "[0 2 3 1 4 5]"}, {chains, []int{0, 1, 2, 2, 1, 0}, "[0 2 4 5 3 1]"}, {chains, []int{2, -2}, "[0 1 2 3 4 5]"},
		// An instance that can be chosen later than others after it, but comes before them.
		{pair, []int{0}, "[0 1 2 3]"}, {pair, []int{1}, "[2 3 0 1]"}, {pair, []int{2, 0, 0, 0}, "[3 0 1 2]"}, {pair, []int{0, 1}, "[0 2 1 3]"}, {pair, []int{1, 0, 1, 0}, "[2 0 3 1]"}, {pair, []int{0, 2}, "[0 3 1 2]"},
		{pair, []int{-1, 2, 1}, "[0 3 2 1]"},
		// Two dependences of an instance on the same one, of several kinds, and on several instances.
		{"array A 2/array B 1/part/A[0]=(A[1]-A[0])/A[0]=(A[0]*A[1])/B[0]=1", []int{1}, "[2 0 1]"}, {"array A 2/array B 1/part/A[0]=(A[1]-A[0])/A[0]=(A[0]*A[1])/B[0]=1", []int{0, 1}, "[0 2 1]"},
		{"array A 3/part/A[0]=1/A[1]=2/A[2]=(A[0]+A[1])", []int{1}, "[1 0 2]"}, {"array A 4/part/A[0]=1/A[1]=2/A[2]=(A[0]+A[1])/A[3]=7", []int{1, 1}, "[1 3 0 2]"},
		// Different parts.
		{"array A 3/part/for 0 2/A[i]=1/part/for 0 2/A[i+1]=A[i]", []int{1}, "[1 0 2 3]"}, {"array A 2/array B 2/part/for 0 2/A[i]=1/part/for 0 2/B[i]=A[i]", []int{1, 1, 0, 0}, "[1 3 0 2]"},
		// Programs without instances.
		{"", nil, "[]"}, {"", []int{1, 2}, "[]"}, {"array A 3/part/for 0 0/A[i]=A[i]", []int{-1}, "[]"}, {"array A 1/part/A[0]=1", []int{9}, "[0]"},
	} {
		if order := impl.GreedyOrder(programOf(t, c.lines), c.choices); fmt.Sprint(order) != c.want {
			t.Errorf("GreedyOrder(%s, %v) = %v, not %s", c.lines, c.choices, order, c.want)
		}
	}
}

// TestBrokenCases checks the first broken dependence of orders, also of such that break several; no dependence stands for a legal order.
func TestBrokenCases(t *testing.T) {
	chain := "array A 4/part/for 0 3/A[i+1]=A[i]"
	mixed := "array A 3/part/for 0 2/A[i]=1/part/for 0 2/A[i+1]=A[i]"
	kinds := "array A 2/part/A[0]=(A[1]-A[0])/A[0]=(A[0]*A[1])/A[1]=A[0]"
	for _, c := range []struct {
		lines string
		order []int
		want  impl.Dep
	}{
		{chain, []int{0, 1, 2}, impl.Dep{}}, {chain, []int{2, 1, 0}, impl.Dep{From: 0, To: 1, Kinds: 1}}, {chain, []int{0, 2, 1}, impl.Dep{From: 1, To: 2, Kinds: 1}},
		{chain, []int{1, 0, 2}, impl.Dep{From: 0, To: 1, Kinds: 1}}, {chain, []int{2, 0, 1}, impl.Dep{From: 1, To: 2, Kinds: 1}}, {chain, []int{1, 2, 0}, impl.Dep{From: 0, To: 1, Kinds: 1}},
		// The dependences are {0 2 1}, {1 2 4}, {1 3 1} and {2 3 1}.
		{mixed, []int{0, 1, 2, 3}, impl.Dep{}}, {mixed, []int{1, 0, 2, 3}, impl.Dep{}}, {mixed, []int{3, 2, 1, 0}, impl.Dep{From: 0, To: 2, Kinds: 1}}, {mixed, []int{3, 1, 2, 0}, impl.Dep{From: 0, To: 2, Kinds: 1}},
		{mixed, []int{0, 3, 2, 1}, impl.Dep{From: 1, To: 2, Kinds: 4}}, {mixed, []int{0, 2, 1, 3}, impl.Dep{From: 1, To: 2, Kinds: 4}}, {mixed, []int{0, 3, 1, 2}, impl.Dep{From: 1, To: 3, Kinds: 1}},
		{mixed, []int{0, 1, 3, 2}, impl.Dep{From: 2, To: 3, Kinds: 1}},
		// The dependences are {0 1 7}, {0 2 3} and {1 2 3}.
		{kinds, []int{0, 1, 2}, impl.Dep{}}, {kinds, []int{2, 1, 0}, impl.Dep{From: 0, To: 1, Kinds: 7}}, {kinds, []int{2, 0, 1}, impl.Dep{From: 0, To: 2, Kinds: 3}}, {kinds, []int{0, 2, 1}, impl.Dep{From: 1, To: 2, Kinds: 3}},
		// Instances that do not depend on each other.
		{"array A 2/array B 1/part/A[0]=B[0]/A[1]=B[0]", []int{1, 0}, impl.Dep{}}, {"array A 2/part/A[0]=1/part/A[1]=2", []int{1, 0}, impl.Dep{}},
		// A single instance, and none.
		{"array A 1/part/A[0]=A[0]", []int{0}, impl.Dep{}}, {"", nil, impl.Dep{}}, {"", []int{}, impl.Dep{}}, {"array A 3/part/for 0 0/A[i]=A[i]", nil, impl.Dep{}},
	} {
		p := programOf(t, c.lines)
		legal := c.want == impl.Dep{}
		if d, ok := impl.OrderBroken(p, c.order); d != c.want || ok == legal {
			t.Errorf("OrderBroken(%s, %v) = %v, %v, not %v", c.lines, c.order, d, ok, c.want)
		}
		if impl.OrderLegal(p, c.order) != legal {
			t.Errorf("OrderLegal(%s, %v) is %v", c.lines, c.order, !legal)
		}
	}
}

// checkNoOrder checks what the functions return for a list that is not an order.
func checkNoOrder(t *testing.T, what string, p impl.Program, order []int) {
	t.Helper()
	if impl.OrderLegal(p, order) {
		t.Errorf("OrderLegal accepts the order %.60s of %s", fmt.Sprint(order), what)
	}
	if d, ok := impl.OrderBroken(p, order); ok || d != (impl.Dep{}) {
		t.Errorf("OrderBroken of the order %.60s of %s is %v, %v", fmt.Sprint(order), what, d, ok)
	}
}

// TestLegalRefusesLists checks lists that are too short, too long, or have an index twice, a negative one or one past the end.
func TestLegalRefusesLists(t *testing.T) {
	for _, lines := range []string{"array A 5/part/for 0 4/A[i+1]=A[i]", "array A 4/part/for 0 4/A[i]=1", "array A 1/part/A[0]=A[0]/A[0]=1/part/for 0 2/A[0]=(A[0]+1)"} {
		p := programOf(t, lines)
		for _, order := range badOrders() {
			checkNoOrder(t, lines, p, order)
		}
	}
	for _, lines := range []string{"", "array A 3", "array A 3/part/for 0 0/A[i]=A[i]"} {
		p := programOf(t, lines)
		for _, order := range [][]int{{0}, {-1}, {1}, {0, 0}, {0, 1}, {math.MaxInt}, {math.MinInt}} {
			checkNoOrder(t, lines, p, order)
		}
		if !impl.OrderLegal(p, nil) || !impl.OrderLegal(p, []int{}) {
			t.Errorf("OrderLegal(%s) refuses the empty order", lines)
		}
	}
	p := programOf(t, "array A 3/part/for 0 3/A[i]=1")
	var counts tally
	for length := range 5 {
		for _, order := range boxPoints(length, 3) {
			legal := impl.OrderLegal(p, order)
			if legal != isOrder(order, 3) {
				t.Errorf("OrderLegal(%v) is %v", order, legal)
			}
			counts.add(legal)
		}
	}
	counts.check(t, 6)
}

func TestOrdersOfInvalidPrograms(t *testing.T) {
	for n, p := range brokenPrograms(t) {
		what := fmt.Sprint("the invalid program ", n)
		for _, count := range []int{0, 1, 2, 3, 4, 5, 120, 121} {
			checkNoOrder(t, what, p, upTo(count))
			checkNoOrder(t, what, p, reversed(upTo(count)))
		}
		for _, list := range [][]int{impl.LevelsOf(p), impl.LevelOrder(p), impl.LatestLevels(p), impl.ConnectedParts(p), impl.GreedyOrder(p, nil), impl.GreedyOrder(p, []int{0}), impl.GreedyOrder(p, []int{-1, 5})} {
			if len(list) != 0 {
				t.Errorf("%s has the list %v", what, list)
			}
		}
		if length := impl.CriticalLength(p); length != 0 {
			t.Errorf("%s has the critical length %d", what, length)
		}
	}
}

// ordersLists calls each function that returns a list.
func ordersLists(p impl.Program, choices []int) [][]int {
	return [][]int{impl.LevelsOf(p), impl.LevelOrder(p), impl.LatestLevels(p), impl.ConnectedParts(p), impl.GreedyOrder(p, choices), impl.GreedyOrder(p, nil)}
}

// TestOrdersMemory checks that results are in memory of their own, and do not depend on earlier calls.
func TestOrdersMemory(t *testing.T) {
	for _, lines := range []string{"array A 4/array C 3/part/for 0 3/A[i+1]=A[i]/C[i]=A[i+1]", "array A 3/part/for 0 3/A[i]=1", "array A 1/part/for 0 3/A[0]=A[0]", ""} {
		p := programOf(t, lines)
		choices := []int{2, -1, 1, -9}[:3]
		first := fmt.Sprint(ordersLists(p, choices))
		checkOwnMemory(t, append(ordersLists(p, choices), ordersLists(p, choices)...))
		if fmt.Sprint(ordersLists(p, choices)) != first || !impl.ProgramSame(p, programOf(t, lines)) || !slices.Equal(choices[:4], []int{2, -1, 1, -9}) {
			t.Errorf("the results are changed to %v", ordersLists(p, choices))
		}
	}
}

// TestOrdersArguments checks that no function changes an argument or the memory behind it.
func TestOrdersArguments(t *testing.T) {
	p := programOf(t, "array A 3/part/for 0 3/A[-i+2]=(A[i]-A[0])/A[1]={i}")
	p.Parts = append(p.Parts, impl.Part{Nest: []impl.Loop{{}}})[:1]
	p.Parts[0].Body = append(p.Parts[0].Body, assign(numExpr(9)))[:2]
	kept := copyProgram(p)
	order, choices := []int{3, 5, 4, 1, 0, 2, -9}, []int{1, -2, 30, -9}
	impl.OrderLegal(p, order[:6])
	impl.OrderBroken(p, order[:6])
	impl.GreedyOrder(p, choices[:3])
	impl.LevelsOf(p)
	impl.LevelOrder(p)
	impl.CriticalLength(p)
	impl.LatestLevels(p)
	impl.ConnectedParts(p)
	if !slices.Equal(order, []int{3, 5, 4, 1, 0, 2, -9}) || !slices.Equal(choices, []int{1, -2, 30, -9}) {
		t.Errorf("the arguments are changed to %v and %v", order, choices)
	}
	if fmt.Sprint(p) != fmt.Sprint(kept) || len(p.Parts[:2][1].Nest) != 1 || p.Parts[0].Body[:3][2].Value.Num != 9 {
		t.Errorf("the program is changed to %v", p)
	}
}
