package tests

import (
	"fmt"
	"maps"
	"math"
	"math/rand"
	"slices"
	"testing"

	"loop.example/loopnests/impl"
)

// history is a trace, about which its methods state what the definitions do.
type history []int

// last returns the index of the last access of a cell before the access n, or -1 if there is none.
func (x history) last(cell int, n int) int {
	for m := n - 1; m >= 0; m-- {
		if x[m] == cell {
			return m
		}
	}
	return -1
}

// distances returns the stack distance of each access.
func (x history) distances() []int {
	var list []int
	for n, cell := range x {
		m := x.last(cell, n)
		if m < 0 {
			list = append(list, -1)
			continue
		}
		list = append(list, len(distinct(x[m+1:n])))
	}
	return list
}

// distinct returns the different numbers of a list.
func distinct(list []int) map[int]bool {
	set := map[int]bool{}
	for _, n := range list {
		set[n] = true
	}
	return set
}

// lru returns the misses of a cache of any size, which drops the cell that was accessed first among the last accesses of all.
func (x history) lru(size int) int {
	count := 0
	var held []int
	for n, cell := range x {
		if slices.Contains(held, cell) {
			continue
		}
		count++
		held = append(held, cell)
		if len(held) > size {
			oldest := slices.MinFunc(held, func(a int, b int) int { return x.last(a, n+1) - x.last(b, n+1) })
			held = slices.DeleteFunc(held, func(c int) bool { return c == oldest })
		}
	}
	return count
}

// fit returns the least size with which a cell is missed only once, found by trying all of them.
func (x history) fit() int {
	cells := len(distinct(x))
	if cells == len(x) {
		return 0
	}
	size := 0
	for x.lru(size) > cells {
		size++
	}
	return size
}

// any returns the misses of a cache that drops cells at random.
func (x history) any(r *rand.Rand, size int) int {
	count := 0
	held := map[int]bool{}
	for _, cell := range x {
		if held[cell] {
			continue
		}
		count++
		held[cell] = true
		if len(held) > size {
			cells := slices.Sorted(maps.Keys(held))
			delete(held, cells[r.Intn(len(cells))])
		}
	}
	return count
}

// tried returns the least misses among all caches, of which there must be few; a cache is the set of the bits of its cells.
func (x history) tried(size int) int {
	bits := map[int]uint{}
	caches := map[uint]int{0: 0}
	for _, cell := range x {
		if _, ok := bits[cell]; !ok {
			bits[cell] = 1 << len(bits)
		}
		next := map[uint]int{}
		reach := func(held uint, count int) {
			if known, ok := next[held]; !ok || count < known {
				next[held] = count
			}
		}
		for held, count := range caches {
			if held&bits[cell] != 0 {
				reach(held, count)
				continue
			}
			held |= bits[cell]
			if countBits(held) <= size {
				reach(held, count+1)
				continue
			}
			for _, b := range bits {
				if held&b != 0 {
					reach(held&^b, count+1)
				}
			}
		}
		caches = next
	}
	return slices.Min(slices.Collect(maps.Values(caches)))
}

func countBits(set uint) int {
	count := 0
	for ; set > 0; set &= set - 1 {
		count++
	}
	return count
}

// kept returns the least misses among all caches, as the accesses without those that can be hits: a cell has to be kept from an access to the next one, and at most size cells are kept at a time.
// Of all sets of hits, the greatest one is found if the hits are tried in order.
func (x history) kept(size int) int {
	cells := make([]int, len(x))
	count := 0
	for n, cell := range x {
		m := x.last(cell, n)
		if m < 0 || slices.Max(cells[m:n]) >= size {
			count++
			continue
		}
		for k := m; k < n; k++ {
			cells[k]++
		}
	}
	return count
}

// checkTrace compares all functions of a trace with the definitions, and checks the promise.
func checkTrace(t *testing.T, r *rand.Rand, trace []int) {
	t.Helper()
	x := history(trace)
	if got := impl.StackDistances(trace); !slices.Equal(got, x.distances()) {
		t.Errorf("StackDistances(%v) = %v, want %v", trace, got, x.distances())
	}
	if got := impl.DistinctCells(trace); got != len(distinct(trace)) {
		t.Errorf("DistinctCells(%v) = %d, want %d", trace, got, len(distinct(trace)))
	}
	if got := impl.FitSize(trace); got != x.fit() {
		t.Errorf("FitSize(%v) = %d, want %d", trace, got, x.fit())
	}
	checkMisses(t, r, trace)
}

// checkMisses compares the misses of caches of all sizes with the definitions, and checks the promise.
func checkMisses(t *testing.T, r *rand.Rand, trace []int) {
	t.Helper()
	x := history(trace)
	cells := len(distinct(trace))
	lru, best := len(trace), len(trace)
	for size := range impl.MaxCache + 1 {
		lastLru, lastBest := lru, best
		lru, best = impl.LruMisses(trace, size), impl.BestMisses(trace, size)
		if lru != x.lru(size) || best != x.kept(size) {
			t.Errorf("%v has %d and %d misses for the size %d, want %d and %d", trace, lru, best, size, x.lru(size), x.kept(size))
		}
		if lru > lastLru || best > lastBest || best > lru || best > x.any(r, size) || best < cells {
			t.Errorf("%v has %d and %d misses for the size %d, and %d and %d for one less", trace, lru, best, size, lastLru, lastBest)
		}
	}
}

// TestAllShortTraces compares the best cache with all caches for all traces of few accesses and cells.
func TestAllShortTraces(t *testing.T) {
	r := rand.New(rand.NewSource(10))
	trace := []int{}
	var extend func(cells int)
	extend = func(cells int) {
		x := history(trace)
		for size := range 5 {
			if got, want := impl.BestMisses(trace, size), x.tried(size); got != want || x.kept(size) != want {
				t.Errorf("BestMisses(%v, %d) = %d, want %d", trace, size, got, want)
			}
		}
		if len(trace) < 7 {
			checkTrace(t, r, trace)
		}
		if len(trace) == 8 {
			return
		}
		// Cells are numbered in the order of their first accesses, as other numbers lead to the same caches.
		for cell := range min(cells+1, 4) {
			trace = append(trace, cell)
			extend(max(cells, cell+1))
			trace = trace[:len(trace)-1]
		}
	}
	extend(0)
}

// randomCells returns a list of different cells of many kinds.
func randomCells(r *rand.Rand, count int) []int {
	cells := []int{0, -1, math.MinInt, math.MaxInt, math.MinInt + 1, math.MaxInt - 1}
	for len(cells) < count {
		cells = append(cells, r.Intn(2000)-1000, r.Int(), -r.Int())
		slices.Sort(cells)
		cells = slices.Compact(cells)
	}
	r.Shuffle(len(cells), func(a int, b int) { cells[a], cells[b] = cells[b], cells[a] })
	return cells[:count]
}

// randomTrace returns a trace whose accesses are often near to the cells that were accessed before.
func randomTrace(r *rand.Rand, length int) []int {
	cells := randomCells(r, 1+r.Intn(70))
	jump := r.Intn(4)
	at := 0
	var trace []int
	for len(trace) < length {
		switch r.Intn(jump + 1) {
		case 0:
			at = r.Intn(len(cells))
		case 1:
			at = (at + 1) % len(cells)
		case 2:
			at = max(at-r.Intn(4), 0)
		}
		trace = append(trace, cells[at])
	}
	return trace
}

func TestRandomTraces(t *testing.T) {
	r := rand.New(rand.NewSource(11))
	for range 60 {
		checkTrace(t, r, randomTrace(r, r.Intn(80)))
	}
	for range 4 {
		checkTrace(t, r, randomTrace(r, impl.MaxTrace))
	}
	for range 300 {
		trace := randomTrace(r, 30)
		for k := range trace {
			trace[k] %= 7
		}
		for size := range 9 {
			if got, want := impl.BestMisses(trace, size), history(trace).tried(size); got != want {
				t.Errorf("BestMisses(%v, %d) = %d, want %d", trace, size, got, want)
			}
		}
	}
}

// rounds returns a trace that accesses the cells from 0 up to count in order, again and again.
func rounds(count int, length int) []int {
	var trace []int
	for n := range length {
		trace = append(trace, n%count)
	}
	return trace
}

// cacheCase is a trace with what its functions return, and with the misses of caches of the sizes 0, 1, and so on.
type cacheCase struct {
	name      string
	trace     []int
	distances []int
	distinct  int
	fit       int
	lru       []int
	best      []int
}

// check checks c; larger caches than those that c lists have as many misses as the last one.
func (c cacheCase) check(t *testing.T, r *rand.Rand) {
	t.Helper()
	if got := impl.StackDistances(c.trace); !slices.Equal(got, c.distances) {
		t.Errorf("%s: StackDistances = %v, want %v", c.name, got, c.distances)
	}
	if a, b := impl.DistinctCells(c.trace), impl.FitSize(c.trace); a != c.distinct || b != c.fit {
		t.Errorf("%s: DistinctCells and FitSize = %d and %d, want %d and %d", c.name, a, b, c.distinct, c.fit)
	}
	for size := range impl.MaxCache + 1 {
		lru, best := c.lru[min(size, len(c.lru)-1)], c.best[min(size, len(c.best)-1)]
		if a, b := impl.LruMisses(c.trace, size), impl.BestMisses(c.trace, size); a != lru || b != best {
			t.Errorf("%s: the size %d has %d and %d misses, want %d and %d", c.name, size, a, b, lru, best)
		}
	}
	checkTrace(t, r, c.trace)
}

func TestCacheCases(t *testing.T) {
	least, most := math.MinInt, math.MaxInt
	cases := []cacheCase{
		{"the example", []int{1, 2, 1, 3, 2}, []int{-1, -1, 1, -1, 2}, 3, 3, []int{5, 5, 4, 3}, []int{5, 4, 3}},
		{"no access", nil, nil, 0, 0, []int{0}, []int{0}},
		{"an empty list", []int{}, []int{}, 0, 0, []int{0}, []int{0}},
		{"one access", []int{7}, []int{-1}, 1, 0, []int{1}, []int{1}},
		{"no cell twice", []int{3, 1, 2, 0}, []int{-1, -1, -1, -1}, 4, 0, []int{4}, []int{4}},
		{"one cell", []int{5, 5, 5, 5}, []int{-1, 0, 0, 0}, 1, 1, []int{4, 1}, []int{4, 1}},
		{"negative cells", []int{-1, 1, -1, 1}, []int{-1, -1, 1, 1}, 2, 2, []int{4, 4, 2}, []int{4, 3, 2}},
		{"cells at the limits", []int{least, most, least + 1, least, most - 1, most}, []int{-1, -1, -1, 2, -1, 3}, 4, 4, []int{6, 6, 6, 5, 4}, []int{6, 5, 4}},
		{"the accessed cell is dropped", []int{1, 2, 1, 3, 1}, []int{-1, -1, 1, -1, 1}, 3, 2, []int{5, 5, 3}, []int{5, 3}},
		{"the accessed cell is dropped twice", []int{1, 2, 3, 2, 1, 3, 2}, []int{-1, -1, -1, 1, 2, 2, 2}, 3, 3, []int{7, 7, 6, 3}, []int{7, 5, 4, 3}},
		{"a round", []int{1, 2, 3, 1, 2, 3}, []int{-1, -1, -1, 2, 2, 2}, 3, 3, []int{6, 6, 6, 3}, []int{6, 5, 4, 3}},
		{"a way back", []int{1, 2, 3, 3, 2, 1}, []int{-1, -1, -1, 0, 1, 2}, 3, 3, []int{6, 5, 4, 3}, []int{6, 5, 4, 3}},
		{"a hit makes a cell recent", []int{1, 2, 1, 3, 1, 2}, []int{-1, -1, 1, -1, 1, 2}, 3, 3, []int{6, 6, 4, 3}, []int{6, 4, 3}},
		{"the same cells between, twice", []int{1, 2, 2, 3, 2, 3, 1}, []int{-1, -1, 0, -1, 1, 1, 2}, 3, 3, []int{7, 6, 4, 3}, []int{7, 5, 4, 3}},
	}
	for _, c := range cases {
		c.check(t, rand.New(rand.NewSource(12)))
	}
}

// TestMostAccesses checks traces with the greatest number of accesses, and caches of the greatest size.
func TestMostAccesses(t *testing.T) {
	cases := []struct {
		count, fit, size, lru, best int
	}{
		{1, 1, 1, 1, 1},
		{1, 1, 0, impl.MaxTrace, impl.MaxTrace},
		{40, 40, impl.MaxCache, 40, 40},
		{41, 41, impl.MaxCache, impl.MaxTrace, 54},
		{60, 60, impl.MaxCache, impl.MaxTrace, 240},
		{300, 300, impl.MaxCache, impl.MaxTrace, impl.MaxTrace - impl.MaxCache},
		{599, 599, impl.MaxCache, impl.MaxTrace, 599},
		{600, 0, impl.MaxCache, impl.MaxTrace, impl.MaxTrace},
	}
	for _, c := range cases {
		trace := rounds(c.count, impl.MaxTrace)
		if a, b := impl.DistinctCells(trace), impl.FitSize(trace); a != c.count || b != c.fit {
			t.Errorf("%d cells: DistinctCells and FitSize = %d and %d", c.count, a, b)
		}
		if a, b := impl.LruMisses(trace, c.size), impl.BestMisses(trace, c.size); a != c.lru || b != c.best {
			t.Errorf("%d cells: the size %d has %d and %d misses, want %d and %d", c.count, c.size, a, b, c.lru, c.best)
		}
		if got := impl.StackDistances(trace); !slices.Equal(got, history(trace).distances()) {
			t.Errorf("%d cells: StackDistances = %v", c.count, got)
		}
		checkMisses(t, rand.New(rand.NewSource(13)), trace)
	}
}

func TestCacheRefusesTraces(t *testing.T) {
	for _, length := range []int{impl.MaxTrace + 1, impl.MaxTrace + 2, 2000} {
		trace := rounds(3, length)
		if a, b, c := impl.StackDistances(trace), impl.DistinctCells(trace), impl.FitSize(trace); len(a) != 0 || b != 0 || c != 0 {
			t.Errorf("%d accesses: StackDistances, DistinctCells and FitSize = %v, %d and %d", length, a, b, c)
		}
		for _, size := range []int{-1, 0, 1, 3, impl.MaxCache, impl.MaxCache + 1} {
			checkNoMisses(t, trace, size)
		}
	}
}

func TestCacheRefusesSizes(t *testing.T) {
	for _, size := range []int{-1, -2, -40, impl.MaxCache + 1, 600, math.MinInt, math.MinInt32, math.MaxInt32, math.MaxInt} {
		for _, trace := range [][]int{nil, {1}, {1, 2, 1, 3, 2}, rounds(50, impl.MaxTrace)} {
			checkNoMisses(t, trace, size)
		}
	}
}

func checkNoMisses(t *testing.T, trace []int, size int) {
	t.Helper()
	if a, b := impl.LruMisses(trace, size), impl.BestMisses(trace, size); a != -1 || b != -1 {
		t.Errorf("%d accesses and the size %d: %d and %d misses", len(trace), size, a, b)
	}
}

// traceOf returns all cells that a program accesses, in order.
func traceOf(p impl.Program) []int {
	x := referenceOf(p)
	var trace []int
	for _, i := range x.instances {
		trace = append(trace, x.reads(i)...)
		trace = append(trace, x.write(i))
	}
	return trace
}

func checkAddresses(t *testing.T, p impl.Program) {
	t.Helper()
	var want []int
	if isProgram(p) {
		want = traceOf(p)
		want = want[:min(len(want), impl.MaxTrace)]
	}
	if got := impl.AddressTrace(p); !slices.Equal(got, want) {
		t.Errorf("AddressTrace(%q) = %v, want %v", impl.FormatProgram(p), got, want)
	}
}

// TestTracesOfPrograms checks the traces of programs, and the caches for them.
func TestTracesOfPrograms(t *testing.T) {
	r := rand.New(rand.NewSource(14))
	for _, lines := range validPrograms() {
		checkAddresses(t, programOf(t, lines))
	}
	var counts tally
	for range 600 {
		for _, p := range []impl.Program{randomProgram(r), nestedProgram(r)} {
			checkAddresses(t, p)
			counts.add(isProgram(p))
		}
	}
	counts.check(t, 100)
	for range 30 {
		p := denseProgram(r)
		checkAddresses(t, p)
		checkTrace(t, r, impl.AddressTrace(p))
	}
}

func TestAddressTrace(t *testing.T) {
	cases := []struct {
		name  string
		lines string
		want  []int
	}{
		{"reads before the write", "array A 3/part/for 0 2/A[i+1]=(A[i]+A[0])", []int{0, 0, 1, 1, 0, 2}},
		{"no reads", "array A 3/part/for 0 3/A[-i+2]={i}", []int{2, 1, 0}},
		{"a cell that is read twice and written", "array A 3/part/A[2]=((A[2]*A[1])*A[2])", []int{2, 1, 2, 2}},
		{"two statements", "array A 2/array B 2 3/part/for 0 2/A[i]=B[i,2]/B[i,1]=A[0]", []int{4, 0, 0, 3, 7, 1, 0, 6}},
		{"two parts", "array A 2/array B 2/part/for 0 2/A[i]=B[i]/part/B[1]=A[0]", []int{2, 0, 3, 1, 0, 3}},
		{"two loops", "array B 2 2/part/for 0 2/for i 2/B[j,i]=B[i,j]", []int{0, 0, 1, 2, 3, 3}},
		{"no parts", "array A 3", nil},
		{"nothing at all", "", nil},
		{"no points", "array A 3/part/for 2 2/A[i]=A[0]", nil},
	}
	for _, c := range cases {
		p := programOf(t, c.lines)
		if got := impl.AddressTrace(p); !slices.Equal(got, c.want) {
			t.Errorf("%s: AddressTrace = %v, want %v", c.name, got, c.want)
		}
		checkAddresses(t, p)
	}
}

// TestLongAddressTraces checks programs that access as many cells as a trace has, fewer and more.
func TestLongAddressTraces(t *testing.T) {
	many := "A[i]=((A[0]+A[1])+((A[2]+A[i])+(A[5]+A[4])))"
	some := "A[i]=((A[0]+A[1])+((A[2]+A[i])+A[5]))"
	cases := []struct {
		name  string
		lines string
		all   int
	}{
		{"the most accesses", "array A 6/part/for 0 6/for 0 20/" + many, 840},
		{"as many as a trace has", "array A 6/part/for 0 5/for 0 20/" + some, 600},
		{"one more", "array A 6/part/for 0 5/for 0 20/" + some + "/part/A[3]=7", 601},
		{"two more of the last instance", "array A 6/part/for 0 5/for 0 20/" + some + "/part/A[3]=A[4]", 602},
		{"an instance that is cut", "array A 6/part/for 0 5/for 0 17/" + many + "/part/A[3]=((A[1]+A[2])+(A[3]+(A[4]+A[5])))", 601},
		{"one fewer", "array A 6/part/for 0 5/for 0 17/" + many + "/part/A[3]=((A[1]+A[2])+A[3])", 599},
	}
	for _, c := range cases {
		p := programOf(t, c.lines)
		if n := len(traceOf(p)); n != c.all {
			t.Errorf("%s: the program has %d accesses, want %d", c.name, n, c.all)
		}
		trace := impl.AddressTrace(p)
		if len(trace) != min(c.all, impl.MaxTrace) {
			t.Errorf("%s: the trace has %d accesses", c.name, len(trace))
		}
		checkAddresses(t, p)
		if impl.LruMisses(trace, 6) != 6 || impl.BestMisses(trace, 6) != 6 {
			t.Errorf("%s: %d misses", c.name, impl.LruMisses(trace, 6))
		}
	}
}

func TestAddressTraceOfInvalidPrograms(t *testing.T) {
	for n, p := range brokenPrograms(t) {
		if trace := impl.AddressTrace(p); len(trace) != 0 {
			t.Errorf("the invalid program %d has the trace %v", n, trace)
		}
	}
}

// TestCacheMemory checks that results are in memory of their own, and do not depend on earlier calls.
func TestCacheMemory(t *testing.T) {
	p := programOf(t, "array A 3/part/for 0 2/A[i+1]=(A[i]+A[0])/A[i]=1")
	trace := []int{1, 2, 1, 3, 2}
	lists := func() [][]int {
		return [][]int{impl.AddressTrace(p), impl.StackDistances(trace), impl.AddressTrace(p), impl.StackDistances(trace)}
	}
	first := fmt.Sprint(lists())
	checkOwnMemory(t, append(lists(), trace))
	trace = []int{1, 2, 1, 3, 2}
	if got := fmt.Sprint(lists()); got != first {
		t.Errorf("the results are changed to %s", got)
	}
}

// TestCacheArguments checks that no function changes an argument or the memory behind it.
func TestCacheArguments(t *testing.T) {
	p := programOf(t, "array A 3/part/for 0 3/A[-i+2]=(A[i]-A[0])/A[1]={i}")
	kept := copyProgram(p)
	impl.AddressTrace(p)
	trace := []int{5, 2, 5, -3, 2, 9, 8}
	impl.StackDistances(trace[:5])
	impl.DistinctCells(trace[:5])
	impl.FitSize(trace[:5])
	for size := -1; size <= impl.MaxCache+1; size++ {
		impl.LruMisses(trace[:5], size)
		impl.BestMisses(trace[:5], size)
	}
	if !slices.Equal(trace, []int{5, 2, 5, -3, 2, 9, 8}) || fmt.Sprint(p) != fmt.Sprint(kept) {
		t.Errorf("the arguments are changed to %v and %v", trace, p)
	}
}
