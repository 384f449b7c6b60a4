package tests

import (
	"fmt"
	"slices"
	"testing"

	"loop.example/wholetensors/impl"
)

func access(buffer, base int, steps ...int) impl.Access {
	return impl.Access{Buffer: buffer, Base: base, Steps: steps}
}

func sets(out impl.Access, ins ...impl.Access) impl.Line {
	return impl.Line{Out: out, Ins: ins, Set: true}
}

func adds(out impl.Access, ins ...impl.Access) impl.Line {
	return impl.Line{Out: out, Ins: ins}
}

func nest(counts []int, lines ...impl.Line) impl.Nest {
	return impl.Nest{Counts: counts, Lines: lines}
}

func sameAccess(a, b impl.Access) bool {
	return a.Buffer == b.Buffer && a.Base == b.Base && sameInts(a.Steps, b.Steps)
}

func sameLine(a, b impl.Line) bool {
	return sameAccess(a.Out, b.Out) && slices.EqualFunc(a.Ins, b.Ins, sameAccess) && a.Set == b.Set
}

func sameNest(a, b impl.Nest) bool {
	return sameInts(a.Counts, b.Counts) && slices.EqualFunc(a.Lines, b.Lines, sameLine)
}

// changedNest returns a nest with other counts, and with what comes of each of its accesses.
func changedNest(n impl.Nest, counts []int, change func(impl.Access) impl.Access) impl.Nest {
	changed := impl.Nest{Counts: counts}
	for _, line := range n.Lines {
		other := impl.Line{Out: change(line.Out), Set: line.Set}
		for _, a := range line.Ins {
			other.Ins = append(other.Ins, change(a))
		}
		changed.Lines = append(changed.Lines, other)
	}
	return changed
}

func copyNest(n impl.Nest) impl.Nest {
	return changedNest(n, copyInts(n.Counts), func(a impl.Access) impl.Access {
		return access(a.Buffer, a.Base, copyInts(a.Steps)...)
	})
}

// accessesOf returns what a line reads and what it writes.
func accessesOf(line impl.Line) []impl.Access {
	return append(slices.Clone(line.Ins), line.Out)
}

// turnsByRule returns all numbers of loops, those of the innermost one first.
func turnsByRule(counts []int) [][]int {
	turns := [][]int{{}}
	for _, count := range counts {
		var longer [][]int
		for _, nums := range turns {
			for num := range count {
				longer = append(longer, append(copyInts(nums), num))
			}
		}
		turns = longer
	}
	return turns
}

// indexOf returns the index of an access at numbers of the loops.
func indexOf(a impl.Access, nums []int) int {
	index := a.Base
	for loop, step := range a.Steps {
		index += step * nums[loop]
	}
	return index
}

// loopsByRule tells by the words of the document whether counts are ones, and each access has a step for each of the loops.
func loopsByRule(n impl.Nest) bool {
	turns := 1
	for loop, count := range n.Counts {
		if loop == 5 || count < 1 || count > 4 {
			return false
		}
		turns *= count
	}
	for _, line := range n.Lines {
		for _, a := range accessesOf(line) {
			if len(a.Steps) != len(n.Counts) {
				return false
			}
		}
	}
	return turns <= 256
}

func sizesOkByRule(sizes []int) bool {
	for _, size := range sizes {
		if size < 1 || size > 64 {
			return false
		}
	}
	return len(sizes) <= 5
}

// nestByRule tells by the words of the document whether loops over lines are a nest of buffers, going through all numbers of the loops.
func nestByRule(sizes []int, n impl.Nest) bool {
	if !sizesOkByRule(sizes) || !loopsByRule(n) || len(n.Lines) < 1 || len(n.Lines) > 3 {
		return false
	}
	for _, line := range n.Lines {
		if len(line.Ins) < 1 || len(line.Ins) > 4 {
			return false
		}
		for _, a := range accessesOf(line) {
			if a.Buffer < 0 || a.Buffer >= len(sizes) || slices.ContainsFunc(append(copyInts(a.Steps), a.Base), func(num int) bool { return num < -64 || num > 64 }) {
				return false
			}
			for _, nums := range turnsByRule(n.Counts) {
				if index := indexOf(a, nums); index < 0 || index >= sizes[a.Buffer] {
					return false
				}
			}
		}
	}
	return true
}

func isNum(num int) bool {
	return num >= -1000000000 && num <= 1000000000
}

// sizesOfMemory returns how many numbers the buffers have, and whether they are memory.
func sizesOfMemory(memory [][]int) ([]int, bool) {
	var sizes []int
	for _, buffer := range memory {
		sizes = append(sizes, len(buffer))
		for _, num := range buffer {
			if !isNum(num) {
				return nil, false
			}
		}
	}
	return sizes, sizesOkByRule(sizes)
}

func copyMemory(memory [][]int) [][]int {
	c := [][]int{}
	for _, buffer := range memory {
		c = append(c, copyInts(buffer))
	}
	return c
}

// runByRule does by the words of the document a nest over memory.
func runByRule(memory [][]int, n impl.Nest) ([][]int, bool) {
	sizes, ok := sizesOfMemory(memory)
	if !ok || !nestByRule(sizes, n) {
		return nil, false
	}
	memory = copyMemory(memory)
	for _, nums := range turnsByRule(n.Counts) {
		for _, line := range n.Lines {
			product := 1
			for _, a := range line.Ins {
				if product *= memory[a.Buffer][indexOf(a, nums)]; !isNum(product) {
					return nil, false
				}
			}
			out := &memory[line.Out.Buffer][indexOf(line.Out, nums)]
			if line.Set {
				*out = 0
			}
			if *out += product; !isNum(*out) {
				return nil, false
			}
		}
	}
	return memory, true
}

// done is something that is done to a place of a buffer: in which turn, and whether it is read, added to or set.
type done struct {
	nums          []int
	buffer, index int
	how           string
}

func doneByRule(n impl.Nest) []done {
	var list []done
	for _, nums := range turnsByRule(n.Counts) {
		for _, line := range n.Lines {
			for _, a := range line.Ins {
				list = append(list, done{nums, a.Buffer, indexOf(a, nums), "read"})
			}
			how := "add"
			if line.Set {
				how = "set"
			}
			list = append(list, done{nums, line.Out.Buffer, indexOf(line.Out, nums), how})
		}
	}
	return list
}

// matters reports whether the order of two things matters by the words of the document.
func matters(x, y done) bool {
	if x.buffer != y.buffer || x.index != y.index {
		return false
	}
	return !(x.how == "read" && y.how == "read") && !(x.how == "add" && y.how == "add")
}

// turnedNums returns the numbers that an order tells.
func turnedNums(nums, turn []int) []int {
	var turned []int
	for _, loop := range turn {
		turned = append(turned, nums[loop])
	}
	return turned
}

// turnsFreelyByRule tells by the words of the document, of all pairs of things that are done, whether an order of loops is free.
func turnsFreelyByRule(sizes []int, n impl.Nest, turn []int) bool {
	if !nestByRule(sizes, n) || !isFactorOrder(turn, len(n.Counts)) {
		return false
	}
	list := doneByRule(n)
	for _, x := range list {
		for _, y := range list {
			if slices.Compare(x.nums, y.nums) < 0 && matters(x, y) && slices.Compare(turnedNums(x.nums, turn), turnedNums(y.nums, turn)) > 0 {
				return false
			}
		}
	}
	return true
}

// fusesFreelyByRule tells by the words of the document, of all pairs of things that are done, whether two nests are fused freely.
func fusesFreelyByRule(sizes []int, n, m impl.Nest) bool {
	if !nestByRule(sizes, n) || !nestByRule(sizes, m) || !sameInts(n.Counts, m.Counts) || len(n.Lines)+len(m.Lines) > 3 {
		return false
	}
	later := doneByRule(m)
	for _, x := range doneByRule(n) {
		for _, y := range later {
			if slices.Compare(y.nums, x.nums) < 0 && matters(x, y) {
				return false
			}
		}
	}
	return true
}

func sameMemory(a, b [][]int) bool {
	return sameLists(a, b)
}

func checkNest(t *testing.T, name string, got impl.Nest, ok bool, want impl.Nest) {
	t.Helper()
	if !ok || !sameNest(got, want) {
		t.Errorf("%s = %v, %v, not %v", name, got, ok, want)
	}
}

func checkNoNest(t *testing.T, name string, got impl.Nest, ok bool) {
	t.Helper()
	if ok || !sameNest(got, impl.Nest{}) {
		t.Errorf("%s = %v, %v, not nothing", name, got, ok)
	}
}

func checkMemory(t *testing.T, name string, got [][]int, ok bool, want [][]int, wantOk bool) {
	t.Helper()
	if ok != wantOk || !sameMemory(got, want) {
		t.Errorf("%s = %v, %v, not %v, %v", name, got, ok, want, wantOk)
	}
}

func checkNestOk(t *testing.T, sizes []int, n impl.Nest) bool {
	t.Helper()
	want := nestByRule(sizes, n)
	if got := impl.NestOk(sizes, n); got != want {
		t.Errorf("NestOk(%v, %v) = %v", sizes, n, got)
	}
	return want
}

// checkRun fails if a nest does anything else to memory than the words of the document. It reports whether there is memory behind it.
func checkRun(t *testing.T, memory [][]int, n impl.Nest) bool {
	t.Helper()
	want, wantOk := runByRule(memory, n)
	got, ok := impl.RunNest(memory, n)
	checkMemory(t, fmt.Sprintf("RunNest(%v, %v)", memory, n), got, ok, want, wantOk)
	return wantOk
}

// checkRuns fails if nests do anything else to memory than one nest after the other. It reports whether there is memory behind them.
func checkRuns(t *testing.T, memory [][]int, list ...impl.Nest) bool {
	t.Helper()
	_, wantOk := sizesOfMemory(memory)
	want := copyMemory(memory)
	for _, n := range list {
		if wantOk {
			want, wantOk = runByRule(want, n)
		}
	}
	if !wantOk || len(list) > 256 {
		want, wantOk = nil, false
	}
	got, ok := impl.RunNests(memory, list)
	checkMemory(t, fmt.Sprintf("RunNests(%v, %v)", memory, list), got, ok, want, wantOk)
	return wantOk
}

// checkTurn fails if a nest turned is anything else than by the words of the document. It reports whether there is one.
func checkTurn(t *testing.T, n impl.Nest, turn []int) bool {
	t.Helper()
	name := fmt.Sprintf("TurnNest(%v, %v)", n, turn)
	got, ok := impl.TurnNest(n, turn)
	if !loopsByRule(n) || !isFactorOrder(turn, len(n.Counts)) {
		checkNoNest(t, name, got, ok)
		return false
	}
	checkNest(t, name, got, ok, changedNest(n, turnedNums(n.Counts, turn), func(a impl.Access) impl.Access {
		return access(a.Buffer, a.Base, turnedNums(a.Steps, turn)...)
	}))
	return true
}

// checkSplit fails if a nest split is anything else than by the words of the document. It reports whether there is one.
func checkSplit(t *testing.T, n impl.Nest, loop, size int) bool {
	t.Helper()
	name := fmt.Sprintf("SplitNest(%v, %d, %d)", n, loop, size)
	got, ok := impl.SplitNest(n, loop, size)
	if !loopsByRule(n) || loop < 0 || loop >= len(n.Counts) || size < 1 || size > 4 || n.Counts[loop]%size != 0 || len(n.Counts) > 4 {
		checkNoNest(t, name, got, ok)
		return false
	}
	counts := slices.Insert(with(n.Counts, loop, n.Counts[loop]/size), loop+1, size)
	checkNest(t, name, got, ok, changedNest(n, counts, func(a impl.Access) impl.Access {
		return access(a.Buffer, a.Base, slices.Insert(with(a.Steps, loop, a.Steps[loop]*size), loop+1, a.Steps[loop])...)
	}))
	return true
}

// checkUnroll fails if a nest unrolled is anything else than by the words of the document. It reports whether there are any.
func checkUnroll(t *testing.T, n impl.Nest, loop int) bool {
	t.Helper()
	name := fmt.Sprintf("UnrollNest(%v, %d)", n, loop)
	got, ok := impl.UnrollNest(n, loop)
	if !loopsByRule(n) || loop < 0 || loop >= len(n.Counts) {
		if ok || len(got) != 0 {
			t.Errorf("%s = %v, %v, not nothing", name, got, ok)
		}
		return false
	}
	var want []impl.Nest
	for num := range n.Counts[loop] {
		want = append(want, changedNest(n, without(n.Counts, loop), func(a impl.Access) impl.Access {
			return access(a.Buffer, a.Base+num*a.Steps[loop], without(a.Steps, loop)...)
		}))
	}
	if !ok || !slices.EqualFunc(got, want, sameNest) {
		t.Errorf("%s = %v, %v, not %v", name, got, ok, want)
	}
	return true
}

// checkFuse fails if two nests fused are anything else than by the words of the document. It reports whether there is one.
func checkFuse(t *testing.T, n, m impl.Nest) bool {
	t.Helper()
	name := fmt.Sprintf("FuseNests(%v, %v)", n, m)
	got, ok := impl.FuseNests(n, m)
	if !loopsByRule(n) || !loopsByRule(m) || !sameInts(n.Counts, m.Counts) || len(n.Lines)+len(m.Lines) > 3 {
		checkNoNest(t, name, got, ok)
		return false
	}
	checkNest(t, name, got, ok, nest(n.Counts, append(slices.Clone(n.Lines), m.Lines...)...))
	return true
}

func checkTurnsFreely(t *testing.T, sizes []int, n impl.Nest, turn []int) bool {
	t.Helper()
	want := turnsFreelyByRule(sizes, n, turn)
	if got := impl.TurnsFreely(sizes, n, turn); got != want {
		t.Errorf("TurnsFreely(%v, %v, %v) = %v", sizes, n, turn, got)
	}
	return want
}

func checkFusesFreely(t *testing.T, sizes []int, n, m impl.Nest) bool {
	t.Helper()
	want := fusesFreelyByRule(sizes, n, m)
	if got := impl.FusesFreely(sizes, n, m); got != want {
		t.Errorf("FusesFreely(%v, %v, %v) = %v", sizes, n, m, got)
	}
	return want
}

// checkNoNestOf fails if anything is done with what is no nest of buffers.
func checkNoNestOf(t *testing.T, sizes []int, n impl.Nest) {
	t.Helper()
	if impl.NestOk(sizes, n) {
		t.Errorf("%v is a nest of %v", n, sizes)
	}
	if impl.TurnsFreely(sizes, n, indexes(len(n.Counts))) || impl.FusesFreely(sizes, n, n) {
		t.Errorf("%v is free, and no nest of %v", n, sizes)
	}
	var memory [][]int
	for _, size := range sizes {
		if size >= 0 && size < 1000 {
			memory = append(memory, make([]int, size))
		}
	}
	if len(memory) == len(sizes) {
		got, ok := impl.RunNest(memory, n)
		checkMemory(t, fmt.Sprintf("RunNest(%v, %v)", memory, n), got, ok, nil, false)
		got, ok = impl.RunNests(memory, []impl.Nest{n})
		checkMemory(t, fmt.Sprintf("RunNests(%v, %v)", memory, n), got, ok, nil, false)
	}
}

// indexes returns the numbers below another one, in order.
func indexes(many int) []int {
	var list []int
	for i := range many {
		list = append(list, i)
	}
	return list
}

func TestLimitsOfNests(t *testing.T) {
	got := []int{impl.MaxLoops, impl.MaxTurns, impl.MaxLines, impl.MaxBuffers, impl.MaxBuffer}
	if want := []int{5, 256, 3, 5, 64}; !sameInts(got, want) {
		t.Errorf("the limits are %v, not %v", got, want)
	}
}

func TestRunNestByHand(t *testing.T) {
	one := []int{1}
	for _, c := range []struct {
		name         string
		memory, want [][]int
		n            impl.Nest
	}{
		{"no loops", [][]int{{2, 3}}, [][]int{{2, 5}}, nest(nil, adds(access(0, 1), access(0, 0)))},
		{"set", [][]int{{2, 3}}, [][]int{{2, 2}}, nest(nil, sets(access(0, 1), access(0, 0)))},
		{"four factors", [][]int{{2, 3, 5, 7, 1}}, [][]int{{2, 3, 5, 7, 211}}, nest(nil, adds(access(0, 4), access(0, 0), access(0, 1), access(0, 2), access(0, 3)))},
		{"one factor four times", [][]int{{-2}, {0}}, [][]int{{-2}, {16}}, nest(nil, sets(access(1, 0), access(0, 0), access(0, 0), access(0, 0), access(0, 0)))},
		{"a sum", [][]int{{1, 2, 3, 4}, {100}}, [][]int{{1, 2, 3, 4}, {110}}, nest([]int{4}, adds(access(1, 0, 0), access(0, 0, 1)))},
		{"the last one", [][]int{{1, 2, 3, 4}, {100}}, [][]int{{1, 2, 3, 4}, {4}}, nest([]int{4}, sets(access(1, 0, 0), access(0, 0, 1)))},
		{"one handed on", [][]int{{1, 0, 0, 0}}, [][]int{{1, 1, 1, 1}}, nest([]int{3}, adds(access(0, 1, 1), access(0, 0, 1)))},
		{"all moved", [][]int{{1, 2, 3, 4}}, [][]int{{1, 1, 2, 3}}, nest([]int{3}, sets(access(0, 3, -1), access(0, 2, -1)))},
		{"one set to all", [][]int{{1, 2, 3, 4}}, [][]int{{1, 1, 1, 1}}, nest([]int{3}, sets(access(0, 1, 1), access(0, 0, 1)))},
		{"steps back", [][]int{{1, 2, 3, 4}, {0, 0, 0, 0}}, [][]int{{1, 2, 3, 4}, {4, 3, 2, 1}}, nest([]int{4}, sets(access(1, 3, -1), access(0, 0, 1)))},
		{"steps back that meet", [][]int{{1, 2, 3, 4}}, [][]int{{4, 3, 3, 4}}, nest([]int{4}, sets(access(0, 0, 1), access(0, 3, -1)))},
		{"squares of itself", [][]int{{3}}, [][]int{{6561}}, nest([]int{3}, sets(access(0, 0, 0), access(0, 0, 0), access(0, 0, 0)))},
		{"itself added", [][]int{{1}}, [][]int{{16}}, nest([]int{4}, adds(access(0, 0, 0), access(0, 0, 0)))},
		{"itself times itself added", [][]int{{1}}, [][]int{{42}}, nest([]int{3}, adds(access(0, 0, 0), access(0, 0, 0), access(0, 0, 0)))},
		{"two lines in turn", [][]int{{1, 1}}, [][]int{{8, 8}}, nest([]int{3}, adds(access(0, 0, 0), access(0, 1, 0)), sets(access(0, 1, 0), access(0, 0, 0)))},
		{"three lines in turn", [][]int{{1, 0, 0}}, [][]int{{16, 8, 8}}, nest([]int{4}, sets(access(0, 1, 0), access(0, 0, 0)), sets(access(0, 2, 0), access(0, 1, 0)), adds(access(0, 0, 0), access(0, 2, 0)))},
		{"the innermost first", [][]int{{1, 2, 3, 4}, {0}, {10}}, [][]int{{1, 2, 3, 4}, {1234}, {10}}, nest([]int{2, 2}, sets(access(1, 0, 0, 0), access(1, 0, 0, 0), access(2, 0, 0, 0)), adds(access(1, 0, 0, 0), access(0, 0, 2, 1)))},
		{"the outermost first", [][]int{{1, 2, 3, 4}, {0}, {10}}, [][]int{{1, 2, 3, 4}, {1324}, {10}}, nest([]int{2, 2}, sets(access(1, 0, 0, 0), access(1, 0, 0, 0), access(2, 0, 0, 0)), adds(access(1, 0, 0, 0), access(0, 0, 1, 2)))},
		{"loops that go once", [][]int{{1, 2}, {0, 0}}, [][]int{{1, 2}, {2, 1}}, nest([]int{1, 2, 1}, sets(access(1, 1, 64, -1, -64), access(0, 0, -64, 1, 63)))},
		{"only loops that go once", [][]int{one, {5}}, [][]int{one, {6}}, nest([]int{1, 1, 1, 1, 1}, adds(access(1, 0, 1, 2, 3, 4, 5), access(0, 0, 0, 0, 0, 0, 0)))},
	} {
		got, ok := impl.RunNest(c.memory, c.n)
		checkMemory(t, c.name, got, ok, c.want, true)
		checkRun(t, c.memory, c.n)
		checkRuns(t, c.memory, c.n)
		checkRuns(t, c.memory, c.n, c.n)
	}
}

// All that is read is multiplied one behind the other: a product of the first ones counts, and so does each number that is written, even if it is gone in the end.
func TestRunNestAtTheLimit(t *testing.T) {
	const most = impl.MaxNum
	times := func(many int) impl.Nest {
		var ins []impl.Access
		for i := range many {
			ins = append(ins, access(0, i))
		}
		return nest(nil, sets(access(1, 0), ins...))
	}
	for _, c := range []struct {
		nums []int
		want int
		ok   bool
	}{
		{[]int{most}, most, true}, {[]int{-most}, -most, true},
		{[]int{most, 1}, most, true}, {[]int{most, -1}, -most, true}, {[]int{-most, -1}, most, true},
		{[]int{most / 2, 2}, most, true}, {[]int{most/2 + 1, 2}, 0, false}, {[]int{-most / 2, 2}, -most, true}, {[]int{-most/2 - 1, 2}, 0, false},
		{[]int{31622, 31622}, 999950884, true}, {[]int{31623, 31623}, 0, false}, {[]int{31623, -31623}, 0, false},
		{[]int{most, most}, 0, false}, {[]int{-most, most}, 0, false}, {[]int{most, most, most, most}, 0, false},
		{[]int{most, most, 0}, 0, false}, {[]int{2, most, 0}, 0, false}, {[]int{most, 0, most}, 0, true}, {[]int{0, most, most, most}, 0, true}, {[]int{most, 2, 0, 0}, 0, false},
		{[]int{1000, 1000, 1000, 1}, most, true}, {[]int{1000, 1000, 1000, -1}, -most, true}, {[]int{1000, 1000, 1000, 2}, 0, false}, {[]int{1001, 1000, 1000, 0}, 0, false},
		{[]int{1000, 1000, -1001, 0}, 0, false}, {[]int{1000, 1000, 0, 1001}, 0, true},
	} {
		memory := [][]int{c.nums, {7}}
		want := [][]int{c.nums, {c.want}}
		if !c.ok {
			want = nil
		}
		n := times(len(c.nums))
		got, ok := impl.RunNest(memory, n)
		checkMemory(t, fmt.Sprintf("RunNest(%v, %v)", memory, n), got, ok, want, c.ok)
		checkRuns(t, memory, n)
	}
	for _, c := range []struct {
		nums []int
		from int
		ok   bool
	}{
		{[]int{1}, most - 1, true}, {[]int{1}, most, false}, {[]int{-1}, most, true}, {[]int{-1}, -most + 1, true}, {[]int{-1}, -most, false}, {[]int{1}, -most, true},
		{[]int{most}, 0, true}, {[]int{most}, 1, false}, {[]int{-most}, 0, true}, {[]int{-most}, -1, false}, {[]int{most}, -most, true}, {[]int{most, most}, -most, true}, {[]int{most, most, 1}, -most, false},
		{[]int{1, -1}, most, false}, {[]int{-1, 1}, most, true}, {[]int{most, -most}, 1, false}, {[]int{-most, most}, 1, true}, {[]int{most, most}, 0, false}, {[]int{most, 0, 0, 1}, 0, false},
	} {
		memory := [][]int{c.nums, {c.from}}
		n := nest([]int{len(c.nums)}, adds(access(1, 0, 0), access(0, 0, 1)))
		if ok := checkRun(t, memory, n); ok != c.ok {
			t.Errorf("%v done over %v is %v", n, memory, ok)
		}
		checkRuns(t, memory, n)
		// What is set does not hang on what was there.
		n.Lines[0].Set = true
		if !checkRun(t, memory, n) {
			t.Errorf("%v is not done over %v", n, memory)
		}
	}
	// One line of three is enough, and one turn of all.
	half := nest([]int{4}, adds(access(0, 0, 0), access(0, 0, 0)))
	for at := range 3 {
		n := nest([]int{4}, sets(access(1, 0, 0), access(1, 1, 0)), sets(access(1, 0, 0), access(1, 1, 0)), sets(access(1, 0, 0), access(1, 1, 0)))
		n.Lines[at] = half.Lines[0]
		for from, want := range map[int]bool{most / 16: true, most/16 + 1: false, -most / 16: true, -most/16 - 1: false} {
			if ok := checkRun(t, [][]int{{from}, {0, 1}}, n); ok != want {
				t.Errorf("%v done over %d is %v", n, from, ok)
			}
			checkRuns(t, [][]int{{from}, {0, 1}}, n)
		}
	}
	if checkRuns(t, [][]int{{most / 16}}, half, half) || !checkRuns(t, [][]int{{most / 256}}, half, half) {
		t.Error("the second nest does not count")
	}
}

// noMemories returns lists of numbers that are no memory, though the buffer 0 has a number 0 in most of them.
func noMemories() [][][]int {
	long := make([]int, 65)
	return [][][]int{
		{{}}, {{1, 2}, {}}, {{}, {1, 2}}, {{1}, {1}, {}, {1}}, {{1}, {1}, {1}, {1}, {}}, {long}, {{1}, long}, {{1}, {1}, {1}, {1}, long}, {make([]int, 1000)},
		{{1}, {1}, {1}, {1}, {1}, {1}}, make([][]int, 6), make([][]int, 1000), {{1}, {1}, {1}, {1}, {1}, {}},
		{{impl.MaxNum + 1}}, {{-impl.MaxNum - 1}}, {{farUp}}, {{farDown}}, {{1, farUp}}, {{1}, {1, farDown}}, {{1}, {2}, {3}, {4}, {1, 2, impl.MaxNum + 1}}, {{1}, {2}, {-impl.MaxNum - 1}},
	}
}

func TestMemoriesThatAreNone(t *testing.T) {
	n := nest(nil, adds(access(0, 0), access(0, 0)))
	for _, memory := range noMemories() {
		if checkRun(t, memory, n) || checkRuns(t, memory, n) || checkRuns(t, memory) || checkRuns(t, memory, n, n) {
			t.Errorf("%v is memory", memory)
		}
	}
	for _, sizes := range [][]int{{0}, {-1}, {65}, {1, 0}, {1, 65}, {1, 1, 1, 1, 0}, {1, 1, 1, 1, 1, 1}, {farUp}, {farDown}, make([]int, 1000), nil} {
		checkNoNestOf(t, sizes, n)
	}
	for _, sizes := range [][]int{{1}, {64}, {1, 64}, {1, 1, 1, 1, 1}, {64, 64, 64, 64, 64}} {
		if !checkNestOk(t, sizes, n) || !checkTurnsFreely(t, sizes, n, nil) || !checkFusesFreely(t, sizes, n, n) {
			t.Errorf("%v is no nest of %v", n, sizes)
		}
	}
	full := make([][]int, 5)
	for i := range full {
		full[i] = slices.Repeat([]int{impl.MaxNum - 2*impl.MaxNum*(i%2)}, 64)
	}
	if !checkRun(t, full, nest([]int{4}, sets(access(1, 0, 21), access(4, 63, -21)))) || !checkRuns(t, full) || !checkRuns(t, [][]int{}) || !checkRuns(t, nil) {
		t.Error("memory at its limits is none")
	}
	if checkRun(t, nil, n) || checkRuns(t, nil, n) || checkRun(t, nil, impl.Nest{}) {
		t.Error("there are nests of no buffers")
	}
}

func TestRunNestsByHand(t *testing.T) {
	next := nest([]int{3}, sets(access(0, 3, -1), access(0, 2, -1)))
	double := nest(nil, adds(access(0, 0), access(0, 0)))
	memory := [][]int{{1, 0, 0, 0}}
	for many, want := range []int{1, 2, 4, 8} {
		got, ok := impl.RunNests(memory, slices.Repeat([]impl.Nest{double, next}, many))
		checkMemory(t, "RunNests", got, ok, [][]int{{want, []int{0, 2, 4, 8}[many], []int{0, 0, 2, 4}[many], []int{0, 0, 0, 2}[many]}}, true)
	}
	for _, many := range []int{0, 1, 2, 255, 256, 257, 1000} {
		one := nest(nil, adds(access(0, 1), access(0, 0)))
		got, ok := impl.RunNests([][]int{{1, 0}}, slices.Repeat([]impl.Nest{one}, many))
		want := [][]int{{1, many}}
		if many > 256 {
			want = nil
		}
		checkMemory(t, fmt.Sprintf("RunNests of %d", many), got, ok, want, many <= 256)
	}
	for _, bad := range []impl.Nest{{}, nest([]int{0}, double.Lines...), nest(nil, adds(access(0, 4), access(0, 0))), nest(nil, adds(access(1, 0), access(0, 0))), nest([]int{5}, next.Lines...)} {
		for _, list := range [][]impl.Nest{{bad}, {bad, double}, {double, bad}, {next, double, bad, next}, {bad, bad}} {
			if checkRuns(t, memory, list...) {
				t.Errorf("%v are nests of %v", list, memory)
			}
		}
	}
	if checkRuns(t, memory, slices.Repeat([]impl.Nest{double}, 40)...) {
		t.Error("a number beyond MaxNum is written")
	}
}

func TestNestOkByHand(t *testing.T) {
	line := func(loops int) impl.Line {
		return adds(access(0, 0, make([]int, loops)...), access(0, 0, make([]int, loops)...))
	}
	for _, c := range []struct {
		counts []int
		ok     bool
	}{
		{nil, true}, {[]int{1}, true}, {[]int{4}, true}, {[]int{0}, false}, {[]int{5}, false}, {[]int{-1}, false}, {[]int{1, 0}, false}, {[]int{5, 1}, false}, {[]int{farUp}, false}, {[]int{farDown}, false},
		{[]int{1, 1, 1, 1, 1}, true}, {[]int{1, 1, 1, 1, 1, 1}, false}, {[]int{4, 4, 4, 4}, true}, {[]int{4, 4, 4, 4, 1}, true}, {[]int{4, 4, 1, 4, 4}, true},
		{[]int{4, 4, 4, 4, 2}, false}, {[]int{4, 4, 4, 4, 4}, false}, {[]int{3, 3, 3, 3, 3}, true}, {[]int{4, 3, 3, 3, 3}, false}, {[]int{4, 4, 4, 2, 2}, true}, {[]int{4, 4, 4, 3, 2}, false}, {[]int{2, 4, 3, 4, 3}, false}, {[]int{2, 2, 4, 4, 4}, true},
		{[]int{farUp, farUp, farUp, farUp, farUp}, false}, {[]int{1 << 32, 1 << 32}, false}, {[]int{-1, -1}, false}, {make([]int, 1000), false},
	} {
		n := nest(c.counts, line(len(c.counts)))
		if ok := checkNestOk(t, []int{1}, n); ok != c.ok {
			t.Errorf("%v are counts: %v", c.counts, ok)
		}
		order := indexes(len(c.counts))
		if checkTurn(t, n, order) != c.ok || checkFuse(t, n, n) != c.ok || checkUnroll(t, n, 0) != (c.ok && len(order) > 0) || checkSplit(t, n, 0, 1) != (c.ok && len(order) > 0 && len(order) < 5) {
			t.Errorf("%v are counts", c.counts)
		}
		if c.ok {
			checkRun(t, [][]int{{0}}, n)
			continue
		}
		checkNoNestOf(t, []int{1}, n)
	}
	one := line(0)
	for many, ok := range []bool{false, true, true, true, false, false} {
		n := nest(nil, slices.Repeat([]impl.Line{one}, many)...)
		if checkNestOk(t, []int{1}, n) != ok {
			t.Errorf("%d lines", many)
		}
		if !ok {
			checkNoNestOf(t, []int{1}, n)
		}
	}
	for many, ok := range []bool{false, true, true, true, true, false, false} {
		n := nest(nil, one, adds(access(0, 0), slices.Repeat([]impl.Access{access(0, 0)}, many)...), one)
		if checkNestOk(t, []int{1}, n) != ok {
			t.Errorf("%d are read", many)
		}
		if !ok {
			checkNoNestOf(t, []int{1}, n)
		}
	}
	checkNoNestOf(t, []int{1}, nest(nil, slices.Repeat([]impl.Line{one}, 1000)...))
	checkNoNestOf(t, []int{1}, nest(nil, adds(access(0, 0), make([]impl.Access, 1000)...)))
	checkNoNestOf(t, []int{1}, impl.Nest{})
}

// Each access of a nest, what is read as well as what is written, stays in its buffer, whatever the numbers of the loops.
func TestAccessesBeyondTheirBuffers(t *testing.T) {
	for _, c := range []struct {
		counts []int
		a      impl.Access
		ok     bool
	}{
		{nil, access(0, 0), true}, {nil, access(0, 9), true}, {nil, access(0, 10), false}, {nil, access(0, -1), false}, {nil, access(1, 63), true}, {nil, access(1, 64), false}, {nil, access(2, 0), true}, {nil, access(2, 1), false},
		{nil, access(3, 0), false}, {nil, access(-1, 0), false}, {nil, access(farUp, 0), false}, {nil, access(farDown, 0), false}, {nil, access(0, farUp), false}, {nil, access(0, farDown), false}, {nil, access(0, 65), false}, {nil, access(0, -65), false},
		{nil, access(0, 0, 0), false}, {nil, access(0, 0, 1), false}, {[]int{2}, access(0, 0), false}, {[]int{2}, access(0, 0, 1, 0), false}, {[]int{1, 1}, access(0, 0, 1), false}, {[]int{1}, access(0, 0, make([]int, 1000)...), false},
		{[]int{4}, access(0, 0, 3), true}, {[]int{4}, access(0, 1, 3), false}, {[]int{4}, access(0, 0, 4), false}, {[]int{4}, access(0, 9, -3), true}, {[]int{4}, access(0, 8, -3), false}, {[]int{4}, access(0, 9, -4), false}, {[]int{4}, access(0, 9, 0), true}, {[]int{4}, access(0, 9, 1), false}, {[]int{4}, access(0, 0, -1), false},
		{[]int{4}, access(0, -1, 1), false}, {[]int{4}, access(0, 10, -1), false}, {[]int{4}, access(1, 0, 21), true}, {[]int{4}, access(1, 0, 22), false}, {[]int{4}, access(1, 63, -21), true}, {[]int{4}, access(1, 62, -21), false},
		{[]int{2}, access(1, 0, 63), true}, {[]int{2}, access(1, 0, 64), false}, {[]int{2}, access(1, 63, -63), true}, {[]int{2}, access(1, 63, -64), false}, {[]int{2}, access(1, 64, -1), false}, {[]int{2}, access(1, 0, farUp), false}, {[]int{2}, access(1, 0, farDown), false}, {[]int{4}, access(0, 0, 1<<62), false}, {[]int{3}, access(0, 0, -1<<63), false},
		{[]int{2, 4}, access(0, 0, 3, 2), true}, {[]int{2, 4}, access(0, 0, 4, 2), false}, {[]int{2, 4}, access(0, 3, -3, 2), true}, {[]int{2, 4}, access(0, 4, -3, 2), false}, {[]int{2, 4}, access(0, 2, -3, 2), false}, {[]int{2, 4}, access(0, 6, 3, -2), true}, {[]int{2, 4}, access(0, 7, 3, -2), false}, {[]int{2, 4}, access(0, 5, 3, -2), false}, {[]int{2, 4}, access(0, 9, -3, -2), true},
		// The numbers of both loops at once, not those of one alone.
		{[]int{3, 3}, access(2, 0, 1, -1), false}, {[]int{4, 4}, access(0, 5, 2, -2), false}, {[]int{2, 2}, access(2, 0, 0, 0), true},
		// The steps of a loop that goes once lead nowhere, but are limited like others.
		{[]int{1}, access(2, 0, 64), true}, {[]int{1}, access(2, 0, -64), true}, {[]int{1}, access(2, 0, 65), false}, {[]int{1}, access(2, 0, -65), false}, {[]int{1}, access(2, 0, farUp), false}, {[]int{1}, access(2, 0, farDown), false},
		{[]int{1, 4, 1}, access(0, 0, 64, 3, -64), true}, {[]int{1, 4, 1}, access(0, 0, 64, 3, -65), false}, {[]int{1, 4, 1}, access(0, 0, 65, 3, 0), false},
	} {
		sizes := []int{10, 64, 1}
		still := access(0, 0, make([]int, len(c.counts))...)
		good := adds(still, still)
		for _, line := range []impl.Line{adds(c.a, still), sets(c.a, still), adds(still, c.a), sets(still, still, still, still, c.a), adds(still, c.a, still), adds(c.a, c.a)} {
			for _, n := range []impl.Nest{nest(c.counts, line), nest(c.counts, line, good, good), nest(c.counts, good, line), nest(c.counts, good, good, line)} {
				if ok := checkNestOk(t, sizes, n); ok != c.ok {
					t.Errorf("NestOk(%v, %v) = %v", sizes, n, ok)
				}
				if c.ok {
					checkRun(t, [][]int{make([]int, 10), make([]int, 64), make([]int, 1)}, n)
					continue
				}
				checkNoNestOf(t, sizes, n)
				other := nest(c.counts, good)
				if impl.FusesFreely(sizes, n, other) || impl.FusesFreely(sizes, other, n) {
					t.Errorf("%v and %v are fused freely", n, other)
				}
			}
		}
	}
}

func TestNestOfByHand(t *testing.T) {
	for _, c := range []struct {
		text  string
		sizes []int
		want  impl.Nest
	}{
		{"ab,bc>ac:222", []int{4, 4, 4}, nest([]int{2, 2, 2}, adds(access(2, 0, 2, 0, 1), access(0, 0, 2, 1, 0), access(1, 0, 0, 2, 1)))},
		{">:", []int{1, 1}, nest(nil, adds(access(1, 0), access(0, 0)))},
		{",,,>:", []int{1, 1, 1, 1, 1}, nest(nil, adds(access(4, 0), access(0, 0), access(1, 0), access(2, 0), access(3, 0)))},
		{"a>:3", []int{3, 1}, nest([]int{3}, adds(access(1, 0, 0), access(0, 0, 1)))},
		{"a,>a:3", []int{3, 1, 3}, nest([]int{3}, adds(access(2, 0, 1), access(0, 0, 1), access(1, 0, 0)))},
		{"ba>ab:23", []int{6, 6}, nest([]int{2, 3}, adds(access(1, 0, 3, 1), access(0, 0, 1, 2)))},
		{"cab>b:323", []int{18, 2}, nest([]int{3, 2, 3}, adds(access(1, 0, 0, 1, 0), access(0, 0, 2, 1, 6)))},
		// Letters that go once have strides like others.
		{"abc>ca:312", []int{6, 6}, nest([]int{3, 1, 2}, adds(access(1, 0, 1, 0, 3), access(0, 0, 2, 2, 1)))},
		{"abc,cde,a,e>bda:33333", []int{27, 27, 3, 3, 27}, nest([]int{3, 3, 3, 3, 3}, adds(access(4, 0, 1, 9, 0, 3, 0), access(0, 0, 9, 3, 1, 0, 0), access(1, 0, 0, 0, 9, 3, 1), access(2, 0, 1, 0, 0, 0, 0), access(3, 0, 0, 0, 0, 0, 1)))},
	} {
		n, sizes, ok := impl.NestOf(sumOfText(t, c.text))
		checkNest(t, "NestOf "+c.text, n, ok, c.want)
		if !sameInts(sizes, c.sizes) {
			t.Errorf("NestOf %s has buffers of %v, not %v", c.text, sizes, c.sizes)
		}
	}
	for _, s := range append(noSums(), impl.IndexSum{}) {
		n, sizes, ok := impl.NestOf(s)
		checkNoNest(t, fmt.Sprintf("NestOf(%v)", s), n, ok)
		if len(sizes) != 0 {
			t.Errorf("NestOf(%v) has buffers of %v", s, sizes)
		}
	}
}

// memoryOf returns the numbers of tensors, and behind them a buffer with one number at all places.
func memoryOf(tensors []impl.Tensor, places, num int) [][]int {
	var memory [][]int
	for _, x := range tensors {
		memory = append(memory, copyInts(x.Nums))
	}
	return append(memory, slices.Repeat([]int{num}, places))
}

// sameSumNest fails if a nest of an index sum does anything else than add its value. It reports whether there is memory behind it.
func sameSumNest(t *testing.T, s impl.IndexSum, n impl.Nest, tensors []impl.Tensor, from int) bool {
	t.Helper()
	value, ok := impl.SumValue(s, tensors)
	memory := memoryOf(tensors, countByRule(sizesByRule(s, s.Out)), from)
	got, gotOk := impl.RunNest(memory, n)
	name := fmt.Sprintf("RunNest(%v, %v)", memory, n)
	if !gotOk {
		checkMemory(t, name, got, gotOk, nil, false)
		return false
	}
	want := memoryOf(tensors, 0, 0)
	want[len(tensors)] = copyInts(value.Nums)
	for i := range value.Nums {
		want[len(tensors)][i] += from
	}
	checkMemory(t, name, got, ok, want, true)
	return true
}

// Promise 8 for the nests of index sums: they come to the values of these, and may be turned, split and unrolled in any way.
func TestNestsOfSumsComeToTheirValues(t *testing.T) {
	d := &dice{state: 80}
	done, tooGreat, split, unrolled, turned := 0, 0, 0, 0, 0
	for i := range 400 {
		s := d.sum(1 + i%4)
		n, sizes, ok := impl.NestOf(s)
		if !ok || !checkNestOk(t, sizes, n) {
			t.Fatalf("NestOf(%v) = %v, %v, %v", s, n, sizes, ok)
		}
		for at, letters := range append(slices.Clone(s.Factors), s.Out) {
			if sizes[at] != countByRule(sizesByRule(s, letters)) {
				t.Errorf("NestOf(%v) has buffers of %v", s, sizes)
			}
		}
		tensors := factorsFor(s)[1]
		for _, set := range factorsFor(s) {
			memory := memoryOf(set, sizes[len(sizes)-1], 0)
			if checkRun(t, memory, n) {
				done++
			} else {
				tooGreat++
			}
			for _, from := range []int{0, 5} {
				sameSumNest(t, s, n, set, from)
			}
		}
		orders := factorOrders(len(s.Sizes))
		for k, turn := range orders {
			if !impl.TurnsFreely(sizes, n, turn) {
				t.Errorf("%v, the nest of %v, is not turned freely by %v", n, s, turn)
			}
			if len(orders) > 24 && k%7 != 0 {
				continue
			}
			other, _ := impl.TurnNest(n, turn)
			if !sameSumNest(t, s, other, tensors, 0) {
				t.Errorf("%v has no memory behind it", other)
			}
			turned++
		}
		for loop, size := range s.Sizes {
			if len(s.Sizes) < 5 {
				split++
				other, ok := impl.SplitNest(n, loop, size)
				if !ok || !sameSumNest(t, s, other, tensors, 1) {
					t.Errorf("SplitNest(%v, %d, %d) = %v, %v", n, loop, size, other, ok)
				}
			}
			unrolled++
			list, ok := impl.UnrollNest(n, loop)
			memory := memoryOf(tensors, sizes[len(sizes)-1], 2)
			got, gotOk := impl.RunNests(memory, list)
			want, wantOk := impl.RunNest(memory, n)
			checkMemory(t, fmt.Sprintf("RunNests(%v, %v)", memory, list), got, ok && gotOk, want, wantOk)
		}
	}
	if done < 1500 || tooGreat < 100 || split < 500 || unrolled < 500 || turned < 2000 {
		t.Errorf("%d done, %d too great, %d split, %d unrolled, %d turned", done, tooGreat, split, unrolled, turned)
	}
}

func TestTurnNestByHand(t *testing.T) {
	n := nest([]int{2, 3, 4}, sets(access(0, 1, 10, 20, -30), access(1, 2, 1, 2, 3), access(2, 3, 4, 5, 6)), adds(access(3, 4, 7, 8, 9), access(4, 5, 0, 1, 0)))
	got, ok := impl.TurnNest(n, []int{2, 0, 1})
	checkNest(t, "TurnNest", got, ok, nest([]int{4, 2, 3}, sets(access(0, 1, -30, 10, 20), access(1, 2, 3, 1, 2), access(2, 3, 6, 4, 5)), adds(access(3, 4, 9, 7, 8), access(4, 5, 0, 0, 1))))
	for _, turn := range factorOrders(3) {
		if !checkTurn(t, n, turn) {
			t.Errorf("%v is no order", turn)
		}
	}
	for _, turn := range append(listsOf(3, -1, 3), nil, []int{0}, []int{0, 1}, []int{2, 1}, []int{0, 1, 2, 3}, []int{0, 1, 2, 2}, []int{farUp, 0, 1}, []int{0, 1, farDown}, make([]int, 1000)) {
		if checkTurn(t, n, turn) != isFactorOrder(turn, 3) {
			t.Errorf("%v is an order", turn)
		}
	}
	five := nest([]int{1, 2, 3, 2, 4}, adds(access(0, 0, 1, 2, 3, 4, 5), access(0, 0, -1, -2, -3, -4, -5)))
	for _, turn := range factorOrders(5) {
		checkTurn(t, five, turn)
	}
	if !checkTurn(t, nest(nil, adds(access(0, 0), access(0, 1))), nil) || !checkTurn(t, impl.Nest{}, nil) || checkTurn(t, impl.Nest{}, []int{0}) {
		t.Error("nests without loops have one order")
	}
}

func TestSplitNestByHand(t *testing.T) {
	n := nest([]int{2, 4}, sets(access(0, 1, 10, -3), access(1, 2, 0, 5), access(2, 0, 1, 0)), adds(access(0, 3, 1, 1), access(0, 0, 2, 2)))
	for _, c := range []struct {
		loop, size int
		want       impl.Nest
	}{
		{0, 1, nest([]int{2, 1, 4}, sets(access(0, 1, 10, 10, -3), access(1, 2, 0, 0, 5), access(2, 0, 1, 1, 0)), adds(access(0, 3, 1, 1, 1), access(0, 0, 2, 2, 2)))},
		{0, 2, nest([]int{1, 2, 4}, sets(access(0, 1, 20, 10, -3), access(1, 2, 0, 0, 5), access(2, 0, 2, 1, 0)), adds(access(0, 3, 2, 1, 1), access(0, 0, 4, 2, 2)))},
		{1, 1, nest([]int{2, 4, 1}, sets(access(0, 1, 10, -3, -3), access(1, 2, 0, 5, 5), access(2, 0, 1, 0, 0)), adds(access(0, 3, 1, 1, 1), access(0, 0, 2, 2, 2)))},
		{1, 2, nest([]int{2, 2, 2}, sets(access(0, 1, 10, -6, -3), access(1, 2, 0, 10, 5), access(2, 0, 1, 0, 0)), adds(access(0, 3, 1, 2, 1), access(0, 0, 2, 4, 2)))},
		{1, 4, nest([]int{2, 1, 4}, sets(access(0, 1, 10, -12, -3), access(1, 2, 0, 20, 5), access(2, 0, 1, 0, 0)), adds(access(0, 3, 1, 4, 1), access(0, 0, 2, 8, 2)))},
	} {
		got, ok := impl.SplitNest(n, c.loop, c.size)
		checkNest(t, fmt.Sprintf("SplitNest(%v, %d, %d)", n, c.loop, c.size), got, ok, c.want)
	}
	for _, size := range []int{-4, -2, -1, 0, 3, 5, 6, 8, farUp, farDown} {
		for loop := -1; loop <= 2; loop++ {
			if checkSplit(t, n, loop, size) {
				t.Errorf("a loop of %v is split by %d", n, size)
			}
		}
	}
	for _, loop := range []int{-1, 2, 3, farUp, farDown} {
		for size := range 6 {
			if checkSplit(t, n, loop, size) {
				t.Errorf("%v has a loop %d", n, loop)
			}
		}
	}
	// Sizes that divide each count, and no others.
	for count := 1; count <= 4; count++ {
		one := nest([]int{count}, adds(access(0, 0, 1), access(1, 9, -2)))
		for size := -1; size <= 9; size++ {
			if want := size > 0 && count/size*size == count; checkSplit(t, one, 0, size) != want {
				t.Errorf("a loop of %d is split by %d: %v", count, size, !want)
			}
		}
	}
	for loops := range 7 {
		many := nest(slices.Repeat([]int{2}, loops), adds(access(0, 0, indexes(loops)...), access(1, 0, indexes(loops)...)))
		for loop := range loops {
			for size := 1; size <= 2; size++ {
				if checkSplit(t, many, loop, size) != (loops < 5) {
					t.Errorf("one of %d loops is split by %d: %v", loops, size, loops == 5)
				}
			}
		}
		checkSplit(t, many, 0, 1)
	}
}

// The outer loop steps the size times as far even where it goes once, and by the document's limit of steps that may be no nest of any buffers.
func TestSplitLoopsThatStepBeyondTheLimit(t *testing.T) {
	for _, c := range []struct {
		count, size, step int
		ok                bool
	}{{2, 2, 32, true}, {2, 2, 33, false}, {2, 2, -32, true}, {2, 2, -33, false}, {3, 3, 21, true}, {3, 3, 22, false}, {4, 4, 16, true}, {4, 4, -17, false}, {4, 2, 21, true}, {4, 2, -21, true}, {1, 1, 64, true}, {2, 1, 63, true}} {
		base := 0
		if c.step < 0 {
			base = 63
		}
		n := nest([]int{c.count}, sets(access(0, base, c.step), access(1, 0, 1)))
		memory := [][]int{make([]int, 64), {1, 2, 3, 4}}
		if !checkSplit(t, n, 0, c.size) || !checkRun(t, memory, n) {
			t.Fatalf("%v is no nest", n)
		}
		split, _ := impl.SplitNest(n, 0, c.size)
		if checkNestOk(t, []int{64, 4}, split) != c.ok || checkRun(t, memory, split) != c.ok {
			t.Errorf("%v is a nest: %v", split, !c.ok)
		}
	}
}

func TestUnrollNestByHand(t *testing.T) {
	n := nest([]int{2, 3}, sets(access(0, 1, 10, -3), access(1, 2, 0, 5), access(2, 0, 1, 0)), adds(access(0, 3, 1, 1), access(0, 0, 2, 2)))
	rows := func(base ...int) impl.Nest {
		return nest([]int{3}, sets(access(0, base[0], -3), access(1, base[1], 5), access(2, base[2], 0)), adds(access(0, base[3], 1), access(0, base[4], 2)))
	}
	columns := func(base ...int) impl.Nest {
		return nest([]int{2}, sets(access(0, base[0], 10), access(1, base[1], 0), access(2, base[2], 1)), adds(access(0, base[3], 1), access(0, base[4], 2)))
	}
	one := nest([]int{1}, sets(access(0, 7, 64), access(0, 5, -64)))
	for _, c := range []struct {
		n    impl.Nest
		loop int
		want []impl.Nest
	}{
		{n, 0, []impl.Nest{rows(1, 2, 0, 3, 0), rows(11, 2, 1, 4, 2)}},
		{n, 1, []impl.Nest{columns(1, 2, 0, 3, 0), columns(-2, 7, 0, 4, 2), columns(-5, 12, 0, 5, 4)}},
		{one, 0, []impl.Nest{nest(nil, sets(access(0, 7), access(0, 5)))}},
		{nest([]int{4}, adds(access(0, 6, -2), access(1, 0, 1))), 0, []impl.Nest{nest(nil, adds(access(0, 6), access(1, 0))), nest(nil, adds(access(0, 4), access(1, 1))), nest(nil, adds(access(0, 2), access(1, 2))), nest(nil, adds(access(0, 0), access(1, 3)))}},
	} {
		got, ok := impl.UnrollNest(c.n, c.loop)
		if !ok || !slices.EqualFunc(got, c.want, sameNest) {
			t.Errorf("UnrollNest(%v, %d) = %v, %v, not %v", c.n, c.loop, got, ok, c.want)
		}
	}
	for _, loop := range []int{-1, 2, 3, farUp, farDown} {
		if checkUnroll(t, n, loop) {
			t.Errorf("%v has a loop %d", n, loop)
		}
	}
	for loops := range 7 {
		many := nest(slices.Repeat([]int{2}, loops), adds(access(0, 9, indexes(loops)...), access(1, 0, indexes(loops)...)))
		for loop := -1; loop <= loops; loop++ {
			if checkUnroll(t, many, loop) != (loop >= 0 && loop < loops && loops < 6) {
				t.Errorf("the loop %d of %d is unrolled", loop, loops)
			}
		}
	}
}

func TestFuseNestsByHand(t *testing.T) {
	line := func(num int) impl.Line {
		return impl.Line{Out: access(num, 1, 2), Ins: []impl.Access{access(0, num, 3), access(4, 5, num)}, Set: num%2 == 0}
	}
	a, b, c := line(1), line(2), line(3)
	got, ok := impl.FuseNests(nest([]int{4}, a), nest([]int{4}, b))
	checkNest(t, "FuseNests", got, ok, nest([]int{4}, a, b))
	got, ok = impl.FuseNests(nest([]int{4}, c), nest([]int{4}, b, a))
	checkNest(t, "FuseNests", got, ok, nest([]int{4}, c, b, a))
	for first := range 5 {
		for second := range 5 {
			n, m := nest([]int{3}, slices.Repeat([]impl.Line{a}, first)...), nest([]int{3}, slices.Repeat([]impl.Line{b}, second)...)
			if checkFuse(t, n, m) != (first+second <= 3) {
				t.Errorf("%d and %d lines are fused: %v", first, second, first+second > 3)
			}
		}
	}
	still := func(loops int) impl.Line {
		return adds(access(0, 0, make([]int, loops)...), access(0, 0, make([]int, loops)...))
	}
	all := append(listsOf(1, 0, 5), append(listsOf(2, 1, 3), nil, []int{1, 1, 1, 1, 1}, []int{4, 4, 4, 4, 2}, []int{1, 1, 1, 1, 1, 1})...)
	for _, x := range all {
		for _, y := range all {
			n, m := nest(x, still(len(x))), nest(y, still(len(y)))
			fused := checkFuse(t, n, m)
			if fused != (sameInts(x, y) && loopsByRule(n)) {
				t.Errorf("loops of %v and %v are fused: %v", x, y, fused)
			}
			if checkFusesFreely(t, []int{1}, n, m) && !fused {
				t.Errorf("loops of %v and %v are fused freely", x, y)
			}
		}
	}
	good := nest([]int{2}, still(1))
	for _, bad := range []impl.Nest{nest([]int{2}, still(0)), nest([]int{2}, still(2)), nest([]int{2}, adds(access(0, 0, 0), access(0, 0))), nest([]int{2}, adds(access(0, 0), access(0, 0, 0)))} {
		if checkFuse(t, bad, good) || checkFuse(t, good, bad) || checkFuse(t, bad, bad) {
			t.Errorf("%v has a step for each loop", bad)
		}
	}
}

// Whatever lines a nest has, and whatever they read and write, its loops are turned, split, unrolled and fused.
func TestChangesOfNestsOfNoBuffers(t *testing.T) {
	counts := []int{2, 1, 4}
	steps := []int{farUp, 0, farDown}
	var ins []impl.Access
	for i := range 9 {
		ins = append(ins, access(-i, farUp, 100*i, -100*i, 1))
	}
	odd := sets(access(farDown, farUp, steps...), ins...)
	nothing := adds(access(-1, -1000, 1, 2, 3))
	for _, lines := range [][]impl.Line{nil, {nothing}, {odd}, {odd, nothing}, {odd, odd, odd, odd, nothing, nothing}} {
		n := nest(counts, lines...)
		for _, turn := range factorOrders(3) {
			if !checkTurn(t, n, turn) {
				t.Errorf("%v is not turned", n)
			}
		}
		for loop, count := range counts {
			if !checkUnroll(t, n, loop) || !checkSplit(t, n, loop, count) || !checkSplit(t, n, loop, 1) {
				t.Errorf("%v is not unrolled or split", n)
			}
		}
		for _, other := range []impl.Nest{nest(counts), nest(counts, nothing), nest(counts, odd, odd)} {
			want := len(n.Lines)+len(other.Lines) <= 3
			if checkFuse(t, n, other) != want || checkFuse(t, other, n) != want {
				t.Errorf("%v and %v are fused: %v", n, other, !want)
			}
		}
		checkNoNestOf(t, []int{64, 64}, n)
	}
	// One access without a step for each of the loops is enough.
	for _, bad := range []impl.Access{access(0, 0), access(0, 0, 1, 2), access(0, 0, 1, 2, 3, 4)} {
		for _, line := range []impl.Line{adds(bad, ins...), adds(access(0, 0, steps...), bad), sets(access(0, 0, steps...), append(slices.Clone(ins), bad)...), adds(bad)} {
			for _, n := range []impl.Nest{nest(counts, line), nest(counts, line, odd), nest(counts, odd, odd, odd, odd, line)} {
				if checkTurn(t, n, []int{0, 1, 2}) || checkUnroll(t, n, 0) || checkSplit(t, n, 0, 1) || checkFuse(t, n, nest(counts)) || checkFuse(t, nest(counts), n) {
					t.Errorf("%v has a step for each loop", n)
				}
			}
		}
	}
}

func TestTurnsFreelyByHand(t *testing.T) {
	product := nest([]int{2, 2, 2}, adds(access(2, 0, 2, 0, 1), access(0, 0, 2, 1, 0), access(1, 0, 0, 2, 1)))
	for _, turn := range factorOrders(3) {
		if !checkTurnsFreely(t, []int{4, 4, 4}, product, turn) {
			t.Errorf("the product is not turned freely by %v", turn)
		}
	}
	swap := []int{1, 0}
	sizes := []int{16, 16, 1}
	zero := func(counts ...int) impl.Access { return access(2, 0, make([]int, len(counts))...) }
	square := []int{3, 3}
	still := zero(square...)
	for _, c := range []struct {
		name string
		n    impl.Nest
		turn []int
		want bool
	}{
		{"what is only read", nest(square, adds(access(0, 0, 4, 1), access(1, 0, 0, 0))), swap, true},
		{"what is only added to", nest(square, adds(still, access(0, 0, 4, 1))), swap, true},
		{"what is set again", nest(square, sets(still, access(0, 0, 4, 1))), swap, false},
		{"what is set again in order", nest(square, sets(still, access(0, 0, 4, 1))), []int{0, 1}, true},
		{"what is set again along one loop", nest(square, sets(access(1, 0, 4, 0), access(0, 0, 4, 1))), swap, true},
		{"what is added to and read", nest(square, adds(still, still)), swap, false},
		{"what is set and read", nest(square, sets(still, still)), swap, false},
		{"what is added to and read at one place each", nest(square, adds(access(0, 0, 4, 1), access(0, 0, 4, 1))), swap, true},
		{"what is set and read at one place each", nest(square, sets(access(0, 0, 4, 1), access(0, 0, 4, 1))), swap, true},
		{"the row above", nest(square, sets(access(0, 4, 4, 1), access(0, 0, 4, 1))), swap, true},
		{"the column ahead", nest(square, sets(access(0, 1, 4, 1), access(0, 0, 4, 1))), swap, true},
		{"above and ahead", nest(square, adds(access(0, 5, 4, 1), access(0, 0, 4, 1))), swap, true},
		{"above and behind", nest(square, adds(access(0, 4, 4, 1), access(0, 1, 4, 1))), swap, false},
		{"below and ahead", nest(square, sets(access(0, 1, 4, 1), access(0, 4, 4, 1))), swap, false},
		{"the row turned round", nest(square, sets(access(0, 4, 4, 1), access(0, 3, 4, -1))), swap, false},
		{"two lines that add to one place", nest(square, adds(still, access(0, 0, 4, 1)), adds(still, access(1, 0, 4, 1))), swap, true},
		{"one line that adds, one that sets", nest(square, adds(still, access(0, 0, 4, 1)), sets(still, access(1, 0, 4, 1))), swap, false},
		{"one line that sets, one that adds", nest(square, sets(access(1, 0, 4, 1), access(0, 0, 4, 1)), adds(access(1, 0, 4, 1), still)), swap, true},
		{"a line that reads what another one sets", nest(square, sets(access(1, 0, 4, 1), still), adds(access(0, 0, 4, 1), access(1, 0, 4, 1))), swap, true},
		{"a line that reads back what another one sets", nest(square, sets(access(1, 0, 4, 1), still), adds(access(0, 0, 4, 1), access(1, 10, -4, -1))), swap, false},
		{"a line that reads what another one sets across", nest(square, sets(access(1, 0, 4, 1), still), adds(access(0, 0, 4, 1), access(1, 0, 1, 4))), swap, false},
		{"a set of one loop for sums of others", nest([]int{2, 2, 4}, sets(access(1, 0, 2, 1, 0), access(0, 0, 8, 4, 1)), adds(access(1, 0, 2, 1, 0), access(0, 0, 0, 0, 1))), []int{2, 1, 0}, true},
		{"places of two buffers with one index", nest(square, sets(access(0, 0, 4, 1), access(1, 0, 1, 4))), swap, true},
		{"loops that go once", nest([]int{1, 4}, sets(zero(1, 4), access(0, 0, 64, 1))), swap, true},
		{"loops that go once, and back", nest([]int{1, 4, 1}, adds(access(0, 1, 64, 1, -64), access(0, 0, -64, 1, 64))), []int{2, 0, 1}, true},
		{"one line of three", nest(square, adds(access(0, 0, 4, 1), access(1, 0, 4, 1)), adds(access(1, 0, 4, 1), still), sets(still, access(0, 0, 0, 0))), swap, false},
		{"the fourth that is read", nest(square, adds(access(0, 4, 4, 1), still, still, still, access(0, 1, 4, 1))), swap, false},
	} {
		if got := checkTurnsFreely(t, sizes, c.n, c.turn); got != c.want {
			t.Errorf("%s: %v", c.name, got)
		}
		if !checkTurnsFreely(t, sizes, c.n, indexes(len(c.n.Counts))) {
			t.Errorf("%s: not even as it is", c.name)
		}
		for _, turn := range append(listsOf(2, -1, 3), nil, []int{0}, []int{0, 1, 2, 3}, []int{farUp, 0}, []int{0, farDown}, make([]int, 1000)) {
			if !isFactorOrder(turn, len(c.n.Counts)) && checkTurnsFreely(t, sizes, c.n, turn) {
				t.Errorf("%v is an order of the loops of %v", turn, c.n)
			}
		}
	}
	one := nest(nil, sets(access(0, 0), access(0, 0)))
	if !checkTurnsFreely(t, []int{1}, one, nil) || checkTurnsFreely(t, []int{1}, one, []int{0}) {
		t.Error("a nest without loops has one order")
	}
}

func TestFusesFreelyByHand(t *testing.T) {
	sizes := []int{8, 8, 8}
	loop := []int{4}
	first := nest(loop, sets(access(1, 0, 1), access(0, 0, 1)))
	sum := nest(loop, adds(access(1, 0, 0), access(0, 0, 1)))
	for _, c := range []struct {
		name string
		n, m impl.Nest
		want bool
	}{
		{"what was set", first, nest(loop, sets(access(2, 0, 1), access(1, 0, 1))), true},
		{"what was set ahead", first, nest(loop, sets(access(2, 0, 1), access(1, 0, 0))), true},
		{"what is set in the end", first, nest(loop, sets(access(2, 0, 1), access(1, 3, 0))), false},
		{"what is set behind", first, nest(loop, sets(access(2, 0, 1), access(1, 1, 1))), false},
		{"what is never set", first, nest(loop, sets(access(2, 0, 1), access(1, 4, 1))), true},
		{"back", first, nest(loop, sets(access(2, 0, 1), access(1, 3, -1))), false},
		{"both back", nest(loop, sets(access(1, 3, -1), access(0, 0, 1))), nest(loop, sets(access(2, 0, 1), access(1, 3, -1))), true},
		{"a sum that is not done", sum, nest(loop, sets(access(2, 0, 1), access(1, 0, 0))), false},
		{"two sums", sum, sum, true},
		{"a sum that is set", sum, nest(loop, sets(access(1, 0, 0), access(0, 0, 1))), false},
		{"a sum that is set at first", nest(loop, sets(access(1, 0, 0), access(2, 0, 1))), sum, false},
		{"what is set twice", first, first, true},
		{"what is set twice, back", first, nest(loop, sets(access(1, 3, -1), access(0, 0, 1))), false},
		{"what was read", first, nest(loop, sets(access(0, 0, 1), access(2, 0, 1))), true},
		{"what is read behind", first, nest(loop, adds(access(0, 1, 1), access(2, 0, 1))), false},
		{"what is read ahead", nest(loop, sets(access(1, 0, 1), access(0, 1, 1))), nest(loop, sets(access(0, 0, 1), access(2, 0, 1))), true},
		{"what both read", first, nest(loop, sets(access(2, 0, 1), access(0, 3, -1))), true},
		{"what each does alone", nest(loop, sets(access(0, 0, 0), access(0, 0, 0))), nest(loop, adds(access(1, 0, 0), access(1, 0, 0))), true},
		{"loops that go once", nest([]int{1}, sets(access(0, 0, 64), access(0, 0, 0))), nest([]int{1}, sets(access(0, 0, 0), access(0, 0, -64))), true},
		{"no loops", nest(nil, sets(access(0, 0), access(0, 0))), nest(nil, sets(access(0, 0), access(0, 0))), true},
		{"the inner loop", nest([]int{2, 4}, sets(access(1, 0, 4, 1), access(0, 0, 4, 1))), nest([]int{2, 4}, sets(access(2, 0, 4, 1), access(1, 1, 4, 0))), false},
		{"the outer loop", nest([]int{2, 4}, sets(access(1, 0, 4, 1), access(0, 0, 4, 1))), nest([]int{2, 4}, sets(access(2, 0, 4, 1), access(1, 4, 0, 1))), false},
		{"neither loop", nest([]int{2, 4}, sets(access(1, 0, 4, 1), access(0, 0, 4, 1))), nest([]int{2, 4}, sets(access(2, 0, 4, 1), access(1, 0, 4, 0))), true},
		{"the second line of one", nest(loop, sets(access(0, 0, 0), access(0, 0, 0)), first.Lines[0]), nest(loop, sets(access(2, 0, 1), access(1, 3, 0))), false},
		{"the second line of the other one", first, nest(loop, sets(access(2, 0, 0), access(2, 0, 0)), sets(access(2, 0, 1), access(1, 3, 0))), false},
		{"too many lines", nest(loop, first.Lines[0], first.Lines[0]), nest(loop, first.Lines[0], first.Lines[0]), false},
		{"other counts", first, nest([]int{3}, sets(access(2, 0, 1), access(1, 0, 1))), false},
		{"more loops", first, nest([]int{4, 1}, sets(access(2, 0, 1, 0), access(1, 0, 1, 0))), false},
		{"no nest of the buffers first", nest(loop, sets(access(3, 0, 1), access(0, 0, 1))), first, false},
		{"no nest of the buffers behind", first, nest(loop, sets(access(0, 0, 1), access(0, 5, 1))), false},
		{"no lines first", nest(loop), first, false},
		{"no lines behind", first, nest(loop), false},
	} {
		if got := checkFusesFreely(t, sizes, c.n, c.m); got != c.want {
			t.Errorf("%s: %v", c.name, got)
		}
	}
}

// counts returns how often so many loops go, all together no more than some turns; many go once.
func (d *dice) counts(loops, most int) []int {
	var counts []int
	for range loops {
		count := 1 + d.below(4)
		if count > most {
			count = most
		}
		most /= count
		counts = append(counts, count)
	}
	return counts
}

// access returns an access that stays in one of buffers: each step is one that leaves room in it, or none.
func (d *dice) access(sizes, counts []int) impl.Access {
	a := access(d.below(len(sizes)), 0)
	room := sizes[a.Buffer] - 1
	for _, count := range counts {
		step := []int{0, 0, 1, 1, -1, 2, -2, 3, 4, -4, 8, 16, 64}[d.below(13)]
		reach := step * (count - 1)
		if max(reach, -reach) > room {
			step, reach = 0, 0
		}
		room -= max(reach, -reach)
		a.Base -= min(reach, 0)
		a.Steps = append(a.Steps, step)
	}
	a.Base += d.below(room + 1)
	return a
}

func (d *dice) line(sizes, counts []int) impl.Line {
	line := impl.Line{Out: d.access(sizes, counts), Set: d.below(2) == 0}
	for range 1 + d.below(1+d.below(4)) {
		line.Ins = append(line.Ins, d.access(sizes, counts))
	}
	// Places that are read and written in one line, now and then.
	if d.below(4) == 0 {
		line.Ins[d.below(len(line.Ins))] = line.Out
	}
	return line
}

func (d *dice) nest(sizes, counts []int, lines int) impl.Nest {
	n := impl.Nest{Counts: copyInts(counts)}
	for range lines {
		n.Lines = append(n.Lines, d.line(sizes, counts))
	}
	return copyNest(n)
}

func (d *dice) sizes() []int {
	var sizes []int
	for range 1 + d.below(5) {
		sizes = append(sizes, []int{1, 2, 4, 6, 9, 16, 30, 64}[d.below(8)])
	}
	return sizes
}

// memory returns memory of sizes, with numbers that are at most so great.
func (d *dice) memory(sizes []int, most int) [][]int {
	memory := [][]int{}
	for _, size := range sizes {
		var buffer []int
		for range size {
			buffer = append(buffer, d.below(2*most+1)-most)
		}
		memory = append(memory, buffer)
	}
	return memory
}

// ways counts of two ways to do nests how often both come to memory where they are free, and where they are not, and how often that is something else then.
type ways struct{ free, bound, other int }

// compare fails if two ways that are free come to something else. Where sums are taken in another order, one of them may grow too great on the way, so only what both come to counts.
func (w *ways) compare(t *testing.T, name string, freely bool, a [][]int, okA bool, b [][]int, okB bool) {
	t.Helper()
	same := sameMemory(a, b)
	switch {
	case !okA || !okB:
	case freely:
		w.free++
		if !same {
			t.Errorf("%s comes to %v, not %v", name, a, b)
		}
	default:
		w.bound++
		if !same {
			w.other++
		}
	}
}

// checkWays fails if too few ways were compared.
func (w *ways) checkWays(t *testing.T, free, bound, other int) {
	t.Helper()
	if w.free < free || w.bound < bound || w.other < other {
		t.Errorf("%d are free, %d are not, %d of which do something else", w.free, w.bound, w.other)
	}
}

// Promise 8: nests that are turned freely do the same.
func TestNestsThatAreTurnedFreelyDoTheSame(t *testing.T) {
	d := &dice{state: 81}
	w := &ways{}
	for i := range 1500 {
		sizes := d.sizes()
		n := d.nest(sizes, d.counts(i%6, 24), 1+d.below(3))
		if !checkNestOk(t, sizes, n) {
			t.Fatalf("%v is no nest of %v", n, sizes)
		}
		memories := [][][]int{d.memory(sizes, 1), d.memory(sizes, 2), d.memory(sizes, 9)}
		orders := factorOrders(len(n.Counts))
		for range min(len(orders), 12) {
			turn := orders[d.below(len(orders))]
			checkTurn(t, n, turn)
			turned, _ := impl.TurnNest(n, turn)
			freely := checkTurnsFreely(t, sizes, n, turn)
			for _, memory := range memories {
				checkRun(t, memory, turned)
				a, okA := impl.RunNest(memory, turned)
				b, okB := impl.RunNest(memory, n)
				w.compare(t, fmt.Sprintf("%v turned by %v over %v", n, turn, memory), freely, a, okA, b, okB)
			}
		}
	}
	w.checkWays(t, 8000, 5000, 2000)
}

// Promise 8: nests that are split do the same, in the same order.
func TestNestsThatAreSplitDoTheSame(t *testing.T) {
	d := &dice{state: 82}
	split, done, tooGreat, beyond := 0, 0, 0, 0
	for i := range 1500 {
		sizes := d.sizes()
		n := d.nest(sizes, d.counts(i%6, 256), 1+d.below(3))
		memories := [][][]int{d.memory(sizes, 1), d.memory(sizes, 3), d.memory(sizes, 40000)}
		for loop := -1; loop <= len(n.Counts); loop++ {
			for size := range 6 {
				if !checkSplit(t, n, loop, size) {
					continue
				}
				split++
				other, _ := impl.SplitNest(n, loop, size)
				// Where the outer loop goes once, its steps may be beyond their limit.
				if !checkNestOk(t, sizes, other) {
					beyond++
					if other.Counts[loop] != 1 {
						t.Errorf("%v, split of %v, is no nest of %v", other, n, sizes)
					}
					continue
				}
				for _, memory := range memories {
					a, okA := impl.RunNest(memory, other)
					b, okB := impl.RunNest(memory, n)
					checkMemory(t, fmt.Sprintf("RunNest(%v, %v)", memory, other), a, okA, b, okB)
					if okA {
						done++
					} else {
						tooGreat++
					}
				}
			}
		}
		for _, memory := range memories {
			checkRun(t, memory, n)
		}
	}
	if split < 3000 || done < 5000 || tooGreat < 500 || beyond > split/4 {
		t.Errorf("%d split, %d done, %d too great, %d beyond the limit of steps", split, done, tooGreat, beyond)
	}
}

// Promise 8: nests that are unrolled do the same as with that loop as the outermost one, and so as they are if they are turned to that freely.
func TestNestsThatAreUnrolledDoTheSame(t *testing.T) {
	d := &dice{state: 83}
	w := &ways{}
	same, tooGreat := 0, 0
	for i := range 1500 {
		sizes := d.sizes()
		n := d.nest(sizes, d.counts(1+i%5, 64), 1+d.below(3))
		memories := [][][]int{d.memory(sizes, 1), d.memory(sizes, 2), d.memory(sizes, 40000)}
		for loop := -1; loop <= len(n.Counts); loop++ {
			if !checkUnroll(t, n, loop) {
				continue
			}
			list, _ := impl.UnrollNest(n, loop)
			turn := append([]int{loop}, without(indexes(len(n.Counts)), loop)...)
			turned, _ := impl.TurnNest(n, turn)
			freely := impl.TurnsFreely(sizes, n, turn)
			for _, memory := range memories {
				name := fmt.Sprintf("%v with the loop %d unrolled over %v", n, loop, memory)
				checkRuns(t, memory, list...)
				a, okA := impl.RunNests(memory, list)
				b, okB := impl.RunNest(memory, turned)
				checkMemory(t, name, a, okA, b, okB)
				if !okA {
					tooGreat++
				}
				c, okC := impl.RunNest(memory, n)
				if loop == 0 {
					same++
					checkMemory(t, name, a, okA, c, okC)
				}
				w.compare(t, name, freely, a, okA, c, okC)
			}
		}
	}
	w.checkWays(t, 4000, 1000, 500)
	if same < 4000 || tooGreat < 500 {
		t.Errorf("%d the same, %d too great", same, tooGreat)
	}
}

// Promise 8: nests that are fused freely do the same as one behind the other.
func TestNestsThatAreFusedFreelyDoTheSame(t *testing.T) {
	d := &dice{state: 84}
	w := &ways{}
	for i := range 6000 {
		sizes := d.sizes()
		counts := d.counts(i%6, 24)
		lines := 1 + d.below(2)
		n, m := d.nest(sizes, counts, lines), d.nest(sizes, counts, 1+d.below(3-lines))
		if !checkFuse(t, n, m) {
			t.Errorf("%v and %v are not fused", n, m)
		}
		fused, _ := impl.FuseNests(n, m)
		freely := checkFusesFreely(t, sizes, n, m)
		for _, memory := range [][][]int{d.memory(sizes, 1), d.memory(sizes, 2), d.memory(sizes, 9)} {
			checkRuns(t, memory, n, m)
			checkRun(t, memory, fused)
			a, okA := impl.RunNest(memory, fused)
			b, okB := impl.RunNests(memory, []impl.Nest{n, m})
			w.compare(t, fmt.Sprintf("%v and %v fused over %v", n, m, memory), freely, a, okA, b, okB)
		}
	}
	w.checkWays(t, 4000, 4000, 2000)
}

// Nests with as many turns and lines as there may be are done, turned and fused, too, and the last turn counts.
func TestGreatNests(t *testing.T) {
	counts := []int{4, 4, 4, 4}
	turn := []int{3, 2, 1, 0}
	sizes := []int{64, 64, 64, 64, 64}
	still := access(4, 63, 0, 0, 0, 0)
	read := adds(access(4, 63, 0, 0, 0, 0), access(0, 0, 0, 16, 4, 1), access(1, 63, 0, -16, -4, -1), access(2, 0, 0, 16, 4, 1), access(3, 0, 0, 16, 4, 1))
	n := nest(counts, read, read, read)
	memory := make([][]int, 5)
	for i := range memory {
		memory[i] = slices.Repeat([]int{i + 1}, 64)
	}
	got, ok := impl.RunNest(memory, n)
	want := copyMemory(memory)
	want[4][63] += 3 * 256 * 24
	checkMemory(t, "RunNest", got, ok, want, true)
	if !impl.TurnsFreely(sizes, n, turn) {
		t.Errorf("%v is not turned freely", n)
	}
	// One read of the last place, by one line in all turns.
	n.Lines[2] = adds(access(3, 0, 0, 16, 4, 1), still)
	if impl.TurnsFreely(sizes, n, turn) {
		t.Errorf("%v is turned freely", n)
	}
	list := slices.Repeat([]impl.Nest{nest(counts, adds(still, access(0, 0, 0, 0, 0, 0)))}, 256)
	got, ok = impl.RunNests(memory, list)
	want = copyMemory(memory)
	want[4][63] += 256 * 256
	checkMemory(t, "RunNests", got, ok, want, true)
	// The last place of the last buffer alone, which is set in the last turn, too.
	first := nest(counts, sets(access(4, 0, 0, 16, 4, 1), access(0, 0, 0, 0, 0, 0)))
	if impl.FusesFreely(sizes, first, nest(counts, adds(access(3, 0, 0, 0, 0, 0), still))) {
		t.Errorf("%v is fused freely with what reads its last place", first)
	}
	if !impl.FusesFreely(sizes, first, nest(counts, adds(access(3, 0, 0, 0, 0, 0), access(3, 63, 0, 0, 0, 0)))) {
		t.Errorf("%v is not fused freely with what reads nothing of it", first)
	}
}

// spoilNest puts something odd somewhere into a nest.
func (d *dice) spoilNest(n *impl.Nest, odd []int) {
	num := odd[d.below(len(odd))]
	if len(n.Lines) == 0 || d.below(4) == 0 {
		switch d.below(4) {
		case 0:
			n.Counts = append(n.Counts, num)
		case 1:
			n.Lines = append(n.Lines, n.Lines...)
		case 2:
			n.Lines = n.Lines[:len(n.Lines)/2]
		default:
			if len(n.Counts) > 0 {
				n.Counts[d.below(len(n.Counts))] = num
			}
		}
		return
	}
	line := &n.Lines[d.below(len(n.Lines))]
	a := &line.Out
	if len(line.Ins) > 0 && d.below(2) == 0 {
		a = &line.Ins[d.below(len(line.Ins))]
	}
	switch d.below(7) {
	case 0:
		a.Buffer = num
	case 1:
		a.Base = num
	case 2:
		a.Base += d.below(9) - 4
	case 3:
		a.Steps = append(a.Steps, num)
	case 4:
		line.Ins = append(line.Ins, line.Ins...)
	case 5:
		line.Ins = line.Ins[:len(line.Ins)/2]
	default:
		if len(a.Steps) > 0 {
			a.Steps[d.below(len(a.Steps))] = num
		}
	}
}

// Whatever nests, good or bad, and whatever numbers are told, there is an answer, and it is that of the words of the document.
func TestAnyNests(t *testing.T) {
	d := &dice{state: 85}
	odd := []int{-65, -64, -2, -1, 0, 0, 1, 1, 2, 3, 4, 5, 6, 63, 64, 65, farUp, farDown}
	some, none, turned, split, unrolled, fused := 0, 0, 0, 0, 0, 0
	for range 8000 {
		sizes := d.sizes()
		memory := d.memory(sizes, 3)
		counts := d.counts(d.below(6), 16)
		n, m := d.nest(sizes, counts, 1+d.below(2)), d.nest(sizes, counts, 1+d.below(2))
		if d.below(8) > 0 {
			d.spoilNest(&n, odd)
		}
		if d.below(4) == 0 {
			d.spoilNest(&m, odd)
		}
		if d.below(20) == 0 {
			sizes[d.below(len(sizes))] = odd[d.below(len(odd))]
		}
		if checkNestOk(t, sizes, n) {
			some++
		} else {
			none++
		}
		checkRun(t, memory, n)
		checkRuns(t, memory, n, m, n)
		checkFusesFreely(t, sizes, n, m)
		if checkFuse(t, n, m) {
			fused++
		}
		turn := indexes(len(n.Counts))
		for range d.below(4) {
			if len(turn) > 1 {
				i, k := d.below(len(turn)), d.below(len(turn))
				turn[i], turn[k] = turn[k], turn[i]
			}
		}
		if len(turn) > 0 && d.below(5) == 0 {
			turn[d.below(len(turn))] = odd[d.below(len(odd))]
		}
		checkTurnsFreely(t, sizes, n, turn)
		if checkTurn(t, n, turn) {
			turned++
		}
		loop := d.below(len(n.Counts)+2) - 1
		if checkSplit(t, n, loop, odd[d.below(len(odd))]) {
			split++
		}
		if checkUnroll(t, n, loop) {
			unrolled++
		}
	}
	if some < 2000 || none < 2000 || turned < 3000 || split < 200 || unrolled < 2000 || fused < 2000 {
		t.Errorf("%d are nests, %d are none, %d turned, %d split, %d unrolled, %d fused", some, none, turned, split, unrolled, fused)
	}
}

// spareLine is what stands behind the end of guarded lines.
func spareLine() impl.Line {
	return sets(access(spare, spare, spare), access(spare, spare))
}

// guardedNest returns a nest all of whose lists have unused capacity, filled with a mark.
func guardedNest(n impl.Nest) impl.Nest {
	g := changedNest(n, guarded(n.Counts), func(a impl.Access) impl.Access {
		return access(a.Buffer, a.Base, guarded(a.Steps)...)
	})
	for i, line := range g.Lines {
		g.Lines[i].Ins = append(line.Ins, access(spare, spare), access(spare, spare))[:len(line.Ins)]
	}
	g.Lines = append(g.Lines, spareLine(), spareLine())[:len(g.Lines)]
	return g
}

func checkGuardedNest(t *testing.T, name string, n, was impl.Nest) {
	t.Helper()
	if !sameNest(n, was) {
		t.Errorf("%s changed a nest from %v to %v", name, was, n)
	}
	checkGuarded(t, name, n.Counts, was.Counts)
	for i, line := range n.Lines {
		checkGuarded(t, name, line.Out.Steps, was.Lines[i].Out.Steps)
		for k, a := range line.Ins {
			checkGuarded(t, name, a.Steps, was.Lines[i].Ins[k].Steps)
		}
		for _, a := range line.Ins[len(line.Ins) : len(line.Ins)+2] {
			if !sameAccess(a, access(spare, spare)) {
				t.Errorf("%s wrote %v behind what a line reads", name, a)
			}
		}
	}
	for _, line := range n.Lines[len(n.Lines) : len(n.Lines)+2] {
		if !sameLine(line, spareLine()) {
			t.Errorf("%s wrote %v behind the lines of an argument", name, line)
		}
	}
}

// scribbleNests writes over all that nests have, unused capacity too, and fails if writing over one list of them changes another one.
func scribbleNests(t *testing.T, name string, list []impl.Nest) {
	t.Helper()
	var lists [][]int
	for i, n := range list {
		var later []impl.Nest
		for _, m := range list[i+1:] {
			later = append(later, copyNest(m))
		}
		lists = append(lists, n.Counts)
		for k, line := range n.Lines {
			lists = append(lists, line.Out.Steps)
			for _, a := range line.Ins {
				lists = append(lists, a.Steps)
			}
			ins := line.Ins[:cap(line.Ins)]
			for j := range ins {
				ins[j].Base = -spare - j - 100*k
			}
		}
		for k, line := range n.Lines {
			for j, a := range line.Ins {
				if a.Base != -spare-j-100*k {
					t.Errorf("%s shares what the line %d reads with another one", name, k)
				}
			}
		}
		lines := n.Lines[:cap(n.Lines)]
		for k := range lines {
			lines[k].Out.Base = -spare
		}
		if !slices.EqualFunc(list[i+1:], later, sameNest) {
			t.Errorf("%s shares the lines of the nest %d with another one", name, i)
		}
	}
	scribbleLists(t, name, lists)
	list = list[:cap(list)]
	for i := range list {
		list[i] = nest([]int{-spare})
	}
}

// scribbleMemory writes over all buffers of a result, and fails if writing over one of them changes another one.
func scribbleMemory(t *testing.T, name string, memory [][]int) {
	t.Helper()
	scribbleLists(t, name, memory)
	memory = memory[:cap(memory)]
	for i := range memory {
		memory[i] = []int{-spare}
	}
}

func guardedMemory(memory [][]int) [][]int {
	var g [][]int
	for _, buffer := range memory {
		g = append(g, guarded(buffer))
	}
	return append(g, []int{spare}, []int{spare})[:len(memory)]
}

func checkGuardedMemory(t *testing.T, name string, memory, was [][]int) {
	t.Helper()
	for i, buffer := range memory {
		checkGuarded(t, name, buffer, was[i])
	}
	if !sameMemory(memory[len(memory):len(memory)+2], [][]int{{spare}, {spare}}) {
		t.Errorf("%s wrote behind the buffers of an argument", name)
	}
}

// Nothing that is returned is part of an argument, or of anything else that is returned, and nothing is kept.
func TestLoopsShareNoMemory(t *testing.T) {
	d := &dice{state: 86}
	for i := range 300 {
		wasSizes := d.sizes()
		wasMemory := d.memory(wasSizes, 2)
		counts := d.counts(i%6, 16)
		lines := 1 + d.below(2)
		was, wasOther := d.nest(wasSizes, counts, lines), d.nest(wasSizes, counts, 1)
		wasTurn := indexes(len(counts))
		slices.Reverse(wasTurn)
		wasSum := d.sum(1 + d.below(4))
		n, other, memory, sizes, turn, s := guardedNest(was), guardedNest(wasOther), guardedMemory(wasMemory), guarded(wasSizes), guarded(wasTurn), guardedSum(wasSum)
		list := append([]impl.Nest{n, other, n}, nest([]int{spare}), nest([]int{spare}))[:3]
		// Twice, as what is written over the first time might be kept for the second one.
		for range 2 {
			checkNestOk(t, sizes, n)
			checkTurnsFreely(t, sizes, n, turn)
			checkFusesFreely(t, sizes, n, other)
			checkTurn(t, n, turn)
			checkFuse(t, n, other)
			checkRun(t, memory, n)
			checkRuns(t, memory, list...)
			behind, _ := impl.RunNest(memory, n)
			scribbleMemory(t, "RunNest", behind)
			for many := range 4 {
				behind, _ = impl.RunNests(memory, list[:many])
				scribbleMemory(t, "RunNests", behind)
			}
			turned, _ := impl.TurnNest(n, turn)
			scribbleNests(t, "TurnNest", []impl.Nest{turned})
			for loop, count := range counts {
				checkSplit(t, n, loop, count)
				checkUnroll(t, n, loop)
				split, _ := impl.SplitNest(n, loop, count)
				scribbleNests(t, "SplitNest", []impl.Nest{split})
				unrolled, _ := impl.UnrollNest(n, loop)
				scribbleNests(t, "UnrollNest", unrolled)
			}
			fused, _ := impl.FuseNests(n, other)
			scribbleNests(t, "FuseNests", []impl.Nest{fused})
			fused, _ = impl.FuseNests(other, other)
			scribbleNests(t, "FuseNests", []impl.Nest{fused})
			of, ofSizes, _ := impl.NestOf(s)
			scribble(ofSizes)
			scribbleNests(t, "NestOf", []impl.Nest{of})
			_, again, _ := impl.NestOf(s)
			of, ofSizes, _ = impl.NestOf(s)
			scribbleNests(t, "NestOf", []impl.Nest{of})
			if !sameInts(again, ofSizes) {
				t.Errorf("NestOf shares sizes with its nest")
			}
			const name = "a function of chapter 8"
			checkGuardedNest(t, name, n, was)
			checkGuardedNest(t, name, other, wasOther)
			checkGuardedMemory(t, name, memory, wasMemory)
			checkGuarded(t, name, sizes, wasSizes)
			checkGuarded(t, name, turn, wasTurn)
			checkGuardedSum(t, name, s, wasSum)
			for _, x := range list[3:5] {
				if !sameNest(x, nest([]int{spare})) {
					t.Errorf("%s wrote behind a list of nests", name)
				}
			}
		}
	}
}
