package tests

import (
	"fmt"
	"slices"
	"testing"

	"loop.example/wholetensors/impl"
)

// allChanges are the changes, in order.
var allChanges = []int{
	impl.ChDrop, impl.ChOnce, impl.ChTurn, impl.ChFold, impl.ChNeg, impl.ChSign, impl.ChCut, impl.ChPart, impl.ChSwap,
}

func two(op, a, b int) impl.Node {
	return node(op, a, b)
}

func neg(a int) impl.Node {
	return node(impl.ExNeg, a, 0)
}

func summed(a, axis int) impl.Node {
	return node(impl.ExSum, a, 0, axis)
}

func turned(a int, turn ...int) impl.Node {
	return node(impl.ExTurn, a, 0, turn...)
}

func folded(a int, shape ...int) impl.Node {
	return node(impl.ExFold, a, 0, shape...)
}

func cut(a, axis, from, many int) impl.Node {
	return node(impl.ExCut, a, 0, axis, from, many)
}

func beside(a, b, axis int) impl.Node {
	return node(impl.ExBeside, a, b, axis)
}

func sameNodes(a, b []impl.Node) bool {
	return slices.EqualFunc(a, b, sameNode)
}

func sameExpr(a, b impl.Expr) bool {
	return sameLists(a.Inputs, b.Inputs) && sameNodes(a.Nodes, b.Nodes)
}

// firstByRule returns the first node with the kind, A, B and List of a node.
func firstByRule(e impl.Expr, at int) int {
	return slices.IndexFunc(e.Nodes, func(x impl.Node) bool { return sameNode(x, e.Nodes[at]) })
}

// dropByRule tells by the words of the document what is left when a node is dropped, if it can be.
func dropByRule(e impl.Expr, at int) (impl.Expr, bool) {
	if neededByRule(e, at) || usesByRule(e)[at] > 0 {
		return impl.Expr{}, false
	}
	left := copyExpr(e)
	for i := range left.Nodes {
		x := &left.Nodes[i]
		parts := partsByRule(*x)
		if len(parts) > 0 && parts[0] > at {
			x.A = parts[0] - 1
		}
		if len(parts) > 1 && parts[1] > at {
			x.B = parts[1] - 1
		}
	}
	left.Nodes = slices.Delete(left.Nodes, at, at+1)
	return left, true
}

// cutFrom returns so many numbers from one on, of those of lists, one list behind the other.
func cutFrom(lists [][]int, from, many int) []int {
	return slices.Concat(lists...)[from : from+many]
}

// upFrom returns so many numbers, one behind the other.
func upFrom(first, many int) []int {
	nums := []int{}
	for i := range many {
		nums = append(nums, first+i)
	}
	return nums
}

// nodeByRule tells by the table of the document what stands at a node behind a change, if it can be done there.
func nodeByRule(e impl.Expr, change, at int) (impl.Node, bool) {
	none := impl.Node{}
	x := e.Nodes[at]
	parts := partsByRule(x)
	if len(parts) == 0 {
		return none, false
	}
	shapes, _ := shapesByRule(e)
	a := e.Nodes[parts[0]]
	switch change {
	case impl.ChOnce:
		once := x
		once.A = firstByRule(e, x.A)
		if len(parts) > 1 {
			once.B = firstByRule(e, x.B)
		}
		return once, !sameNode(once, x)
	case impl.ChTurn:
		if x.Op != impl.ExTurn || a.Op != impl.ExTurn {
			return none, false
		}
		together := []int{}
		for _, axis := range x.List {
			together = append(together, a.List[axis])
		}
		return turned(a.A, together...), true
	case impl.ChFold:
		return folded(a.A, x.List...), x.Op == impl.ExFold && a.Op == impl.ExFold
	case impl.ChNeg:
		return folded(a.A, shapes[at]...), x.Op == impl.ExNeg && a.Op == impl.ExNeg
	case impl.ChCut:
		if x.Op != impl.ExCut || a.Op != impl.ExCut || a.List[0] != x.List[0] {
			return none, false
		}
		inner := cutFrom([][]int{upFrom(0, shapes[a.A][x.List[0]])}, a.List[1], a.List[2])
		outer := cutFrom([][]int{inner}, x.List[1], x.List[2])
		return cut(a.A, x.List[0], outer[0], len(outer)), true
	case impl.ChPart:
		if x.Op != impl.ExCut || a.Op != impl.ExBeside || a.List[0] != x.List[0] {
			return none, false
		}
		axis, from, many := x.List[0], x.List[1], x.List[2]
		// Those of the second one are numbered from 100 on.
		left := cutFrom([][]int{upFrom(0, shapes[a.A][axis]), upFrom(100, shapes[a.B][axis])}, from, many)
		if left[0] >= 100 {
			return cut(a.B, axis, left[0]-100, many), true
		}
		return cut(a.A, axis, left[0], many), left[many-1] < 100
	}
	if len(parts) < 2 {
		return none, false
	}
	b := e.Nodes[parts[1]]
	switch change {
	case impl.ChSign:
		switch {
		case x.Op == impl.ExAdd:
			return two(impl.ExSub, x.A, b.A), b.Op == impl.ExNeg
		case x.Op == impl.ExSub:
			return two(impl.ExAdd, x.A, b.A), b.Op == impl.ExNeg
		case x.Op == impl.ExMul:
			return two(impl.ExMul, a.A, b.A), a.Op == impl.ExNeg && b.Op == impl.ExNeg
		}
	case impl.ChSwap:
		swaps := []int{impl.ExAdd, impl.ExMul, impl.ExMax}
		return two(x.Op, x.B, x.A), slices.Contains(swaps, x.Op) && x.A > x.B
	}
	return none, false
}

// changeByRule tells by the words of the document what comes of a change of an expression, if it can be done.
func changeByRule(e impl.Expr, change, at int) (impl.Expr, bool) {
	if at < 0 || at >= len(e.Nodes) {
		return impl.Expr{}, false
	}
	if change == impl.ChDrop {
		return dropByRule(e, at)
	}
	x, ok := nodeByRule(e, change, at)
	if !ok {
		return impl.Expr{}, false
	}
	changed := copyExpr(e)
	changed.Nodes[at] = x
	return changed, true
}

// changesByRule returns all changes that can be done, the first number that differs ascending.
func changesByRule(e impl.Expr) [][]int {
	var changes [][]int
	for change := range 9 {
		for at := range e.Nodes {
			if _, ok := changeByRule(e, change, at); ok {
				changes = append(changes, []int{change, at})
			}
		}
	}
	return changes
}

// costByRuleOf returns how many numbers are reckoned for the nodes of an expression that are needed.
func costByRuleOf(e impl.Expr) int {
	shapes, _ := shapesByRule(e)
	cost := 0
	for at, x := range e.Nodes {
		if !neededByRule(e, at) {
			continue
		}
		switch places := countByRule(shapes[at]); x.Op {
		case impl.ExAdd, impl.ExSub, impl.ExMul, impl.ExMax, impl.ExNeg:
			cost += places
		case impl.ExSum:
			cost += places * shapes[x.A][x.List[0]]
		case impl.ExProduct:
			cost += shapes[x.A][0] * shapes[x.A][1] * shapes[x.B][1]
		}
	}
	return cost
}

func checkNoExprOf(t *testing.T, name string, e impl.Expr, ok bool) {
	t.Helper()
	if ok || len(e.Inputs) != 0 || len(e.Nodes) != 0 {
		t.Errorf("%s = %v, %v, not nothing", name, e, ok)
	}
}

// checkNoChange fails if a change can be done at a node.
func checkNoChange(t *testing.T, e impl.Expr, change, at int) {
	t.Helper()
	if impl.ChangeOk(e, change, at) {
		t.Errorf("the change %d at %d of %v can be done", change, at, e)
	}
	got, ok := impl.ChangeDo(e, change, at)
	checkNoExprOf(t, fmt.Sprintf("ChangeDo(%v, %d, %d)", e, change, at), got, ok)
}

// checkChange fails if anything else is told of a change of an expression than the words of the document. It reports whether it can be done.
func checkChange(t *testing.T, e impl.Expr, change, at int) bool {
	t.Helper()
	want, can := changeByRule(e, change, at)
	told := can
	if change == impl.ChDrop && at >= 0 && at < len(e.Nodes) {
		// ChangeOk is true also if the node is a part of another one.
		told = !neededByRule(e, at)
	}
	if got := impl.ChangeOk(e, change, at); got != told {
		t.Errorf("ChangeOk(%v, %d, %d) = %v", e, change, at, got)
	}
	got, ok := impl.ChangeDo(e, change, at)
	name := fmt.Sprintf("ChangeDo(%v, %d, %d)", e, change, at)
	if !can {
		checkNoExprOf(t, name, got, ok)
		return false
	}
	if !ok || !sameExpr(got, want) {
		t.Errorf("%s = %v, %v, not %v", name, got, ok, want)
	}
	return true
}

// checkChanges fails if any function tells anything else of an expression than the words of the document. It returns all changes that can be done.
func checkChanges(t *testing.T, e impl.Expr) [][]int {
	t.Helper()
	for change := -1; change <= len(allChanges); change++ {
		for at := -1; at <= len(e.Nodes); at++ {
			checkChange(t, e, change, at)
		}
	}
	for _, far := range []int{farUp, farDown, -len(e.Nodes), 100} {
		checkNoChange(t, e, far, 0)
		for _, change := range allChanges {
			checkNoChange(t, e, change, far)
		}
		if got := impl.SameNode(e, far); got != -1 {
			t.Errorf("SameNode(%v, %d) = %d", e, far, got)
		}
	}
	want := changesByRule(e)
	if got := impl.ChangesOf(e); !sameLists(got, want) {
		t.Errorf("ChangesOf(%v) = %v, not %v", e, got, want)
	}
	for at := range e.Nodes {
		if got, want := impl.SameNode(e, at), firstByRule(e, at); got != want {
			t.Errorf("SameNode(%v, %d) = %d, not %d", e, at, got, want)
		}
	}
	if before, behind := impl.SameNode(e, -1), impl.SameNode(e, len(e.Nodes)); before != -1 || behind != -1 {
		t.Errorf("SameNode(%v) of no nodes is %d and %d", e, before, behind)
	}
	if got, want := impl.CostOf(e), costByRuleOf(e); got != want {
		t.Errorf("CostOf(%v) = %d, not %d", e, got, want)
	}
	return want
}

// checkKept fails if what a change leaves is no expression, or has other inputs, or any node that stays has another shape or value. It returns how many sets of inputs have a value.
func checkKept(t *testing.T, e impl.Expr, change []int) int {
	t.Helper()
	changed, ok := impl.ChangeDo(e, change[0], change[1])
	name := fmt.Sprintf("ChangeDo(%v, %d, %d)", e, change[0], change[1])
	if !ok || !impl.ExprOk(changed) || !sameLists(changed.Inputs, e.Inputs) {
		t.Errorf("%s = %v, %v, which is no expression of the same inputs", name, changed, ok)
		return 0
	}
	shapes, _ := impl.ShapesOf(e)
	gotShapes, _ := impl.ShapesOf(changed)
	drops := change[0] == impl.ChDrop
	if drops {
		shapes = slices.Delete(shapes, change[1], change[1]+1)
	}
	if !sameLists(shapes, gotShapes) {
		t.Errorf("%s has the shapes %v, not %v", name, gotShapes, shapes)
	}
	valued := 0
	for _, inputs := range inputsFor(e) {
		values, ok := impl.ValuesOf(e, inputs)
		got, gotOk := impl.ValuesOf(changed, inputs)
		if !ok {
			// What is dropped may be what has grown too great.
			if gotOk && !drops {
				t.Errorf("%s has values, and the expression has none", name)
			}
			continue
		}
		valued++
		if drops {
			values = slices.Delete(values, change[1], change[1]+1)
		}
		if !gotOk || !slices.EqualFunc(got, values, sameTensor) {
			t.Errorf("%s of %v has the values %v, %v, not %v", name, inputs, got, gotOk, values)
		}
	}
	return valued
}

// checkTidy fails if the tidy expression is not what comes of doing the first change again and again, has another shape or value, costs more, or has a change left. It returns it.
func checkTidy(t *testing.T, e impl.Expr) impl.Expr {
	t.Helper()
	want := copyExpr(e)
	for changes := changesByRule(want); len(changes) > 0; changes = changesByRule(want) {
		want, _ = changeByRule(want, changes[0][0], changes[0][1])
	}
	tidy, ok := impl.Tidy(e)
	if !ok || !sameExpr(tidy, want) {
		t.Errorf("Tidy(%v) = %v, %v, not %v", e, tidy, ok, want)
		return want
	}
	if !impl.ExprOk(tidy) || !sameLists(tidy.Inputs, e.Inputs) || len(impl.ChangesOf(tidy)) != 0 {
		t.Errorf("Tidy(%v) = %v, an expression: %v, with the changes %v", e, tidy, impl.ExprOk(tidy), impl.ChangesOf(tidy))
	}
	if impl.CostOf(tidy) > impl.CostOf(e) {
		t.Errorf("Tidy(%v) = %v costs %d, more than %d", e, tidy, impl.CostOf(tidy), impl.CostOf(e))
	}
	shapes, _ := impl.ShapesOf(e)
	tidyShapes, _ := impl.ShapesOf(tidy)
	if last, tidyLast := shapes[len(shapes)-1], tidyShapes[len(tidyShapes)-1]; !sameInts(last, tidyLast) {
		t.Errorf("Tidy(%v) = %v has the shape %v, not %v", e, tidy, tidyLast, last)
	}
	for _, inputs := range inputsFor(e) {
		if value, ok := impl.ValueOf(e, inputs); ok {
			got, gotOk := impl.ValueOf(tidy, inputs)
			checkTensor(t, fmt.Sprintf("Tidy(%v) of %v", e, inputs), got, gotOk, value)
		}
	}
	return tidy
}

func checkAll(t *testing.T, e impl.Expr) {
	t.Helper()
	if !impl.ExprOk(e) {
		t.Fatalf("%v is no expression", e)
	}
	for _, change := range checkChanges(t, e) {
		checkKept(t, e, change)
	}
	checkTidy(t, e)
}

// checkNoExprChanges fails if any function of chapter 6 takes nodes as an expression.
func checkNoExprChanges(t *testing.T, e impl.Expr) {
	t.Helper()
	nodes := []int{-1, 0, 1, 2, 3, 11, len(e.Nodes) - 1, len(e.Nodes), farUp, farDown}
	for _, at := range nodes {
		for _, change := range append(slices.Clone(allChanges), -1, 9, farUp, farDown) {
			checkNoChange(t, e, change, at)
		}
		if got := impl.SameNode(e, at); got != -1 {
			t.Errorf("SameNode(%v, %d) = %d", e, at, got)
		}
	}
	if changes, cost := impl.ChangesOf(e), impl.CostOf(e); len(changes) != 0 || cost != -1 {
		t.Errorf("%v has the changes %v and costs %d", e, changes, cost)
	}
	tidy, ok := impl.Tidy(e)
	checkNoExprOf(t, fmt.Sprintf("Tidy(%v)", e), tidy, ok)
}

func TestNumbersOfChanges(t *testing.T) {
	for want, change := range allChanges {
		if change != want {
			t.Errorf("the change %d is %d", want, change)
		}
	}
}

// Each change by hand at a node where it can be done: what stands there then.
func TestChangesThatCanBeDone(t *testing.T) {
	inputs := [][]int{{2, 3}, {2, 3}, {3, 2}}
	for _, c := range []struct {
		change, at int
		nodes      []impl.Node
		want       []impl.Node
	}{
		// What is behind a dropped node is one less, as a node and as a part; inputs and numbers stay what they are.
		{impl.ChDrop, 0, []impl.Node{input(0), input(2)}, []impl.Node{input(2)}},
		{impl.ChDrop, 0, []impl.Node{number(3), input(1), input(0), two(impl.ExSub, 1, 2)}, []impl.Node{input(1), input(0), two(impl.ExSub, 0, 1)}},
		{impl.ChDrop, 0, []impl.Node{input(0), input(2), number(9), two(impl.ExMul, 1, 2)}, []impl.Node{input(2), number(9), two(impl.ExMul, 0, 1)}},
		{impl.ChDrop, 1, []impl.Node{input(1), neg(0), input(2), turned(2, 1, 0), two(impl.ExMax, 3, 0)}, []impl.Node{input(1), input(2), turned(1, 1, 0), two(impl.ExMax, 2, 0)}},
		{impl.ChDrop, 1, []impl.Node{number(2), number(-2), number(3), two(impl.ExAdd, 2, 0)}, []impl.Node{number(2), number(3), two(impl.ExAdd, 1, 0)}},
		{impl.ChDrop, 2, []impl.Node{input(0), neg(0), neg(1), neg(0)}, []impl.Node{input(0), neg(0), neg(0)}},
		// The first ones as A and B: one of both, both, needed or not, and where they are one.
		{impl.ChOnce, 2, []impl.Node{input(0), input(0), neg(1)}, []impl.Node{input(0), input(0), neg(0)}},
		{impl.ChOnce, 2, []impl.Node{input(0), input(0), two(impl.ExSub, 0, 1)}, []impl.Node{input(0), input(0), two(impl.ExSub, 0, 0)}},
		{impl.ChOnce, 2, []impl.Node{input(0), input(0), two(impl.ExSub, 1, 0)}, []impl.Node{input(0), input(0), two(impl.ExSub, 0, 0)}},
		{impl.ChOnce, 4, []impl.Node{number(1), number(2), number(2), number(1), two(impl.ExMax, 2, 3)}, []impl.Node{number(1), number(2), number(2), number(1), two(impl.ExMax, 1, 0)}},
		{impl.ChOnce, 3, []impl.Node{input(0), input(0), input(0), beside(2, 2, 0)}, []impl.Node{input(0), input(0), input(0), beside(0, 0, 0)}},
		{impl.ChOnce, 3, []impl.Node{input(0), cut(0, 1, 0, 2), cut(0, 1, 0, 2), summed(2, 1)}, []impl.Node{input(0), cut(0, 1, 0, 2), cut(0, 1, 0, 2), summed(1, 1)}},
		{impl.ChOnce, 3, []impl.Node{number(1), number(2), number(2), neg(2), input(0)}, []impl.Node{number(1), number(2), number(2), neg(1), input(0)}},
		// Turns: those by hand of three axes show which one is first.
		{impl.ChTurn, 2, []impl.Node{input(0), turned(0, 1, 0), turned(1, 1, 0)}, []impl.Node{input(0), turned(0, 1, 0), turned(0, 0, 1)}},
		{impl.ChTurn, 3, []impl.Node{input(0), folded(0, 1, 2, 3), turned(1, 1, 2, 0), turned(2, 1, 0, 2)}, []impl.Node{input(0), folded(0, 1, 2, 3), turned(1, 1, 2, 0), turned(1, 2, 1, 0)}},
		{impl.ChTurn, 3, []impl.Node{input(0), folded(0, 1, 2, 3), turned(1, 1, 0, 2), turned(2, 1, 2, 0)}, []impl.Node{input(0), folded(0, 1, 2, 3), turned(1, 1, 0, 2), turned(1, 0, 2, 1)}},
		{impl.ChTurn, 2, []impl.Node{number(4), turned(0), turned(1)}, []impl.Node{number(4), turned(0), turned(0)}},
		// Folds: that into the later shape is left.
		{impl.ChFold, 2, []impl.Node{input(0), folded(0, 3, 2), folded(1, 1, 2, 3)}, []impl.Node{input(0), folded(0, 3, 2), folded(0, 1, 2, 3)}},
		{impl.ChFold, 2, []impl.Node{number(4), folded(0, 1, 1), folded(1)}, []impl.Node{number(4), folded(0, 1, 1), folded(0)}},
		{impl.ChFold, 2, []impl.Node{input(0), folded(0, 2, 3), folded(1, 2, 3)}, []impl.Node{input(0), folded(0, 2, 3), folded(0, 2, 3)}},
		// A negative of a negative is folded into its own shape.
		{impl.ChNeg, 2, []impl.Node{input(2), neg(0), neg(1)}, []impl.Node{input(2), neg(0), folded(0, 3, 2)}},
		{impl.ChNeg, 2, []impl.Node{number(4), neg(0), neg(1)}, []impl.Node{number(4), neg(0), folded(0)}},
		{impl.ChNeg, 3, []impl.Node{number(4), neg(0), neg(1), neg(2)}, []impl.Node{number(4), neg(0), neg(1), folded(1)}},
		// Signs: of a sum or a difference the second one, of a product both.
		{impl.ChSign, 3, []impl.Node{input(0), input(1), neg(1), two(impl.ExAdd, 0, 2)}, []impl.Node{input(0), input(1), neg(1), two(impl.ExSub, 0, 1)}},
		{impl.ChSign, 3, []impl.Node{input(0), input(1), neg(1), two(impl.ExSub, 0, 2)}, []impl.Node{input(0), input(1), neg(1), two(impl.ExAdd, 0, 1)}},
		{impl.ChSign, 2, []impl.Node{input(0), neg(0), two(impl.ExAdd, 1, 1)}, []impl.Node{input(0), neg(0), two(impl.ExSub, 1, 0)}},
		{impl.ChSign, 2, []impl.Node{input(0), neg(0), two(impl.ExSub, 1, 1)}, []impl.Node{input(0), neg(0), two(impl.ExAdd, 1, 0)}},
		{impl.ChSign, 4, []impl.Node{input(0), input(1), neg(1), neg(0), two(impl.ExMul, 2, 3)}, []impl.Node{input(0), input(1), neg(1), neg(0), two(impl.ExMul, 1, 0)}},
		{impl.ChSign, 2, []impl.Node{input(0), neg(0), two(impl.ExMul, 1, 1)}, []impl.Node{input(0), neg(0), two(impl.ExMul, 0, 0)}},
		{impl.ChSign, 3, []impl.Node{input(0), number(3), neg(1), two(impl.ExAdd, 0, 2)}, []impl.Node{input(0), number(3), neg(1), two(impl.ExSub, 0, 1)}},
		// Cuts of cuts.
		{impl.ChCut, 2, []impl.Node{input(0), cut(0, 1, 1, 2), cut(1, 1, 1, 1)}, []impl.Node{input(0), cut(0, 1, 1, 2), cut(0, 1, 2, 1)}},
		{impl.ChCut, 2, []impl.Node{input(2), cut(0, 0, 0, 3), cut(1, 0, 1, 2)}, []impl.Node{input(2), cut(0, 0, 0, 3), cut(0, 0, 1, 2)}},
		// Cuts of two beside each other, up to where they meet, and from there on.
		{impl.ChPart, 3, []impl.Node{input(0), input(1), beside(0, 1, 0), cut(2, 0, 0, 2)}, []impl.Node{input(0), input(1), beside(0, 1, 0), cut(0, 0, 0, 2)}},
		{impl.ChPart, 3, []impl.Node{input(0), input(1), beside(0, 1, 0), cut(2, 0, 1, 1)}, []impl.Node{input(0), input(1), beside(0, 1, 0), cut(0, 0, 1, 1)}},
		{impl.ChPart, 3, []impl.Node{input(0), input(1), beside(0, 1, 0), cut(2, 0, 2, 2)}, []impl.Node{input(0), input(1), beside(0, 1, 0), cut(1, 0, 0, 2)}},
		{impl.ChPart, 3, []impl.Node{input(0), input(1), beside(0, 1, 0), cut(2, 0, 3, 1)}, []impl.Node{input(0), input(1), beside(0, 1, 0), cut(1, 0, 1, 1)}},
		{impl.ChPart, 3, []impl.Node{input(0), cut(0, 1, 2, 1), beside(1, 0, 1), cut(2, 1, 1, 3)}, []impl.Node{input(0), cut(0, 1, 2, 1), beside(1, 0, 1), cut(0, 1, 0, 3)}},
		{impl.ChPart, 2, []impl.Node{input(0), beside(0, 0, 0), cut(1, 0, 2, 1)}, []impl.Node{input(0), beside(0, 0, 0), cut(0, 0, 0, 1)}},
		// Swaps.
		{impl.ChSwap, 2, []impl.Node{input(0), input(1), two(impl.ExAdd, 1, 0)}, []impl.Node{input(0), input(1), two(impl.ExAdd, 0, 1)}},
		{impl.ChSwap, 2, []impl.Node{input(0), input(1), two(impl.ExMul, 1, 0)}, []impl.Node{input(0), input(1), two(impl.ExMul, 0, 1)}},
		{impl.ChSwap, 3, []impl.Node{input(0), input(1), number(2), two(impl.ExMax, 2, 1)}, []impl.Node{input(0), input(1), number(2), two(impl.ExMax, 1, 2)}},
		{impl.ChSwap, 2, []impl.Node{input(0), input(1), two(impl.ExMax, 1, 0), input(2)}, []impl.Node{input(0), input(1), two(impl.ExMax, 0, 1), input(2)}},
	} {
		e := exprOf(inputs, c.nodes...)
		got, ok := impl.ChangeDo(e, c.change, c.at)
		if want := exprOf(inputs, c.want...); !ok || !sameExpr(got, want) {
			t.Errorf("ChangeDo(%v, %d, %d) = %v, %v, not %v", e, c.change, c.at, got, ok, want)
		}
		if !impl.ChangeOk(e, c.change, c.at) {
			t.Errorf("ChangeOk(%v, %d, %d) is false", e, c.change, c.at)
		}
		checkAll(t, e)
	}
}

// Each change by hand at a node where it just cannot be done.
func TestChangesThatCannotBeDone(t *testing.T) {
	inputs := [][]int{{2, 3}, {2, 3}, {3, 2}}
	for _, c := range []struct {
		change, at int
		nodes      []impl.Node
	}{
		// A node that is needed, be it far from the last one or that itself.
		{impl.ChDrop, 0, []impl.Node{input(0)}},
		{impl.ChDrop, 1, []impl.Node{input(0), input(0)}},
		{impl.ChDrop, 0, []impl.Node{input(0), neg(0), neg(1)}},
		{impl.ChDrop, 0, []impl.Node{input(0), input(1), two(impl.ExSub, 1, 0)}},
		// The part is the first one of two, its number is that of a node, or another number or axis is told.
		{impl.ChOnce, 2, []impl.Node{input(0), input(0), neg(0)}},
		{impl.ChOnce, 1, []impl.Node{input(0), input(0), neg(1)}},
		{impl.ChOnce, 2, []impl.Node{input(0), input(0), input(1)}},
		{impl.ChOnce, 2, []impl.Node{number(0), number(0), number(1)}},
		{impl.ChOnce, 2, []impl.Node{number(0), number(1), neg(1)}},
		{impl.ChOnce, 2, []impl.Node{input(0), input(1), neg(1)}},
		{impl.ChOnce, 3, []impl.Node{input(0), summed(0, 0), summed(0, 1), neg(2)}},
		{impl.ChOnce, 3, []impl.Node{input(0), cut(0, 1, 0, 1), cut(0, 1, 0, 2), neg(2)}},
		{impl.ChOnce, 3, []impl.Node{input(0), neg(0), neg(1), neg(2)}},
		{impl.ChOnce, 4, []impl.Node{input(0), input(1), two(impl.ExAdd, 0, 1), two(impl.ExAdd, 1, 0), neg(3)}},
		{impl.ChOnce, 4, []impl.Node{input(0), input(1), two(impl.ExAdd, 0, 1), two(impl.ExMax, 0, 1), neg(3)}},
		{impl.ChOnce, 2, []impl.Node{number(1), input(1), neg(1)}},
		// Only one of two is a turn, a fold, or a negative, or there is something between them.
		{impl.ChTurn, 1, []impl.Node{input(0), turned(0, 1, 0)}},
		{impl.ChTurn, 2, []impl.Node{input(0), folded(0, 3, 2), turned(1, 1, 0)}},
		{impl.ChTurn, 2, []impl.Node{input(0), turned(0, 1, 0), folded(1, 3, 2)}},
		{impl.ChTurn, 3, []impl.Node{input(0), turned(0, 1, 0), neg(1), turned(2, 1, 0)}},
		{impl.ChTurn, 1, []impl.Node{input(0), turned(0, 1, 0), turned(1, 1, 0)}},
		{impl.ChFold, 1, []impl.Node{input(0), folded(0, 3, 2)}},
		{impl.ChFold, 2, []impl.Node{input(0), folded(0, 3, 2), turned(1, 1, 0)}},
		{impl.ChFold, 2, []impl.Node{input(0), turned(0, 1, 0), folded(1, 3, 2)}},
		{impl.ChFold, 3, []impl.Node{input(0), folded(0, 3, 2), neg(1), folded(2, 3, 2)}},
		{impl.ChNeg, 1, []impl.Node{input(0), neg(0)}},
		{impl.ChNeg, 2, []impl.Node{input(0), neg(0), folded(1, 2, 3)}},
		{impl.ChNeg, 2, []impl.Node{input(0), folded(0, 2, 3), neg(1)}},
		{impl.ChNeg, 2, []impl.Node{input(0), neg(0), two(impl.ExSub, 1, 1)}},
		// A negative as A only, or of a kind that has no sign to change, or of something else.
		{impl.ChSign, 2, []impl.Node{input(0), neg(0), two(impl.ExAdd, 1, 0)}},
		{impl.ChSign, 2, []impl.Node{input(0), neg(0), two(impl.ExSub, 1, 0)}},
		{impl.ChSign, 2, []impl.Node{input(0), neg(0), two(impl.ExMul, 1, 0)}},
		{impl.ChSign, 2, []impl.Node{input(0), neg(0), two(impl.ExMul, 0, 1)}},
		{impl.ChSign, 2, []impl.Node{input(0), neg(0), two(impl.ExMax, 1, 1)}},
		{impl.ChSign, 2, []impl.Node{input(0), neg(0), beside(1, 1, 0)}},
		{impl.ChSign, 3, []impl.Node{input(0), cut(0, 1, 0, 2), neg(1), two(impl.ExProduct, 2, 2)}},
		{impl.ChSign, 2, []impl.Node{input(0), neg(0), neg(1)}},
		{impl.ChSign, 1, []impl.Node{number(-3), two(impl.ExAdd, 0, 0)}},
		// A node without a second part, whose B is 0, and the node 0 is no negative: there is none ahead of it.
		{impl.ChSign, 1, []impl.Node{input(0), summed(0, 0)}},
		// Cuts along two axes, or of something else.
		{impl.ChCut, 1, []impl.Node{input(0), cut(0, 1, 1, 2)}},
		{impl.ChCut, 2, []impl.Node{input(0), cut(0, 1, 1, 2), cut(1, 0, 1, 1)}},
		{impl.ChCut, 2, []impl.Node{input(0), cut(0, 0, 0, 1), cut(1, 1, 0, 1)}},
		{impl.ChCut, 2, []impl.Node{input(0), beside(0, 0, 0), cut(1, 0, 0, 1)}},
		{impl.ChCut, 2, []impl.Node{input(0), cut(0, 1, 1, 2), summed(1, 1)}},
		{impl.ChCut, 3, []impl.Node{input(0), cut(0, 1, 1, 2), neg(1), cut(2, 1, 0, 1)}},
		// Parts of both, of one along another axis, or of something else.
		{impl.ChPart, 3, []impl.Node{input(0), input(1), beside(0, 1, 0), cut(2, 0, 1, 2)}},
		{impl.ChPart, 3, []impl.Node{input(0), input(1), beside(0, 1, 0), cut(2, 0, 0, 3)}},
		{impl.ChPart, 3, []impl.Node{input(0), input(1), beside(0, 1, 0), cut(2, 0, 1, 3)}},
		{impl.ChPart, 3, []impl.Node{input(0), input(1), beside(0, 1, 0), cut(2, 0, 0, 4)}},
		{impl.ChPart, 2, []impl.Node{input(0), beside(0, 0, 0), cut(1, 0, 1, 2)}},
		{impl.ChPart, 3, []impl.Node{input(0), input(1), beside(0, 1, 0), cut(2, 1, 0, 1)}},
		{impl.ChPart, 3, []impl.Node{input(0), cut(0, 1, 0, 1), beside(0, 1, 1), cut(2, 0, 0, 1)}},
		{impl.ChPart, 2, []impl.Node{input(0), cut(0, 1, 0, 2), cut(1, 1, 0, 1)}},
		{impl.ChPart, 2, []impl.Node{input(0), beside(0, 0, 0), summed(1, 0)}},
		// A ahead of B, both one, or a kind that is not the same with B and A.
		{impl.ChSwap, 2, []impl.Node{input(0), input(1), two(impl.ExAdd, 0, 1)}},
		{impl.ChSwap, 2, []impl.Node{input(0), input(1), two(impl.ExMul, 1, 1)}},
		{impl.ChSwap, 2, []impl.Node{input(0), input(1), two(impl.ExMax, 0, 0)}},
		{impl.ChSwap, 2, []impl.Node{input(0), input(1), two(impl.ExSub, 1, 0)}},
		{impl.ChSwap, 2, []impl.Node{input(0), input(1), beside(1, 0, 0)}},
		{impl.ChSwap, 2, []impl.Node{input(0), input(2), two(impl.ExProduct, 1, 0)}},
		{impl.ChSwap, 2, []impl.Node{input(0), input(1), neg(1)}},
		// No kind of changes.
		{-1, 2, []impl.Node{input(0), neg(0), neg(1)}},
		{9, 2, []impl.Node{input(0), neg(0), neg(1)}},
		{farUp, 2, []impl.Node{input(0), neg(0), neg(1)}},
		{farDown, 2, []impl.Node{input(0), neg(0), neg(1)}},
	} {
		e := exprOf(inputs, c.nodes...)
		checkNoChange(t, e, c.change, c.at)
		for _, change := range impl.ChangesOf(e) {
			if sameInts(change, []int{c.change, c.at}) {
				t.Errorf("ChangesOf(%v) has %v", e, change)
			}
		}
		checkAll(t, e)
	}
}

// A node that is not needed may be a part of others that are not: ChangeOk counts it, and it cannot be dropped before they are.
func TestPartsOfWhatIsNotNeeded(t *testing.T) {
	e := exprOf([][]int{{2, 2}}, input(0), neg(0), two(impl.ExMul, 1, 1), number(5), beside(2, 1, 0), summed(0, 1))
	drops := []bool{false, false, false, true, true, false}
	counts := []bool{false, true, true, true, true, false}
	for at := range e.Nodes {
		_, ok := impl.ChangeDo(e, impl.ChDrop, at)
		if ok != drops[at] || impl.ChangeOk(e, impl.ChDrop, at) != counts[at] {
			t.Errorf("the node %d can be dropped: %v, ChangeOk is %v", at, ok, impl.ChangeOk(e, impl.ChDrop, at))
		}
	}
	if got, want := impl.ChangesOf(e), pairs(impl.ChDrop, 3, impl.ChDrop, 4, impl.ChSign, 2); !sameLists(got, want) {
		t.Errorf("ChangesOf(%v) = %v, not %v", e, got, want)
	}
	checkAll(t, e)
	if tidy, want := checkTidy(t, e), exprOf(e.Inputs, input(0), summed(0, 1)); !sameExpr(tidy, want) {
		t.Errorf("Tidy(%v) = %v, not %v", e, tidy, want)
	}
	// Where none is needed but the last one, they go from the last one ahead of it to the first one.
	e = exprOf([][]int{{2, 2}}, input(0), neg(0), neg(1), neg(2), number(5))
	for at := range 4 {
		_, ok := impl.ChangeDo(e, impl.ChDrop, at)
		if ok != (at == 3) || !impl.ChangeOk(e, impl.ChDrop, at) {
			t.Errorf("the node %d can be dropped: %v, ChangeOk is %v", at, ok, impl.ChangeOk(e, impl.ChDrop, at))
		}
	}
	checkAll(t, e)
	if tidy, want := checkTidy(t, e), exprOf(e.Inputs, number(5)); !sameExpr(tidy, want) {
		t.Errorf("Tidy(%v) = %v, not %v", e, tidy, want)
	}
	// Other changes are done at what is not needed, too.
	if !impl.ChangeOk(e, impl.ChNeg, 2) || !impl.ChangeOk(e, impl.ChNeg, 3) {
		t.Errorf("%v has no changes at nodes that are not needed", e)
	}
}

// Any two turns of a shape, one behind the other, are one, also if they are none together: a turn that leaves all axes where they are stays a turn.
func TestTurnsTogether(t *testing.T) {
	none := 0
	for _, shape := range [][]int{{}, {1}, {3}, {2, 3}, {1, 1}, {2, 2}, {2, 3, 4}, {2, 1, 2}, {3, 3, 3}} {
		for _, first := range allTurns() {
			for _, second := range allTurns() {
				if len(first) != len(shape) || len(second) != len(shape) {
					continue
				}
				e := exprOf([][]int{shape}, input(0), turned(0, first...), turned(1, second...))
				changed, ok := impl.ChangeDo(e, impl.ChTurn, 2)
				if !ok || changed.Nodes[2].Op != impl.ExTurn || changed.Nodes[2].A != 0 {
					t.Errorf("ChangeDo(%v, ChTurn, 2) = %v, %v", e, changed, ok)
				}
				together := changed.Nodes[2].List
				if slices.IsSorted(together) {
					none++
					back, _ := impl.BackTurn(first)
					if !sameInts(back, second) || !sameInts(together, upFrom(0, len(shape))) {
						t.Errorf("the turns %v and %v are %v together", first, second, together)
					}
				}
				checkAll(t, e)
				tidy := checkTidy(t, e)
				if !sameNodes(tidy.Nodes, []impl.Node{input(0), turned(0, together...)}) {
					t.Errorf("Tidy(%v) = %v", e, tidy)
				}
			}
		}
	}
	if none != 1+1+1+2+2+2+6+6+6 {
		t.Errorf("%d turns are none together", none)
	}
}

// Any cut of any cut of a shape, along one axis or two.
func TestCutsTogether(t *testing.T) {
	can, cannot := 0, 0
	for _, shape := range [][]int{{4}, {3}, {1}, {2, 4}, {4, 2}, {2, 3, 2}} {
		cuts := []impl.Node{}
		for axis := range shape {
			for _, list := range listsOf(2, 0, 4) {
				cuts = append(cuts, cut(0, axis, list[0], list[1]))
			}
		}
		for _, first := range cuts {
			for _, second := range cuts {
				second.A = 1
				e := exprOf([][]int{shape}, input(0), first, second)
				if !impl.ExprOk(e) {
					continue
				}
				if checkChange(t, e, impl.ChCut, 2) {
					can++
					checkKept(t, e, []int{impl.ChCut, 2})
				} else {
					cannot++
				}
			}
		}
	}
	if can < 100 || cannot < 100 {
		t.Errorf("%d cuts of cuts are one, %d are none", can, cannot)
	}
}

// Any cut of any two parts beside each other: of the first one, of the second one, or with a part that is in both, which stays.
func TestCutsOfPartsBesideEachOther(t *testing.T) {
	first, second, both := 0, 0, 0
	for _, sizes := range listsOf(2, 1, 3) {
		for axis := range 3 {
			shape := func(size int) []int { return with([]int{2, 2, 2}, axis, size) }
			for _, list := range listsOf(3, 0, 4) {
				e := exprOf([][]int{shape(sizes[0]), shape(sizes[1])}, input(0), input(1), beside(0, 1, axis), cut(2, list[0], list[1], list[2]))
				if !impl.ExprOk(e) {
					continue
				}
				if !checkChange(t, e, impl.ChPart, 3) {
					if list[0] == axis {
						both++
					}
					continue
				}
				checkKept(t, e, []int{impl.ChPart, 3})
				changed, _ := impl.ChangeDo(e, impl.ChPart, 3)
				if changed.Nodes[3].A == 0 {
					first++
				} else {
					second++
				}
				// What is beside the part is over then.
				tidy := checkTidy(t, e)
				if want := []impl.Node{input(changed.Nodes[3].A), cut(0, changed.Nodes[3].List[0], changed.Nodes[3].List[1], changed.Nodes[3].List[2])}; !sameNodes(tidy.Nodes, want) {
					t.Errorf("Tidy(%v) = %v, not %v", e, tidy, want)
				}
			}
		}
	}
	if first < 20 || second < 20 || both < 20 {
		t.Errorf("%d cuts of the first part, %d of the second one, %d of both", first, second, both)
	}
}

// Any fold of any fold of as many places.
func TestFoldsTogether(t *testing.T) {
	for _, shape := range [][]int{{}, {1}, {4}, {2, 3}, {2, 2, 3}} {
		for _, first := range allShapes() {
			for _, second := range allShapes() {
				if countByRule(first) != countByRule(shape) || countByRule(second) != countByRule(shape) {
					continue
				}
				e := exprOf([][]int{shape}, input(0), folded(0, first...), folded(1, second...))
				checkAll(t, e)
				if tidy := checkTidy(t, e); !sameNodes(tidy.Nodes, []impl.Node{input(0), folded(0, second...)}) {
					t.Errorf("Tidy(%v) = %v", e, tidy)
				}
			}
		}
	}
}

// Each kind with two parts, either of which may be a negative, in either order, over shapes that are spread over each other.
func TestSignsAndSwapsOfAllKinds(t *testing.T) {
	for _, shapes := range [][][]int{{{2, 2}, {2, 2}}, {{2}, {2, 2}}, {{2, 1}, {2}}, {{}, {3}}, {{1, 2, 1}, {2, 1, 4}}} {
		for _, kind := range []int{impl.ExAdd, impl.ExSub, impl.ExMul, impl.ExMax, impl.ExBeside, impl.ExProduct} {
			for _, parts := range listsOf(2, 0, 3) {
				x := two(kind, parts[0], parts[1])
				if kind == impl.ExBeside {
					x.List = []int{0}
				}
				e := exprOf(shapes, input(0), input(1), neg(0), neg(1), x)
				if impl.ExprOk(e) {
					checkAll(t, e)
					checkAll(t, more(e, neg(4)))
				}
			}
		}
	}
}

func TestCostOfByHand(t *testing.T) {
	inputs := [][]int{{2, 3}, {3}, {3, 4}}
	for _, c := range []struct {
		nodes []impl.Node
		want  int
	}{
		// What moves numbers only costs nothing.
		{[]impl.Node{input(0)}, 0},
		{[]impl.Node{number(4)}, 0},
		{[]impl.Node{input(0), turned(0, 1, 0)}, 0},
		{[]impl.Node{input(0), folded(0, 3, 2)}, 0},
		{[]impl.Node{input(0), cut(0, 0, 0, 1)}, 0},
		{[]impl.Node{input(0), beside(0, 0, 0)}, 0},
		// The places of the joined shape, and those of the part that is summed.
		{[]impl.Node{input(0), input(1), two(impl.ExAdd, 0, 1)}, 6},
		{[]impl.Node{input(0), input(1), two(impl.ExSub, 1, 0)}, 6},
		{[]impl.Node{input(0), input(1), two(impl.ExMul, 0, 0)}, 6},
		{[]impl.Node{input(0), input(1), two(impl.ExMax, 1, 1)}, 3},
		{[]impl.Node{input(0), number(1), two(impl.ExMax, 1, 1)}, 1},
		{[]impl.Node{input(0), neg(0)}, 6},
		{[]impl.Node{input(0), summed(0, 0)}, 6},
		{[]impl.Node{input(0), summed(0, 1)}, 6},
		{[]impl.Node{input(1), summed(0, 0)}, 3},
		{[]impl.Node{input(0), folded(0, 6)}, -1},
		{[]impl.Node{input(0), folded(0, 3, 1, 2), summed(1, 1)}, 6},
		// A product has 2 times 4 places, each of which takes 3 products.
		{[]impl.Node{input(0), input(2), two(impl.ExProduct, 0, 1)}, 24},
		{[]impl.Node{input(0), turned(0, 1, 0), two(impl.ExProduct, 0, 1)}, 12},
		{[]impl.Node{input(0), turned(0, 1, 0), two(impl.ExProduct, 1, 0)}, 18},
		{[]impl.Node{input(1), folded(0, 1, 3), folded(0, 3, 1), two(impl.ExProduct, 1, 2)}, 3},
		{[]impl.Node{input(1), folded(0, 1, 3), folded(0, 3, 1), two(impl.ExProduct, 2, 1)}, 9},
		// Nodes that are not needed cost nothing, and one that is needed twice costs once.
		{[]impl.Node{input(0), neg(0), input(1)}, 0},
		{[]impl.Node{input(0), neg(0), neg(1), neg(0)}, 6},
		{[]impl.Node{input(0), neg(0), two(impl.ExMul, 1, 1), two(impl.ExAdd, 2, 1)}, 18},
		{[]impl.Node{input(0), neg(0), neg(0), two(impl.ExMul, 1, 2)}, 18},
		// What is no expression.
		{nil, -1},
		{[]impl.Node{input(3)}, -1},
		{[]impl.Node{input(0), neg(1)}, -1},
	} {
		e := exprOf(inputs, c.nodes...)
		if got := impl.CostOf(e); got != c.want {
			t.Errorf("CostOf(%v) = %d, not %d", e, got, c.want)
		}
		if impl.ExprOk(e) {
			checkAll(t, e)
		}
	}
}

func TestSameNodeByHand(t *testing.T) {
	inputs := [][]int{{2, 2}, {2, 2}}
	for _, c := range []struct {
		nodes []impl.Node
		want  []int
	}{
		{[]impl.Node{input(0), input(0), input(1), input(0), input(1)}, []int{0, 0, 2, 0, 2}},
		{[]impl.Node{number(0), input(0), number(1), input(1), number(-1), number(0)}, []int{0, 1, 2, 3, 4, 0}},
		// The parts are compared as they are told: the same nodes of parts that are the same are others.
		{[]impl.Node{input(0), input(0), neg(0), neg(1), neg(1), neg(0)}, []int{0, 0, 2, 3, 3, 2}},
		{[]impl.Node{input(0), input(1), two(impl.ExAdd, 0, 1), two(impl.ExAdd, 1, 0), two(impl.ExSub, 0, 1), two(impl.ExAdd, 0, 1)}, []int{0, 1, 2, 3, 4, 2}},
		{[]impl.Node{input(0), summed(0, 0), summed(0, 1), summed(0, 0), cut(0, 0, 0, 1), cut(0, 0, 1, 1), cut(0, 0, 0, 2), cut(0, 1, 0, 1), cut(0, 0, 1, 1)}, []int{0, 1, 2, 1, 4, 5, 6, 7, 5}},
		{[]impl.Node{input(0), folded(0, 4), folded(0, 4, 1), folded(0, 1, 4), folded(0, 4), turned(0, 0, 1), turned(0, 1, 0), turned(0, 0, 1)}, []int{0, 1, 2, 3, 1, 5, 6, 5}},
	} {
		e := exprOf(inputs, c.nodes...)
		for at, want := range c.want {
			if got := impl.SameNode(e, at); got != want {
				t.Errorf("SameNode(%v, %d) = %d, not %d", e, at, got, want)
			}
		}
		checkAll(t, e)
	}
}

// The changes of expressions by hand, in their order.
func TestChangesOfByHand(t *testing.T) {
	inputs := [][]int{{2, 2}, {2, 2}}
	for _, c := range []struct {
		nodes []impl.Node
		want  [][]int
	}{
		{[]impl.Node{input(0)}, nil},
		{[]impl.Node{input(0), input(0)}, pairs(0, 0)},
		{[]impl.Node{input(0), neg(0), neg(0), two(impl.ExMul, 1, 2)}, pairs(1, 3, 5, 3)},
		{[]impl.Node{input(0), neg(0), neg(1), neg(2), input(0)}, pairs(0, 3, 4, 2, 4, 3)},
		{[]impl.Node{number(1), input(1), neg(1), two(impl.ExAdd, 2, 1), two(impl.ExAdd, 3, 2), number(1), two(impl.ExMax, 5, 4), input(0)}, pairs(0, 0, 0, 6, 1, 6, 5, 4, 8, 3, 8, 4, 8, 6)},
		{[]impl.Node{input(0), input(1), turned(0, 1, 0), turned(2, 1, 0), folded(1, 4), folded(4, 2, 2), beside(3, 5, 1), cut(6, 1, 2, 2), cut(7, 1, 1, 1)}, pairs(2, 3, 3, 5, 6, 8, 7, 7)},
	} {
		e := exprOf(inputs, c.nodes...)
		if got := impl.ChangesOf(e); !sameLists(got, c.want) {
			t.Errorf("ChangesOf(%v) = %v, not %v", e, got, c.want)
		}
		checkAll(t, e)
	}
}

// Tidy expressions by hand.
func TestTidyByHand(t *testing.T) {
	inputs := [][]int{{2, 3}, {2, 3}}
	for _, c := range []struct {
		nodes, want []impl.Node
	}{
		{[]impl.Node{input(0)}, []impl.Node{input(0)}},
		{[]impl.Node{input(0), input(1)}, []impl.Node{input(1)}},
		// The last node stays, also if it is the same as one ahead of it.
		{[]impl.Node{input(0), input(0)}, []impl.Node{input(0)}},
		{[]impl.Node{input(0), neg(0), two(impl.ExMax, 0, 1), neg(0)}, []impl.Node{input(0), neg(0)}},
		// A negative of a negative is folded into its own shape in the end, and so are more of them.
		{[]impl.Node{input(0), neg(0), neg(1)}, []impl.Node{input(0), folded(0, 2, 3)}},
		{[]impl.Node{number(3), neg(0), neg(1)}, []impl.Node{number(3), folded(0)}},
		{[]impl.Node{input(0), neg(0), neg(1), neg(2)}, []impl.Node{input(0), folded(0, 2, 3), neg(1)}},
		{[]impl.Node{input(0), neg(0), neg(1), neg(2), neg(3)}, []impl.Node{input(0), folded(0, 2, 3)}},
		{[]impl.Node{input(0), folded(0, 3, 2), neg(1), neg(2), folded(3, 1, 2, 3)}, []impl.Node{input(0), folded(0, 1, 2, 3)}},
		// Signs, once the parts are in order.
		{[]impl.Node{input(0), input(1), neg(1), two(impl.ExAdd, 2, 0)}, []impl.Node{input(0), input(1), two(impl.ExSub, 0, 1)}},
		{[]impl.Node{input(0), input(1), neg(0), two(impl.ExAdd, 2, 1)}, []impl.Node{input(0), input(1), two(impl.ExSub, 1, 0)}},
		{[]impl.Node{input(0), neg(0), input(1), two(impl.ExAdd, 1, 2)}, []impl.Node{input(0), neg(0), input(1), two(impl.ExAdd, 1, 2)}},
		{[]impl.Node{input(0), input(1), neg(0), two(impl.ExSub, 1, 2)}, []impl.Node{input(0), input(1), two(impl.ExAdd, 0, 1)}},
		{[]impl.Node{input(0), input(1), neg(1), neg(0), two(impl.ExMul, 2, 3)}, []impl.Node{input(0), input(1), two(impl.ExMul, 0, 1)}},
		{[]impl.Node{input(0), neg(0), neg(1), neg(2), two(impl.ExMul, 3, 1)}, []impl.Node{input(0), folded(0, 2, 3), two(impl.ExMul, 0, 1)}},
		// What is the same is reckoned once, also where that shows only when parts are the same.
		{[]impl.Node{input(0), input(0), neg(0), neg(1), two(impl.ExMax, 2, 3)}, []impl.Node{input(0), neg(0), two(impl.ExMax, 1, 1)}},
		{[]impl.Node{input(0), input(1), two(impl.ExAdd, 0, 1), two(impl.ExAdd, 1, 0), two(impl.ExSub, 2, 3)}, []impl.Node{input(0), input(1), two(impl.ExAdd, 0, 1), two(impl.ExSub, 2, 2)}},
		// Turns that are none together stay a turn.
		{[]impl.Node{input(0), turned(0, 1, 0), turned(1, 1, 0)}, []impl.Node{input(0), turned(0, 0, 1)}},
		{[]impl.Node{input(0), turned(0, 1, 0), turned(1, 1, 0), turned(2, 1, 0)}, []impl.Node{input(0), turned(0, 1, 0)}},
		// A cut of a cut of parts beside each other: the first cut has parts of both, and the second one has not.
		{[]impl.Node{input(0), input(1), beside(0, 1, 0), cut(2, 0, 1, 2), cut(3, 0, 1, 1)}, []impl.Node{input(1), cut(0, 0, 0, 1)}},
		{[]impl.Node{input(0), input(1), beside(0, 1, 0), cut(2, 0, 1, 2)}, []impl.Node{input(0), input(1), beside(0, 1, 0), cut(2, 0, 1, 2)}},
		{[]impl.Node{input(0), cut(0, 1, 0, 1), cut(0, 1, 1, 2), beside(2, 1, 1), cut(3, 1, 1, 1)}, []impl.Node{input(0), cut(0, 1, 2, 1)}},
	} {
		e := exprOf(inputs, c.nodes...)
		tidy, ok := impl.Tidy(e)
		if want := exprOf(inputs, c.want...); !ok || !sameExpr(tidy, want) {
			t.Errorf("Tidy(%v) = %v, %v, not %v", e, tidy, ok, want)
		}
		checkAll(t, e)
	}
}

// A change may cost more until others are done: it may need a node that was not needed. Tidy drops such a node first.
func TestOnceMayNeedWhatWasNotNeeded(t *testing.T) {
	e := exprOf([][]int{{2}}, input(0), neg(0), neg(0), summed(2, 0), two(impl.ExMul, 2, 3))
	once, ok := impl.ChangeDo(e, impl.ChOnce, 3)
	if !ok || impl.CostOf(once) != impl.CostOf(e)+2 {
		t.Errorf("ChangeDo(%v, ChOnce, 3) = %v, %v, which costs %d", e, once, ok, impl.CostOf(once))
	}
	checkAll(t, e)
	checkAll(t, once)
	tidy := checkTidy(t, e)
	if want := []impl.Node{input(0), neg(0), summed(1, 0), two(impl.ExMul, 1, 2)}; !sameNodes(tidy.Nodes, want) {
		t.Errorf("Tidy(%v) = %v, not %v", e, tidy, want)
	}
}

// Where a node that is not needed grows too great, there is a value once it is dropped.
func TestDropOfWhatGrowsTooGreat(t *testing.T) {
	e := exprOf([][]int{nil}, input(0), two(impl.ExMul, 0, 0), neg(0))
	inputs := []impl.Tensor{tensorOf(nil, impl.MaxNum)}
	checkNoValues(t, e, inputs)
	tidy := checkTidy(t, e)
	value, ok := impl.ValueOf(tidy, inputs)
	checkTensor(t, fmt.Sprintf("Tidy(%v)", e), value, ok, tensorOf(nil, -impl.MaxNum))
	checkAll(t, e)
}

// behind returns an expression with a node more, of which a node is a part, mostly so that there is something to change.
func (d *dice) behind(e impl.Expr, at int) impl.Expr {
	shapes, _ := shapesByRule(e)
	x := e.Nodes[at]
	kinds := []int{impl.ExNeg, impl.ExNeg, impl.ExSum, impl.ExTurn, impl.ExFold, impl.ExCut, impl.ExBeside, impl.ExBeside, impl.ExProduct}
	switch x.Op {
	case impl.ExTurn, impl.ExFold, impl.ExCut:
		kinds = []int{x.Op}
	case impl.ExBeside:
		kinds = []int{impl.ExCut}
	case impl.ExNeg:
		kinds = []int{impl.ExNeg, impl.ExAdd, impl.ExSub, impl.ExMul}
	}
	kind := kinds[d.below(len(kinds))]
	for range 60 {
		y := node(kind, at, 0, d.list(kind, shapes[at])...)
		if kind == impl.ExFold {
			fits := slices.DeleteFunc(allShapes(), func(shape []int) bool { return countByRule(shape) != countByRule(shapes[at]) })
			y.List = fits[d.below(len(fits))]
		}
		if len(partsByRule(y)) > 1 {
			y.A, y.B = d.below(len(shapes)), at
			if d.below(3) == 0 {
				y.A, y.B = y.B, y.A
			}
		}
		longer := more(e, y)
		if _, ok := shapesByRule(longer); ok {
			return longer
		}
	}
	return d.longer(e)
}

// tangled returns an expression of so many nodes of which many can be changed: some are the same as others, some stand behind those of their kind.
func (d *dice) tangled(nodes int) impl.Expr {
	e := d.expr(1)
	for len(e.Nodes) < nodes {
		switch d.below(5) {
		case 0:
			e = d.longer(e)
		case 1:
			e = more(e, e.Nodes[d.below(len(e.Nodes))])
		default:
			e = d.behind(e, d.below(len(e.Nodes)))
		}
	}
	return e
}

// Promise 6: changes keep the value, and tidy expressions cost no more.
func TestChangesKeepTheValue(t *testing.T) {
	d := &dice{state: 13}
	done := make([]int, len(allChanges))
	valued, cheaper, tidied := 0, 0, 0
	for range 1500 {
		e := d.tangled(1 + d.below(impl.MaxNodes))
		for _, change := range checkChanges(t, e) {
			done[change[0]]++
			valued += checkKept(t, e, change)
		}
		tidy := checkTidy(t, e)
		if again := checkTidy(t, tidy); !sameExpr(again, tidy) {
			t.Errorf("Tidy(%v) = %v", tidy, again)
		}
		if impl.CostOf(tidy) < impl.CostOf(e) {
			cheaper++
		}
		if len(tidy.Nodes) < len(e.Nodes) {
			tidied++
		}
	}
	// These are so many that none of the above is told of nothing.
	for change, many := range done {
		if many < 60 {
			t.Errorf("only %d changes %d are done", many, change)
		}
	}
	if valued < 10000 || cheaper < 60 || tidied < 1000 {
		t.Errorf("%d values, %d expressions that cost less, %d with fewer nodes", valued, cheaper, tidied)
	}
}

// Whatever changes are done, in any order, the value stays, and there is an end.
func TestChangesInAnyOrder(t *testing.T) {
	d := &dice{state: 14}
	longest := 0
	for range 300 {
		first := d.tangled(2 + d.below(impl.MaxNodes-1))
		e := first
		steps := 0
		for changes := impl.ChangesOf(e); len(changes) > 0; changes = impl.ChangesOf(e) {
			change := changes[d.below(len(changes))]
			changed, ok := impl.ChangeDo(e, change[0], change[1])
			if !ok || !impl.ExprOk(changed) {
				t.Fatalf("ChangeDo(%v, %d, %d) = %v, %v", e, change[0], change[1], changed, ok)
			}
			e = changed
			steps++
			if steps > 2000 {
				t.Fatalf("the changes of %v do not end", first)
			}
		}
		longest = max(longest, steps)
		for _, inputs := range inputsFor(first) {
			if want, ok := impl.ValueOf(first, inputs); ok {
				got, gotOk := impl.ValueOf(e, inputs)
				checkTensor(t, fmt.Sprintf("%v, changed into %v", first, e), got, gotOk, want)
			}
		}
	}
	if longest < 15 {
		t.Errorf("there are %d changes at most", longest)
	}
}

// As many nodes as there may be, all of one kind and one behind the other, or all the same.
func TestLongRowsOfOneKind(t *testing.T) {
	inputs := [][]int{{2, 2}, {4, 4, 4}}
	for _, row := range []func(at int) impl.Node{
		func(at int) impl.Node { return neg(at - 1) },
		func(at int) impl.Node { return turned(at-1, 1, 0) },
		func(at int) impl.Node { return folded(at-1, 2, 2) },
		func(at int) impl.Node { return cut(at-1, at%2, 0, 2) },
		func(at int) impl.Node { return cut(at-1, 1, 0, 2) },
		func(at int) impl.Node { return two(impl.ExAdd, at-1, 0) },
		func(at int) impl.Node { return two(impl.ExMax, at-1, at/2) },
		func(at int) impl.Node { return two(impl.ExSub, at-1, at-1) },
		func(at int) impl.Node { return input(0) },
		func(at int) impl.Node { return neg(0) },
	} {
		e := exprOf(inputs, input(0))
		for at := 1; at < impl.MaxNodes; at++ {
			e.Nodes = append(e.Nodes, row(at))
			checkAll(t, e)
		}
	}
	checkAll(t, whole())
}

// What is no expression has no changes, no costs, and no node that is the same as another one.
func TestChangesOfWhatIsNoExpression(t *testing.T) {
	shapes := [][]int{{2, 2}, {3}}
	for _, e := range []impl.Expr{
		{}, exprOf(shapes), exprOf(nil, input(0)), exprOf(nil, number(10)), exprOf(shapes, input(0), neg(1)), exprOf(shapes, input(0), neg(-1), neg(1)),
		exprOf(shapes, input(0), node(impl.ExNeg, 0, 1), neg(1)), exprOf(shapes, input(0), node(13, 0, 0), neg(0)), exprOf(shapes, input(0), node(-1, 0, 0), neg(0)),
		exprOf(shapes, input(0), input(1), two(impl.ExAdd, 1, 0)), exprOf(shapes, input(0), turned(0, 1, 0), turned(1, 1, 1)), exprOf(shapes, input(0), turned(0, 1), turned(1, 0)),
		exprOf(shapes, input(0), folded(0, 4), folded(1, 5)), exprOf(shapes, input(0), cut(0, 0, 0, 2), cut(1, 0, 1, 2)), exprOf(shapes, input(0), cut(0, 0, 1, farUp), cut(1, 0, farUp, 1)),
		exprOf(shapes, input(0), beside(0, 0, 0), cut(1, 0, 3, 2)), exprOf(shapes, input(0), beside(0, 0, 2), cut(1, 2, 0, 1)), exprOf(shapes, input(0), input(0), input(2)),
		exprOf([][]int{{5}}, number(1), number(1), neg(1)), exprOf([][]int{{2}, {2}, {2}, {2}}, input(0), neg(0), neg(1)), exprOf(shapes, input(0), node(impl.ExNeg, 0, 0, 0), neg(1)),
		exprOf(shapes, number(1), neg(farUp), neg(1)), exprOf(shapes, number(1), neg(farDown), neg(1)), exprOf(shapes, number(farUp), input(farDown), node(farUp, farDown, farUp, farUp)),
		{Nodes: make([]impl.Node, 1000)}, {Inputs: make([][]int, 1000), Nodes: []impl.Node{number(1)}}, {Inputs: [][]int{{1}}, Nodes: make([]impl.Node, 13)},
	} {
		checkNoExprChanges(t, e)
		// Nor is it one with nodes behind it that would have changes.
		if len(e.Nodes) > 0 {
			checkNoExprChanges(t, more(more(e, number(1)), number(1)))
		}
	}
}

// Whatever nodes, good or bad, and whatever change is told, there is an answer, and it is that of the words of the document.
func TestAnyChanges(t *testing.T) {
	d := &dice{state: 15}
	odd := []int{-1, 0, 0, 1, 1, 2, 3, 4, 5, 9, 12, 13, farUp, farDown}
	some, none := 0, 0
	for range 4000 {
		e := d.tangled(2 + d.below(5))
		d.spoil(e, odd)
		if _, ok := shapesByRule(e); !ok {
			none++
			checkNoExprChanges(t, e)
			continue
		}
		some++
		checkChange(t, e, odd[d.below(len(odd))], odd[d.below(len(odd))])
		checkTidy(t, e)
	}
	if some < 1000 || none < 1000 {
		t.Errorf("%d are expressions, %d are none", some, none)
	}
}

// scribbleExpr writes over all that an expression has, unused capacity too, and fails if writing over one list of it changes another one.
func scribbleExpr(t *testing.T, name string, e impl.Expr) {
	t.Helper()
	inputs := e.Inputs[:cap(e.Inputs)]
	nodes := e.Nodes[:cap(e.Nodes)]
	lists := slices.Clone(inputs)
	for _, x := range nodes {
		lists = append(lists, x.List)
	}
	scribbleLists(t, name, lists)
	for i := range inputs {
		inputs[i] = []int{-spare}
	}
	for i := range nodes {
		nodes[i] = node(-spare, -spare, -spare, -spare)
	}
}

// Nothing that is returned is part of an argument, or of anything else that is returned, and nothing is kept.
func TestChangesShareNoMemory(t *testing.T) {
	d := &dice{state: 16}
	list := []impl.Expr{whole(), exprOf(nil, number(1)), exprOf([][]int{{2, 2}}, input(0), turned(0, 1, 0), turned(1, 0, 1), folded(2, 2, 2), folded(3, 4))}
	for range 150 {
		list = append(list, d.tangled(1+d.below(impl.MaxNodes)))
	}
	for _, was := range list {
		e := guardedExpr(was)
		// Twice, as what is written over the first time might be kept for the second one.
		for range 2 {
			for _, change := range checkChanges(t, e) {
				changed, _ := impl.ChangeDo(e, change[0], change[1])
				scribbleExpr(t, "ChangeDo", changed)
				checkGuardedExpr(t, "ChangeDo", e, was)
			}
			scribbleOrders(t, "ChangesOf", [][][]int{impl.ChangesOf(e)})
			tidy, _ := impl.Tidy(e)
			scribbleExpr(t, "Tidy", tidy)
			checkTidy(t, e)
			checkGuardedExpr(t, "a function of chapter 6", e, was)
		}
	}
	for _, was := range []impl.Expr{exprOf([][]int{{2, 2}}, input(0), neg(0), neg(2)), exprOf([][]int{{2, 2}}, input(0), turned(0, 1, 0), turned(1, 1, 2)), exprOf([][]int{{2, 5}}, input(0))} {
		e := guardedExpr(was)
		checkNoExprChanges(t, e)
		checkGuardedExpr(t, "a function of chapter 6", e, was)
	}
}
