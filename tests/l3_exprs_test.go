package tests

import (
	"fmt"
	"testing"

	"loop.example/wholetensors/impl"
)

// allKinds are the kinds of nodes, in order.
var allKinds = []int{
	impl.ExInput, impl.ExConst, impl.ExAdd, impl.ExSub, impl.ExMul, impl.ExMax, impl.ExNeg,
	impl.ExSum, impl.ExTurn, impl.ExFold, impl.ExCut, impl.ExBeside, impl.ExProduct,
}

func exprOf(inputs [][]int, nodes ...impl.Node) impl.Expr {
	return impl.Expr{Inputs: inputs, Nodes: nodes}
}

func node(op, a, b int, list ...int) impl.Node {
	return impl.Node{Op: op, A: a, B: b, List: list}
}

func input(at int) impl.Node {
	return node(impl.ExInput, at, 0)
}

func number(num int) impl.Node {
	return node(impl.ExConst, num, 0)
}

func copyExpr(e impl.Expr) impl.Expr {
	var c impl.Expr
	for _, shape := range e.Inputs {
		c.Inputs = append(c.Inputs, copyInts(shape))
	}
	for _, x := range e.Nodes {
		c.Nodes = append(c.Nodes, node(x.Op, x.A, x.B, copyInts(x.List)...))
	}
	return c
}

// partsByRule returns which of A and B a kind has that are nodes, by the table of the document.
func partsByRule(x impl.Node) []int {
	switch []int{0, 0, 2, 2, 2, 2, 1, 1, 1, 1, 1, 2, 2}[x.Op] {
	case 1:
		return []int{x.A}
	case 2:
		return []int{x.A, x.B}
	}
	return nil
}

// toldByRule reports whether a node is told as the table of the document has it, whatever the shapes of its parts are.
func toldByRule(x impl.Node, at, inputs int) bool {
	if x.Op < 0 || x.Op > 12 {
		return false
	}
	lengths := []int{0, 0, 0, 0, 0, 0, 0, 1, len(x.List), len(x.List), 3, 1, 0}
	if len(x.List) != lengths[x.Op] {
		return false
	}
	parts := partsByRule(x)
	if len(parts) < 2 && x.B != 0 {
		return false
	}
	for _, part := range parts {
		if part < 0 || part >= at {
			return false
		}
	}
	switch x.Op {
	case impl.ExInput:
		return x.A >= 0 && x.A < inputs
	case impl.ExConst:
		return x.A >= -9 && x.A <= 9
	}
	return true
}

func isShape(list []int) bool {
	for _, size := range list {
		if size < 1 || size > 4 {
			return false
		}
	}
	return len(list) <= 3
}

func isTurn(list []int, axes int) bool {
	for _, turn := range allTurns() {
		if len(turn) == axes && sameInts(turn, list) {
			return true
		}
	}
	return false
}

func countByRule(shape []int) int {
	count := 1
	for _, size := range shape {
		count *= size
	}
	return count
}

// shapeByRule tells by the words of the document which shape a node with parts has, of theirs.
func shapeByRule(x impl.Node, a, b []int) ([]int, bool) {
	switch x.Op {
	case impl.ExNeg:
		return a, true
	case impl.ExSum:
		if axis := x.List[0]; axis >= 0 && axis < len(a) {
			return without(a, axis), true
		}
		return nil, false
	case impl.ExTurn:
		if !isTurn(x.List, len(a)) {
			return nil, false
		}
		turned := copyInts(a)
		for i, axis := range x.List {
			turned[i] = a[axis]
		}
		return turned, true
	case impl.ExFold:
		return x.List, isShape(x.List) && countByRule(x.List) == countByRule(a)
	case impl.ExCut:
		axis, from, many := x.List[0], x.List[1], x.List[2]
		if axis < 0 || axis >= len(a) || from < 0 || from >= a[axis] || many < 1 || many > a[axis] || from+many > a[axis] {
			return nil, false
		}
		return with(a, axis, many), true
	case impl.ExBeside:
		axis := x.List[0]
		if axis < 0 || axis >= len(a) || axis >= len(b) || !sameInts(without(a, axis), without(b, axis)) {
			return nil, false
		}
		return with(a, axis, a[axis]+b[axis]), a[axis]+b[axis] <= 4
	case impl.ExProduct:
		if len(a) != 2 || len(b) != 2 || a[1] != b[0] {
			return nil, false
		}
		return []int{a[0], b[1]}, true
	}
	return joinedByRule(a, b)
}

// shapesByRule tells by the words of the document the shapes of all nodes, or that there is no expression.
func shapesByRule(e impl.Expr) ([][]int, bool) {
	if len(e.Inputs) > 3 || len(e.Nodes) < 1 || len(e.Nodes) > 12 {
		return nil, false
	}
	for _, shape := range e.Inputs {
		if !isShape(shape) {
			return nil, false
		}
	}
	var shapes [][]int
	for at, x := range e.Nodes {
		if !toldByRule(x, at, len(e.Inputs)) {
			return nil, false
		}
		var shape []int
		switch x.Op {
		case impl.ExInput:
			shape = e.Inputs[x.A]
		case impl.ExConst:
		default:
			var ok bool
			if shape, ok = shapeByRule(x, shapes[x.A], shapes[x.B]); !ok {
				return nil, false
			}
		}
		shapes = append(shapes, shape)
	}
	return shapes, true
}

// valueByRule returns what the table of the document has a node be, in the functions of chapter 2.
func valueByRule(x impl.Node, inputs, values []impl.Tensor) (impl.Tensor, bool) {
	switch x.Op {
	case impl.ExInput:
		return inputs[x.A], true
	case impl.ExConst:
		return tensorOf(nil, x.A), true
	}
	a, b := values[x.A], values[x.B]
	switch x.Op {
	case impl.ExAdd:
		return impl.TwoOf(impl.OpAdd, a, b)
	case impl.ExSub:
		return impl.TwoOf(impl.OpSub, a, b)
	case impl.ExMul:
		return impl.TwoOf(impl.OpMul, a, b)
	case impl.ExMax:
		return impl.TwoOf(impl.OpMax, a, b)
	case impl.ExNeg:
		return impl.NegOf(a)
	case impl.ExSum:
		return impl.SumAlong(a, x.List[0])
	case impl.ExTurn:
		return impl.TurnOf(a, x.List)
	case impl.ExFold:
		return impl.FoldOf(a, x.List)
	case impl.ExCut:
		return impl.CutOf(a, x.List[0], x.List[1], x.List[2])
	case impl.ExBeside:
		return impl.BesideOf(a, b, x.List[0])
	}
	return impl.ProductOf(a, b)
}

func valuesByRule(e impl.Expr, inputs []impl.Tensor) ([]impl.Tensor, bool) {
	var values []impl.Tensor
	for _, x := range e.Nodes {
		value, ok := valueByRule(x, inputs, values)
		if !ok {
			return nil, false
		}
		values = append(values, value)
	}
	return values, true
}

// usesByRule counts for each node all nodes that have it as A, and those that have it as B.
func usesByRule(e impl.Expr) []int {
	uses := make([]int, len(e.Nodes))
	for at := range uses {
		for _, x := range e.Nodes {
			for _, part := range partsByRule(x) {
				if part == at {
					uses[at]++
				}
			}
		}
	}
	return uses
}

// neededByRule reports whether a way leads from the last node over parts to a node.
func neededByRule(e impl.Expr, at int) bool {
	if at == len(e.Nodes)-1 {
		return true
	}
	for i, x := range e.Nodes {
		for _, part := range partsByRule(x) {
			if part == at && neededByRule(e, i) {
				return true
			}
		}
	}
	return false
}

func sameLists(a, b [][]int) bool {
	if len(a) != len(b) {
		return false
	}
	for i := range a {
		if !sameInts(a[i], b[i]) {
			return false
		}
	}
	return true
}

// checkNoExpr fails if any function takes nodes as an expression.
func checkNoExpr(t *testing.T, e impl.Expr) {
	t.Helper()
	if impl.ExprOk(e) || impl.SmoothOk(e) {
		t.Errorf("%v is an expression", e)
	}
	if shapes, ok := impl.ShapesOf(e); ok || len(shapes) != 0 {
		t.Errorf("ShapesOf(%v) = %v, %v", e, shapes, ok)
	}
	if uses, needed := impl.UsesOf(e), impl.NeededOf(e); len(uses) != 0 || len(needed) != 0 {
		t.Errorf("UsesOf(%v) = %v, NeededOf = %v", e, uses, needed)
	}
	inputs := make([]impl.Tensor, len(e.Inputs))
	for i, shape := range e.Inputs {
		inputs[i] = impl.Tensor{Shape: shape}
		if isShape(shape) {
			inputs[i] = filled(shape, 0)
		}
	}
	checkNoInputs(t, e, inputs)
}

// checkNoInputs fails if any function takes tensors as inputs of an expression.
func checkNoInputs(t *testing.T, e impl.Expr, inputs []impl.Tensor) {
	t.Helper()
	if impl.InputsOk(e, inputs) {
		t.Errorf("%v are inputs of %v", inputs, e)
	}
	checkNoValues(t, e, inputs)
}

func checkNoValues(t *testing.T, e impl.Expr, inputs []impl.Tensor) {
	t.Helper()
	if values, ok := impl.ValuesOf(e, inputs); ok || len(values) != 0 {
		t.Errorf("ValuesOf(%v, %v) = %v, %v", e, inputs, values, ok)
	}
	value, ok := impl.ValueOf(e, inputs)
	checkNone(t, fmt.Sprintf("ValueOf(%v, %v)", e, inputs), value, ok)
}

// checkExpr fails if any function tells anything else of nodes, be they an expression or none, than the words of the document. It reports whether they are one.
func checkExpr(t *testing.T, e impl.Expr) bool {
	t.Helper()
	want, ok := shapesByRule(e)
	if !ok {
		checkNoExpr(t, e)
		return false
	}
	if got, ok := impl.ShapesOf(e); !ok || !sameLists(got, want) {
		t.Errorf("ShapesOf(%v) = %v, %v, not %v", e, got, ok, want)
	}
	smooth := true
	for _, x := range e.Nodes {
		smooth = smooth && x.Op != impl.ExMax
	}
	if !impl.ExprOk(e) || impl.SmoothOk(e) != smooth {
		t.Errorf("%v: ExprOk is %v, SmoothOk is %v", e, impl.ExprOk(e), impl.SmoothOk(e))
	}
	if got, want := impl.UsesOf(e), usesByRule(e); !sameInts(got, want) {
		t.Errorf("UsesOf(%v) = %v, not %v", e, got, want)
	}
	needed := impl.NeededOf(e)
	if len(needed) != len(e.Nodes) {
		t.Fatalf("NeededOf(%v) = %v", e, needed)
	}
	for at, got := range needed {
		if want := neededByRule(e, at); got != want {
			t.Errorf("NeededOf(%v) has %v at %d", e, got, at)
		}
	}
	return true
}

// checkValues fails if the values of an expression are others than the words of the document tell, or have other shapes than its nodes. It reports whether there are values.
func checkValues(t *testing.T, e impl.Expr, inputs []impl.Tensor) bool {
	t.Helper()
	if !impl.InputsOk(e, inputs) {
		t.Fatalf("%v are no inputs of %v", inputs, e)
	}
	want, ok := valuesByRule(e, inputs)
	if !ok {
		checkNoValues(t, e, inputs)
		return false
	}
	name := fmt.Sprintf("of %v and %v", e, inputs)
	got, ok := impl.ValuesOf(e, inputs)
	if !ok || len(got) != len(want) {
		t.Fatalf("ValuesOf %s = %v, %v, not %v", name, got, ok, want)
	}
	shapes, _ := impl.ShapesOf(e)
	for at, value := range got {
		checkTensor(t, fmt.Sprintf("the value %d %s", at, name), value, true, want[at])
		if !impl.TensorOk(value) || !sameInts(value.Shape, shapes[at]) {
			t.Errorf("the value %d %s is %v, which has not the shape %v", at, name, value, shapes[at])
		}
	}
	last, ok := impl.ValueOf(e, inputs)
	checkTensor(t, "ValueOf "+name, last, ok, want[len(want)-1])
	return true
}

// inputsFor returns tensors of the shapes of inputs: noughts, small numbers, and such as soon grow too great.
func inputsFor(e impl.Expr) [][]impl.Tensor {
	list := make([][]impl.Tensor, 5)
	for i, shape := range e.Inputs {
		list[0] = append(list[0], filled(shape, 0))
		list[1] = append(list[1], mixed(shape, i))
		list[2] = append(list[2], numbered(shape, i-3))
		list[3] = append(list[3], filled(shape, impl.MaxNum))
		large := mixed(shape, i+3)
		for at := range large.Nums {
			large.Nums[at] *= 3000
		}
		list[4] = append(list[4], large)
	}
	return list
}

func TestLimitsOfExpressions(t *testing.T) {
	if impl.MaxInputs != 3 || impl.MaxNodes != 12 || impl.MaxConst != 9 {
		t.Errorf("MaxInputs = %d, MaxNodes = %d, MaxConst = %d", impl.MaxInputs, impl.MaxNodes, impl.MaxConst)
	}
	for want, kind := range allKinds {
		if kind != want {
			t.Errorf("the kind %d is %d", want, kind)
		}
	}
}

// Each kind by hand: the shape, and the value where all inputs are numbered from 1 on, one behind the other.
func TestKindsByHand(t *testing.T) {
	for _, c := range []struct {
		inputs [][]int
		nodes  []impl.Node
		want   impl.Tensor
	}{
		{[][]int{{2, 2}}, []impl.Node{input(0)}, tensorOf([]int{2, 2}, 1, 2, 3, 4)},
		{[][]int{{2}, {3}, {1}}, []impl.Node{input(2)}, tensorOf([]int{1}, 6)},
		{nil, []impl.Node{number(-9)}, tensorOf(nil, -9)},
		{nil, []impl.Node{number(0)}, tensorOf(nil, 0)},
		{[][]int{{2, 2}, {2}}, []impl.Node{input(0), input(1), node(impl.ExAdd, 0, 1)}, tensorOf([]int{2, 2}, 6, 8, 8, 10)},
		{[][]int{{2, 2}, {2}}, []impl.Node{input(0), input(1), node(impl.ExSub, 0, 1)}, tensorOf([]int{2, 2}, -4, -4, -2, -2)},
		{[][]int{{2, 2}, {2}}, []impl.Node{input(0), input(1), node(impl.ExSub, 1, 0)}, tensorOf([]int{2, 2}, 4, 4, 2, 2)},
		{[][]int{{2, 1}, {2}}, []impl.Node{input(0), input(1), node(impl.ExMul, 0, 1)}, tensorOf([]int{2, 2}, 3, 4, 6, 8)},
		{[][]int{{2, 2}}, []impl.Node{input(0), number(3), node(impl.ExMax, 0, 1)}, tensorOf([]int{2, 2}, 3, 3, 3, 4)},
		{[][]int{{3}}, []impl.Node{input(0), node(impl.ExNeg, 0, 0)}, tensorOf([]int{3}, -1, -2, -3)},
		{[][]int{{2, 3}}, []impl.Node{input(0), node(impl.ExSum, 0, 0, 0)}, tensorOf([]int{3}, 5, 7, 9)},
		{[][]int{{2, 3}}, []impl.Node{input(0), node(impl.ExSum, 0, 0, 1)}, tensorOf([]int{2}, 6, 15)},
		{[][]int{{4}}, []impl.Node{input(0), node(impl.ExSum, 0, 0, 0)}, tensorOf(nil, 10)},
		{[][]int{{2, 3}}, []impl.Node{input(0), node(impl.ExTurn, 0, 0, 1, 0)}, tensorOf([]int{3, 2}, 1, 4, 2, 5, 3, 6)},
		{nil, []impl.Node{number(5), node(impl.ExTurn, 0, 0)}, tensorOf(nil, 5)},
		{[][]int{{2, 3}}, []impl.Node{input(0), node(impl.ExFold, 0, 0, 1, 3, 2)}, tensorOf([]int{1, 3, 2}, 1, 2, 3, 4, 5, 6)},
		{[][]int{{1, 1}}, []impl.Node{input(0), node(impl.ExFold, 0, 0)}, tensorOf(nil, 1)},
		{[][]int{{2, 3}}, []impl.Node{input(0), node(impl.ExCut, 0, 0, 1, 1, 2)}, tensorOf([]int{2, 2}, 2, 3, 5, 6)},
		{[][]int{{2, 2}, {2, 1}}, []impl.Node{input(0), input(1), node(impl.ExBeside, 0, 1, 1)}, tensorOf([]int{2, 3}, 1, 2, 5, 3, 4, 6)},
		{[][]int{{2, 2}, {2, 1}}, []impl.Node{input(0), input(1), node(impl.ExBeside, 1, 0, 1)}, tensorOf([]int{2, 3}, 5, 1, 2, 6, 3, 4)},
		{[][]int{{1, 2}, {2, 1}}, []impl.Node{input(0), input(1), node(impl.ExProduct, 0, 1)}, tensorOf([]int{1, 1}, 11)},
		{[][]int{{1, 2}, {2, 1}}, []impl.Node{input(0), input(1), node(impl.ExProduct, 1, 0)}, tensorOf([]int{2, 2}, 3, 6, 4, 8)},
	} {
		e := exprOf(c.inputs, c.nodes...)
		var inputs []impl.Tensor
		first := 1
		for _, shape := range c.inputs {
			x := numbered(shape, first)
			inputs = append(inputs, x)
			first += len(x.Nums)
		}
		got, ok := impl.ValueOf(e, inputs)
		checkTensor(t, fmt.Sprintf("ValueOf(%v, %v)", e, inputs), got, ok, c.want)
		shapes, ok := impl.ShapesOf(e)
		if !ok || len(shapes) != len(c.nodes) || !sameInts(shapes[len(shapes)-1], c.want.Shape) {
			t.Errorf("ShapesOf(%v) = %v, %v, not %v in the end", e, shapes, ok, c.want.Shape)
		}
		checkExpr(t, e)
		checkValues(t, e, inputs)
	}
}

// Two inputs and their product, as in the document, are three nodes.
func TestProductOfTwoInputs(t *testing.T) {
	e := exprOf([][]int{{2, 3}, {3, 1}}, input(0), input(1), node(impl.ExProduct, 0, 1))
	inputs := []impl.Tensor{numbered([]int{2, 3}, 1), numbered([]int{3, 1}, 1)}
	values, ok := impl.ValuesOf(e, inputs)
	if !ok || len(values) != 3 {
		t.Fatalf("ValuesOf = %v, %v", values, ok)
	}
	checkTensor(t, "the first input", values[0], true, inputs[0])
	checkTensor(t, "the second input", values[1], true, inputs[1])
	checkTensor(t, "the product", values[2], true, tensorOf([]int{2, 1}, 14, 32))
	shapes, ok := impl.ShapesOf(e)
	if !ok || !sameLists(shapes, [][]int{{2, 3}, {3, 1}, {2, 1}}) {
		t.Errorf("ShapesOf = %v, %v", shapes, ok)
	}
	if uses := impl.UsesOf(e); !sameInts(uses, []int{1, 1, 0}) {
		t.Errorf("UsesOf = %v", uses)
	}
	for at, needed := range impl.NeededOf(e) {
		if !needed {
			t.Errorf("the node %d is not needed", at)
		}
	}
}

// listsFor returns further numbers of a kind with one part, good ones and bad ones.
func listsFor(kind int) [][]int {
	switch kind {
	case impl.ExSum:
		lists := listsOf(1, -1, 4)
		return append(lists, []int{farUp}, []int{farDown})
	case impl.ExTurn:
		return append(allTurns(), noTurns()...)
	case impl.ExFold:
		return append(allShapes(), noShapes()...)
	case impl.ExCut:
		lists := append(listsOf(3, -1, 5), []int{0, farUp, 1}, []int{0, 1, farUp}, []int{0, farUp, farUp}, []int{0, farDown, farDown})
		return append(lists, []int{farUp, 0, 1}, []int{farDown, 0, 1}, []int{0, farDown, 1}, []int{0, 0, farDown}, []int{0, 1, farDown}, []int{0, farDown, farUp})
	}
	return [][]int{{}}
}

// Each kind with one part, of each shape.
func TestKindsOfOnePart(t *testing.T) {
	for _, shape := range allShapes() {
		inputs := []impl.Tensor{numbered(shape, -5)}
		for _, kind := range []int{impl.ExNeg, impl.ExSum, impl.ExTurn, impl.ExFold, impl.ExCut} {
			some := false
			for _, list := range listsFor(kind) {
				e := exprOf([][]int{shape}, input(0), node(kind, 0, 0, list...))
				if checkExpr(t, e) {
					some = checkValues(t, e, inputs) || some
				}
			}
			if !some && len(shape) > 0 {
				t.Errorf("no node of the kind %d has a part of the shape %v", kind, shape)
			}
		}
	}
}

// Each kind with two parts, of each two shapes.
func TestKindsOfTwoParts(t *testing.T) {
	for _, a := range allShapes() {
		for _, b := range allShapes() {
			inputs := []impl.Tensor{mixed(a, 1), mixed(b, 2)}
			for _, kind := range []int{impl.ExAdd, impl.ExSub, impl.ExMul, impl.ExMax, impl.ExProduct} {
				e := exprOf([][]int{a, b}, input(0), input(1), node(kind, 0, 1))
				if checkExpr(t, e) && !checkValues(t, e, inputs) {
					t.Errorf("%v has no value", e)
				}
			}
			for axis := -1; axis <= 3; axis++ {
				e := exprOf([][]int{a, b}, input(0), input(1), node(impl.ExBeside, 0, 1, axis))
				if checkExpr(t, e) && !checkValues(t, e, inputs) {
					t.Errorf("%v has no value", e)
				}
			}
		}
	}
}

// One node may be both parts of another one.
func TestKindsOfOnePartTwice(t *testing.T) {
	for _, shape := range allShapes() {
		for _, kind := range []int{impl.ExAdd, impl.ExSub, impl.ExMul, impl.ExMax, impl.ExProduct} {
			e := exprOf([][]int{shape}, input(0), node(kind, 0, 0))
			if checkExpr(t, e) {
				checkValues(t, e, []impl.Tensor{mixed(shape, 3)})
			}
		}
		for axis := range 3 {
			e := exprOf([][]int{shape}, input(0), node(impl.ExBeside, 0, 0, axis))
			if checkExpr(t, e) {
				checkValues(t, e, []impl.Tensor{mixed(shape, 3)})
			}
		}
	}
}

// whole returns an expression with a node of each kind, of as many nodes and inputs as there may be.
func whole() impl.Expr {
	return exprOf([][]int{{2, 2}, {2}, {4, 1, 1}},
		input(0), number(9), node(impl.ExAdd, 0, 1), node(impl.ExSub, 2, 0), node(impl.ExMax, 3, 2), node(impl.ExNeg, 4, 0),
		node(impl.ExTurn, 5, 0, 1, 0), node(impl.ExProduct, 6, 5), node(impl.ExBeside, 7, 0, 1), node(impl.ExCut, 8, 0, 1, 1, 2),
		node(impl.ExFold, 9, 0, 4), node(impl.ExSum, 10, 0, 0),
	)
}

func wholeInputs() []impl.Tensor {
	return []impl.Tensor{tensorOf([]int{2, 2}, 1, 2, 3, 4), tensorOf([]int{2}, 5, 6), tensorOf([]int{4, 1, 1}, 1, 2, 3, 4)}
}

func TestWholeExpression(t *testing.T) {
	e := whole()
	checkExpr(t, e)
	checkValues(t, e, wholeInputs())
	want := []impl.Tensor{
		tensorOf([]int{2, 2}, 1, 2, 3, 4), tensorOf(nil, 9), tensorOf([]int{2, 2}, 10, 11, 12, 13), tensorOf([]int{2, 2}, 9, 9, 9, 9),
		tensorOf([]int{2, 2}, 10, 11, 12, 13), tensorOf([]int{2, 2}, -10, -11, -12, -13), tensorOf([]int{2, 2}, -10, -12, -11, -13),
		tensorOf([]int{2, 2}, 244, 266, 266, 290), tensorOf([]int{2, 4}, 244, 266, 1, 2, 266, 290, 3, 4), tensorOf([]int{2, 2}, 266, 1, 290, 3),
		tensorOf([]int{4}, 266, 1, 290, 3), tensorOf(nil, 560),
	}
	values, ok := impl.ValuesOf(e, wholeInputs())
	if !ok || len(values) != len(want) {
		t.Fatalf("ValuesOf = %v, %v", values, ok)
	}
	for at, value := range values {
		checkTensor(t, fmt.Sprintf("the value %d", at), value, true, want[at])
	}
	if uses := impl.UsesOf(e); !sameInts(uses, []int{3, 1, 2, 1, 1, 2, 1, 1, 1, 1, 1, 0}) {
		t.Errorf("UsesOf = %v", uses)
	}
}

func TestTooManyOrTooFewNodesAndInputs(t *testing.T) {
	checkNoExpr(t, impl.Expr{})
	checkNoExpr(t, exprOf([][]int{{2}}))
	for many := 1; many <= 15; many++ {
		var e impl.Expr
		for range many {
			e.Nodes = append(e.Nodes, number(1))
		}
		if got := checkExpr(t, e); got != (many <= 12) {
			t.Errorf("%d nodes are an expression: %v", many, got)
		}
	}
	checkNoExpr(t, impl.Expr{Nodes: make([]impl.Node, 1000)})
	for many := 0; many <= 6; many++ {
		e := exprOf(nil, number(1))
		for range many {
			e.Inputs = append(e.Inputs, []int{2})
		}
		if got := checkExpr(t, e); got != (many <= 3) {
			t.Errorf("%d inputs are those of an expression: %v", many, got)
		}
	}
	checkNoExpr(t, impl.Expr{Inputs: make([][]int, 1000), Nodes: []impl.Node{number(1)}})
}

// An input whose shape is none is none, also if no node is it.
func TestInputsOfNoShape(t *testing.T) {
	for _, shape := range noShapes() {
		for at := range 3 {
			e := exprOf([][]int{{2}, {1, 4}, nil}, input(0))
			e.Inputs[at] = shape
			checkNoExpr(t, e)
			checkNoExpr(t, exprOf(e.Inputs, number(1)))
		}
	}
}

func TestKindsThatAreNone(t *testing.T) {
	for _, kind := range []int{-1, 13, 14, 100, farUp, farDown} {
		for _, lists := range listsOf(2, 0, 1) {
			checkNoExpr(t, exprOf([][]int{nil}, input(0), input(0), node(kind, lists[0], lists[1])))
		}
		checkNoExpr(t, exprOf(nil, node(kind, 0, 0)))
		for at := range whole().Nodes {
			e := whole()
			e.Nodes[at].Op = kind
			checkNoExpr(t, e)
		}
	}
}

func TestNodesThatAreNotAhead(t *testing.T) {
	for at := range whole().Nodes {
		for _, part := range []int{-1, -12, at, at + 1, 11, 12, 13, farUp, farDown} {
			e := whole()
			parts := partsByRule(e.Nodes[at])
			if part >= 0 && part < at || len(parts) == 0 {
				continue
			}
			e.Nodes[at].A = part
			checkNoExpr(t, e)
			if len(parts) == 2 {
				e = whole()
				e.Nodes[at].B = part
				checkNoExpr(t, e)
			}
		}
	}
	// The first node has none ahead of it, so it is an input or a number.
	for _, kind := range allKinds[2:] {
		for _, list := range [][]int{{}, {0}, {0, 0, 1}} {
			checkNoExpr(t, exprOf([][]int{{1}}, node(kind, 0, 0, list...)))
			checkNoExpr(t, exprOf([][]int{{1}}, node(kind, 0, 0, list...), input(0)))
		}
	}
}

func TestInputsThatAreNone(t *testing.T) {
	for many := 0; many <= 3; many++ {
		inputs := [][]int{{2}, {2, 2}, nil}[:many]
		for at := -2; at <= 5; at++ {
			if got := checkExpr(t, exprOf(inputs, input(at))); got != (at >= 0 && at < many) {
				t.Errorf("one of %d inputs is %d: %v", many, at, got)
			}
		}
		checkNoExpr(t, exprOf(inputs, input(farUp)))
		checkNoExpr(t, exprOf(inputs, input(farDown)))
	}
}

func TestNumbersOfExpressions(t *testing.T) {
	for num := -9; num <= 9; num++ {
		e := exprOf(nil, number(num))
		checkExpr(t, e)
		value, ok := impl.ValueOf(e, nil)
		checkTensor(t, fmt.Sprintf("the number %d", num), value, ok, tensorOf(nil, num))
	}
	for _, num := range []int{10, -10, 11, 1000, impl.MaxNum, -impl.MaxNum, farUp, farDown} {
		checkNoExpr(t, exprOf(nil, number(num)))
		checkNoExpr(t, exprOf(nil, number(num), number(1)))
	}
}

// What a kind does not have is 0, or nothing.
func TestNodesWithWhatTheirKindHasNot(t *testing.T) {
	for at, x := range whole().Nodes {
		if len(partsByRule(x)) < 2 {
			for _, b := range []int{1, -1, at, farUp, farDown} {
				e := whole()
				e.Nodes[at].B = b
				if b != 0 {
					checkNoExpr(t, e)
				}
			}
		}
		for _, extra := range [][]int{{0}, {5}, {0, 0}, {-1, -1}, make([]int, 1000)} {
			e := whole()
			e.Nodes[at].List = append(copyInts(x.List), extra...)
			checkNoExpr(t, e)
			e.Nodes[at].List = append(copyInts(extra), x.List...)
			checkNoExpr(t, e)
		}
		if len(x.List) > 0 {
			e := whole()
			e.Nodes[at].List = nil
			checkNoExpr(t, e)
			e.Nodes[at].List = x.List[1:]
			checkNoExpr(t, e)
			e.Nodes[at].List = x.List[:len(x.List)-1]
			checkNoExpr(t, e)
		}
	}
}

// What no node has together is no expression, also in a node that nothing needs.
func TestPartsThatHaveNoShapeTogether(t *testing.T) {
	inputs := [][]int{{2, 2}, {3}, {2, 1, 2}}
	for _, x := range []impl.Node{
		node(impl.ExAdd, 0, 1), node(impl.ExSub, 1, 0), node(impl.ExMul, 2, 1), node(impl.ExMax, 0, 1),
		node(impl.ExSum, 0, 0, 2), node(impl.ExSum, 1, 0, 1), node(impl.ExSum, 2, 0, -1),
		node(impl.ExTurn, 0, 0, 0, 1, 2), node(impl.ExTurn, 0, 0, 0, 0), node(impl.ExTurn, 1, 0), node(impl.ExTurn, 2, 0, 0, 1),
		node(impl.ExFold, 0, 0, 3), node(impl.ExFold, 0, 0), node(impl.ExFold, 1, 0, 3, 1, 1, 1), node(impl.ExFold, 2, 0, -2, -2), node(impl.ExFold, 2, 0, 5),
		node(impl.ExCut, 0, 0, 2, 0, 1), node(impl.ExCut, 0, 0, 0, 2, 1), node(impl.ExCut, 1, 0, 0, 1, 3), node(impl.ExCut, 1, 0, 0, 0, 0), node(impl.ExCut, 1, 0, 0, -1, 2),
		node(impl.ExBeside, 0, 1, 0), node(impl.ExBeside, 1, 1, 0), node(impl.ExBeside, 0, 0, 2), node(impl.ExBeside, 0, 2, 0), node(impl.ExBeside, 0, 0, -1),
		node(impl.ExProduct, 0, 1), node(impl.ExProduct, 1, 1), node(impl.ExProduct, 2, 0), node(impl.ExProduct, 2, 2),
	} {
		checkNoExpr(t, exprOf(inputs, input(0), input(1), input(2), x))
		checkNoExpr(t, exprOf(inputs, input(0), input(1), input(2), x, input(0)))
	}
}

func TestInputsOk(t *testing.T) {
	e := whole()
	good := wholeInputs()
	if !impl.InputsOk(e, good) {
		t.Fatalf("%v are no inputs", good)
	}
	checkNoInputs(t, e, nil)
	checkNoInputs(t, e, good[:1])
	checkNoInputs(t, e, good[:2])
	checkNoInputs(t, e, append(append([]impl.Tensor{}, good...), good[0]))
	checkNoInputs(t, e, append(append([]impl.Tensor{}, good...), impl.Tensor{}))
	checkNoInputs(t, e, make([]impl.Tensor, 1000))
	checkNoInputs(t, e, []impl.Tensor{good[1], good[0], good[2]})
	// The second and the third input are no node, and are to be tensors of their shapes all the same.
	for at := range good {
		bad := noTensors()
		for _, shape := range allShapes() {
			if !sameInts(shape, e.Inputs[at]) {
				bad = append(bad, filled(shape, 1))
			}
		}
		for _, num := range []int{impl.MaxNum + 1, -impl.MaxNum - 1, farUp, farDown} {
			for index := range good[at].Nums {
				bad = append(bad, tensorOf(good[at].Shape, with(good[at].Nums, index, num)...))
			}
		}
		for _, x := range bad {
			inputs := wholeInputs()
			inputs[at] = x
			checkNoInputs(t, e, inputs)
		}
	}
	// Without inputs nothing is one of them.
	none := exprOf(nil, number(3))
	if !impl.InputsOk(none, nil) || !impl.InputsOk(none, []impl.Tensor{}) {
		t.Error("no tensors are not the inputs of an expression without any")
	}
	checkNoInputs(t, none, []impl.Tensor{tensorOf(nil, 1)})
	checkNoInputs(t, none, []impl.Tensor{{}})
	// An expression that is none has no inputs.
	for _, bad := range []impl.Expr{{}, exprOf(nil, number(10)), exprOf([][]int{{2, 2}, {2}, {4, 1, 1}}, number(10)), exprOf([][]int{{2, 2}, {2}, {4, 1, 1}})} {
		checkNoInputs(t, bad, nil)
		checkNoInputs(t, bad, good)
	}
}

// Inputs with the greatest numbers there are can be inputs.
func TestInputsAtTheLimit(t *testing.T) {
	for _, shape := range allShapes() {
		for _, num := range []int{impl.MaxNum, -impl.MaxNum} {
			e := exprOf([][]int{shape}, input(0), node(impl.ExNeg, 0, 0), node(impl.ExMax, 0, 1))
			if !checkExpr(t, e) || !checkValues(t, e, []impl.Tensor{filled(shape, num)}) {
				t.Errorf("%v has no value", e)
			}
		}
	}
}

// Where numbers grow too great there is no value, be the node needed or not, but the shapes stay.
func TestNumbersThatGrowTooGreat(t *testing.T) {
	const most = impl.MaxNum
	for _, c := range []struct {
		x    impl.Node
		a, b impl.Tensor
		ok   bool
	}{
		{node(impl.ExAdd, 0, 1), tensorOf([]int{2}, 0, most-1), tensorOf(nil, 1), true},
		{node(impl.ExAdd, 0, 1), tensorOf([]int{2}, 0, most), tensorOf(nil, 1), false},
		{node(impl.ExAdd, 0, 0), tensorOf([]int{2}, 0, -500000001), tensorOf(nil, 1), false},
		{node(impl.ExSub, 0, 1), tensorOf([]int{2}, 1-most, 0), tensorOf(nil, 1), true},
		{node(impl.ExSub, 0, 1), tensorOf([]int{2}, -most, 0), tensorOf(nil, 1), false},
		{node(impl.ExMul, 0, 0), tensorOf([]int{2}, 31622, 0), tensorOf(nil, 0), true},
		{node(impl.ExMul, 0, 0), tensorOf([]int{2}, 31623, 0), tensorOf(nil, 0), false},
		{node(impl.ExMul, 0, 1), tensorOf([]int{2}, most, most), tensorOf(nil, most), false},
		{node(impl.ExMax, 0, 1), tensorOf([]int{2}, most, -most), tensorOf(nil, -most), true},
		{node(impl.ExNeg, 0, 0), tensorOf([]int{2}, most, -most), tensorOf(nil, 0), true},
		{node(impl.ExSum, 0, 0, 0), tensorOf([]int{2}, most-1, 1), tensorOf(nil, 0), true},
		{node(impl.ExSum, 0, 0, 0), tensorOf([]int{2}, most, 1), tensorOf(nil, 0), false},
		{node(impl.ExBeside, 0, 0, 0), tensorOf([]int{2}, most, -most), tensorOf(nil, 0), true},
		{node(impl.ExProduct, 0, 1), tensorOf([]int{1, 2}, most, 1), tensorOf([]int{2, 1}, 1, 0), true},
		{node(impl.ExProduct, 0, 1), tensorOf([]int{1, 2}, most, 1), tensorOf([]int{2, 1}, 1, 1), false},
	} {
		shapes := [][]int{c.a.Shape, c.b.Shape}
		inputs := []impl.Tensor{c.a, c.b}
		for _, e := range []impl.Expr{
			exprOf(shapes, input(0), input(1), c.x),
			exprOf(shapes, input(0), input(1), c.x, number(1)),
			exprOf(shapes, input(0), input(1), c.x, node(impl.ExMax, 0, 1)),
			exprOf(shapes, input(0), input(1), c.x, node(impl.ExSub, 2, 2)),
		} {
			if !checkExpr(t, e) {
				t.Errorf("%v is no expression", e)
			}
			if got := checkValues(t, e, inputs); got != c.ok {
				t.Errorf("%v of %v has a value: %v", e, inputs, got)
			}
			if !checkValues(t, e, []impl.Tensor{filled(c.a.Shape, 0), filled(c.b.Shape, 0)}) {
				t.Errorf("%v of noughts has no value", e)
			}
		}
	}
}

// Numbers alone can grow too great: 9 nine times is a tensor, ten times it is none, and an expression all the same.
func TestPowersOfNine(t *testing.T) {
	e := exprOf(nil, number(9))
	power := 9
	for at := 1; at < 12; at++ {
		// Each node is the one ahead of it times 9.
		e.Nodes = append(e.Nodes, node(impl.ExMul, at-1, 0))
		power *= 9
		checkExpr(t, e)
		ok := checkValues(t, e, nil)
		if want := at < 9; ok != want {
			t.Errorf("%d nodes have a value: %v", at+1, ok)
		}
		if value, _ := impl.ValueOf(e, nil); ok && !sameTensor(value, tensorOf(nil, power)) {
			t.Errorf("9 times itself %d times is %v, not %d", at, value, power)
		}
	}
}

// Squares of squares: a part that is used twice grows beyond what 64 bits hold, were it not none by then.
func TestSquaresOfSquares(t *testing.T) {
	e := exprOf([][]int{{2}}, input(0))
	for at := 1; at < 12; at++ {
		e.Nodes = append(e.Nodes, node(impl.ExMul, at-1, at-1))
		checkExpr(t, e)
		for num, most := range []int{11, 11, 4, 4, 3, 3, 3} {
			if got := checkValues(t, e, []impl.Tensor{tensorOf([]int{2}, -num, num)}); got != (at <= most) {
				t.Errorf("%d squares of %d have a value: %v", at, num, got)
			}
		}
		if uses := impl.UsesOf(e); uses[at] != 0 || uses[at-1] != 2 || uses[0] != 2 {
			t.Errorf("UsesOf = %v", uses)
		}
	}
}

func TestUsesOfByHand(t *testing.T) {
	shapes := [][]int{{2}, {2}}
	for _, c := range []struct {
		nodes []impl.Node
		want  []int
	}{
		{[]impl.Node{input(0)}, []int{0}},
		{[]impl.Node{number(0), number(1)}, []int{0, 0}},
		// A of an input is an input, and A of a number a number, but no node; nor is B that a kind does not have.
		{[]impl.Node{input(0), input(1), input(1), input(0)}, []int{0, 0, 0, 0}},
		{[]impl.Node{input(0), number(1), number(0), node(impl.ExNeg, 1, 0)}, []int{0, 1, 0, 0}},
		{[]impl.Node{input(0), input(1), node(impl.ExSum, 1, 0, 0), node(impl.ExCut, 1, 0, 0, 0, 1)}, []int{0, 2, 0, 0}},
		{[]impl.Node{input(0), input(1), node(impl.ExTurn, 1, 0, 0), node(impl.ExFold, 1, 0, 1, 2)}, []int{0, 2, 0, 0}},
		{[]impl.Node{input(0), node(impl.ExAdd, 0, 0)}, []int{2, 0}},
		{[]impl.Node{input(0), node(impl.ExMul, 0, 0), node(impl.ExSub, 0, 1), node(impl.ExMax, 2, 1)}, []int{3, 2, 1, 0}},
		{[]impl.Node{input(0), input(1), node(impl.ExBeside, 1, 0, 0), node(impl.ExBeside, 0, 0, 0)}, []int{3, 1, 0, 0}},
		{[]impl.Node{input(0), node(impl.ExFold, 0, 0, 2, 1), node(impl.ExFold, 0, 0, 1, 2), node(impl.ExProduct, 1, 2)}, []int{2, 1, 1, 0}},
		// Nodes that nothing needs use their parts, too.
		{[]impl.Node{input(0), node(impl.ExNeg, 0, 0), node(impl.ExNeg, 1, 0), input(1)}, []int{1, 1, 0, 0}},
	} {
		e := exprOf(shapes, c.nodes...)
		if got := impl.UsesOf(e); !sameInts(got, c.want) {
			t.Errorf("UsesOf(%v) = %v, not %v", e, got, c.want)
		}
		checkExpr(t, e)
	}
}

func TestNeededOfByHand(t *testing.T) {
	shapes := [][]int{{2}, {2}}
	for _, c := range []struct {
		nodes []impl.Node
		want  []bool
	}{
		{[]impl.Node{input(0)}, []bool{true}},
		{[]impl.Node{input(0), input(1)}, []bool{false, true}},
		{[]impl.Node{input(0), input(1), number(1)}, []bool{false, false, true}},
		{[]impl.Node{input(0), number(1), node(impl.ExNeg, 1, 0)}, []bool{false, true, true}},
		{[]impl.Node{input(0), number(1), node(impl.ExSub, 1, 0)}, []bool{true, true, true}},
		{[]impl.Node{input(0), input(1), node(impl.ExAdd, 0, 1), node(impl.ExMul, 0, 0)}, []bool{true, false, false, true}},
		// A part of a node that is not needed is not needed either, and one of both is.
		{[]impl.Node{input(0), node(impl.ExNeg, 0, 0), node(impl.ExNeg, 1, 0), input(1)}, []bool{false, false, false, true}},
		{[]impl.Node{input(0), node(impl.ExNeg, 0, 0), node(impl.ExNeg, 1, 0), node(impl.ExNeg, 0, 0)}, []bool{true, false, false, true}},
		// The last node stands behind one that has all others as parts.
		{[]impl.Node{input(0), input(1), node(impl.ExMax, 0, 1), node(impl.ExSum, 1, 0, 0)}, []bool{false, true, false, true}},
		{[]impl.Node{input(0), input(1), node(impl.ExBeside, 0, 1, 0), node(impl.ExCut, 2, 0, 0, 0, 2)}, []bool{true, true, true, true}},
		{[]impl.Node{number(1), number(2), number(3), node(impl.ExAdd, 0, 2), node(impl.ExAdd, 1, 1), node(impl.ExMul, 3, 2)}, []bool{true, false, true, true, false, true}},
	} {
		e := exprOf(shapes, c.nodes...)
		got := impl.NeededOf(e)
		if fmt.Sprint(got) != fmt.Sprint(c.want) {
			t.Errorf("NeededOf(%v) = %v, not %v", e, got, c.want)
		}
		checkExpr(t, e)
	}
}

// Only ExMax is not smooth, needed or not.
func TestSmoothOk(t *testing.T) {
	for _, x := range []impl.Node{
		input(0), number(1), node(impl.ExAdd, 0, 0), node(impl.ExSub, 0, 0), node(impl.ExMul, 0, 0), node(impl.ExMax, 0, 0), node(impl.ExNeg, 0, 0),
		node(impl.ExSum, 0, 0, 0), node(impl.ExTurn, 0, 0, 1, 0), node(impl.ExFold, 0, 0, 4), node(impl.ExCut, 0, 0, 0, 0, 1),
		node(impl.ExBeside, 0, 0, 0), node(impl.ExProduct, 0, 0),
	} {
		e := exprOf([][]int{{2, 2}}, input(0), x)
		for _, e := range []impl.Expr{e, more(e, number(1)), more(e, node(impl.ExNeg, 1, 0))} {
			if !impl.ExprOk(e) || impl.SmoothOk(e) != (x.Op != impl.ExMax) {
				t.Errorf("SmoothOk(%v) = %v", e, impl.SmoothOk(e))
			}
		}
	}
	if impl.SmoothOk(impl.Expr{}) || impl.SmoothOk(exprOf(nil, number(10))) || impl.SmoothOk(exprOf(nil, input(0))) {
		t.Error("what is no expression is smooth")
	}
}

// dice tell one number after the other, always the same ones.
type dice struct{ state uint64 }

func (d *dice) below(many int) int {
	d.state = d.state*6364136223846793005 + 1442695040888963407
	return int(d.state >> 33 % uint64(many))
}

func (d *dice) shape() []int {
	shape := make([]int, d.below(impl.MaxAxes+1))
	for axis := range shape {
		shape[axis] = 1 + d.below(impl.MaxAxis)
	}
	return shape
}

// list returns further numbers for a node of a kind, most of them good ones for a part of a shape.
func (d *dice) list(kind int, shape []int) []int {
	axis := d.below(len(shape) + 1)
	switch kind {
	case impl.ExSum, impl.ExBeside:
		return []int{axis}
	case impl.ExTurn:
		turns := allTurns()
		return turns[d.below(len(turns))]
	case impl.ExFold:
		return d.shape()
	case impl.ExCut:
		return []int{axis, d.below(3), 1 + d.below(3)}
	}
	return nil
}

// node returns a node of a kind behind others of shapes.
func (d *dice) node(kind, inputs int, shapes [][]int) impl.Node {
	a, b := d.below(len(shapes)), d.below(len(shapes))
	x := node(kind, a, b, d.list(kind, shapes[a])...)
	switch kind {
	case impl.ExInput:
		x.A = d.below(inputs)
	case impl.ExConst:
		x.A = d.below(19) - 9
	}
	if len(partsByRule(x)) < 2 {
		x.B = 0
	}
	return x
}

// more returns an expression with a node behind it.
func more(e impl.Expr, x impl.Node) impl.Expr {
	e = copyExpr(e)
	e.Nodes = append(e.Nodes, x)
	return e
}

// expr returns an expression of so many nodes: for each of them a kind, and the first node of that kind that has a shape, or else an input.
func (d *dice) expr(nodes int) impl.Expr {
	var e impl.Expr
	for range 1 + d.below(impl.MaxInputs) {
		e.Inputs = append(e.Inputs, d.shape())
	}
	e.Nodes = []impl.Node{input(0)}
	for len(e.Nodes) < nodes {
		e = d.longer(e)
	}
	return e
}

func (d *dice) longer(e impl.Expr) impl.Expr {
	shapes, _ := shapesByRule(e)
	kind := d.below(len(allKinds))
	for range 30 {
		longer := more(e, d.node(kind, len(e.Inputs), shapes))
		if _, ok := shapesByRule(longer); ok {
			return longer
		}
	}
	return more(e, input(d.below(len(e.Inputs))))
}

// Promise 3: each node has its shape, whatever the inputs: whenever there are values, each has the shape of its node, and with noughts in place of numbers there always are.
func TestEachNodeHasItsShape(t *testing.T) {
	d := &dice{state: 3}
	kinds := make([]int, len(allKinds))
	valued, tooGreat, idle := 0, 0, 0
	for range 3000 {
		e := d.expr(1 + d.below(impl.MaxNodes))
		if !checkExpr(t, e) {
			t.Fatalf("%v is no expression", e)
		}
		for at, x := range e.Nodes {
			kinds[x.Op]++
			if !neededByRule(e, at) {
				idle++
			}
		}
		for _, inputs := range inputsFor(e) {
			if checkValues(t, e, inputs) {
				valued++
			} else {
				tooGreat++
			}
		}
		zero := copyExpr(e)
		for at := range zero.Nodes {
			if zero.Nodes[at].Op == impl.ExConst {
				zero.Nodes[at].A = 0
			}
		}
		if !checkValues(t, zero, inputsFor(e)[0]) {
			t.Errorf("%v of noughts has no value", zero)
		}
	}
	// These are so many that none of the above is told of nothing.
	for kind, many := range kinds {
		if many < 100 {
			t.Errorf("only %d nodes of the kind %d", many, kind)
		}
	}
	if valued < 3000 || tooGreat < 1000 || idle < 3000 {
		t.Errorf("%d values, %d that grow too great, %d nodes that nothing needs", valued, tooGreat, idle)
	}
}

// spoil puts none to two odd numbers into nodes of an expression, which may be none then.
func (d *dice) spoil(e impl.Expr, odd []int) {
	for range d.below(3) {
		x := &e.Nodes[d.below(len(e.Nodes))]
		num := odd[d.below(len(odd))]
		switch d.below(6) {
		case 0:
			x.Op = num
		case 1:
			x.A = num
		case 2:
			x.B = num
		case 3:
			x.List = append(copyInts(x.List), num)
		case 4:
			if len(x.List) > 0 {
				x.List = with(x.List, d.below(len(x.List)), num)
			}
		case 5:
			if len(x.List) > 0 {
				x.List = x.List[1:]
			}
		}
	}
}

// Whatever nodes are told, good or bad, there is an answer, and it is that of the words of the document.
func TestAnyNodes(t *testing.T) {
	d := &dice{state: 4}
	odd := []int{-1, 0, 0, 1, 2, 3, 4, 5, 9, 10, -9, -10, 12, 13, farUp, farDown}
	some := 0
	for range 20000 {
		e := d.expr(2 + d.below(6))
		d.spoil(e, odd)
		if checkExpr(t, e) {
			some++
			checkValues(t, e, inputsFor(e)[1])
		}
	}
	if some < 5000 || some > 15000 {
		t.Errorf("%d of 20000 are expressions", some)
	}
}

// spareNode is what stands behind the end of guarded nodes.
func spareNode() impl.Node {
	return node(impl.ExConst, spare, spare, spare)
}

// guardedExpr returns an expression all of whose lists have unused capacity, filled with a mark.
func guardedExpr(e impl.Expr) impl.Expr {
	var g impl.Expr
	for _, shape := range e.Inputs {
		g.Inputs = append(g.Inputs, guarded(shape))
	}
	for _, x := range e.Nodes {
		g.Nodes = append(g.Nodes, node(x.Op, x.A, x.B, guarded(x.List)...))
	}
	g.Inputs = append(g.Inputs, []int{spare}, []int{spare})[:len(e.Inputs)]
	g.Nodes = append(g.Nodes, spareNode(), spareNode())[:len(e.Nodes)]
	return g
}

func sameNode(a, b impl.Node) bool {
	return a.Op == b.Op && a.A == b.A && a.B == b.B && sameInts(a.List, b.List)
}

func checkGuardedExpr(t *testing.T, name string, e, was impl.Expr) {
	t.Helper()
	for i, shape := range e.Inputs {
		checkGuarded(t, name, shape, was.Inputs[i])
	}
	for at, x := range e.Nodes {
		if !sameNode(x, was.Nodes[at]) {
			t.Errorf("%s changed a node from %v to %v", name, was.Nodes[at], x)
		}
		checkGuarded(t, name, x.List, was.Nodes[at].List)
	}
	for i, shape := range e.Inputs[len(e.Inputs) : len(e.Inputs)+2] {
		if !sameInts(shape, []int{spare}) {
			t.Errorf("%s wrote %v behind the inputs of an argument, at %d", name, shape, i)
		}
	}
	for i, x := range e.Nodes[len(e.Nodes) : len(e.Nodes)+2] {
		if !sameNode(x, spareNode()) {
			t.Errorf("%s wrote %v behind the nodes of an argument, at %d", name, x, i)
		}
	}
}

// scribbleLists writes over all lists of a result, and fails if writing over one of them changes another one.
func scribbleLists(t *testing.T, name string, lists [][]int) {
	t.Helper()
	for i, list := range lists {
		var later [][]int
		for _, other := range lists[i+1:] {
			later = append(later, copyInts(other))
		}
		scribble(list)
		if !sameLists(later, lists[i+1:]) {
			t.Errorf("%s shares its list %d with another one", name, i)
		}
	}
}

// Nothing that is returned is part of an argument, or of anything else that is returned, and nothing is kept.
func TestExpressionsShareNoMemory(t *testing.T) {
	d := &dice{state: 5}
	list := []impl.Expr{whole(), exprOf([][]int{{2, 2}}, input(0), input(0), input(0), node(impl.ExFold, 0, 0, 2, 2), node(impl.ExTurn, 3, 0, 0, 1), node(impl.ExCut, 4, 0, 0, 0, 2))}
	for range 300 {
		list = append(list, d.expr(12))
	}
	for _, was := range list {
		e := guardedExpr(was)
		wasInputs := inputsFor(was)[1]
		var inputs []impl.Tensor
		for _, x := range wasInputs {
			inputs = append(inputs, guardedTensor(x))
		}
		inputs = append(inputs, tensorOf(nil, spare), tensorOf(nil, spare))[:len(wasInputs)]
		// Twice, as what is written over the first time might be kept for the second one.
		for range 2 {
			checkExpr(t, e)
			checkValues(t, e, inputs)
			shapes, _ := impl.ShapesOf(e)
			scribbleLists(t, "ShapesOf", shapes)
			scribble(impl.UsesOf(e))
			needed := impl.NeededOf(e)
			for at := range needed {
				needed[at] = !needed[at]
			}
			values, _ := impl.ValuesOf(e, inputs)
			var lists [][]int
			for _, x := range values {
				lists = append(lists, x.Shape, x.Nums)
			}
			scribbleLists(t, "ValuesOf", lists)
			value, _ := impl.ValueOf(e, inputs)
			scribbleTensor(t, "ValueOf", value)
			checkGuardedExpr(t, "a function of chapter 3", e, was)
			for i, x := range inputs {
				checkGuardedTensor(t, "a function of chapter 3", x, wasInputs[i])
			}
			for _, x := range inputs[len(inputs) : len(inputs)+2] {
				checkTensor(t, "what stands behind the inputs", x, true, tensorOf(nil, spare))
			}
		}
	}
}
