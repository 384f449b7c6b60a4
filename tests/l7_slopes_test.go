package tests

import (
	"fmt"
	"math/big"
	"slices"
	"testing"

	"loop.example/wholetensors/impl"
)

// dual is a number and its slope, neither of which is ever too great.
type dual struct{ num, slope *big.Int }

func dualOf(num, slope int) dual {
	return dual{big.NewInt(int64(num)), big.NewInt(int64(slope))}
}

func (x dual) plus(y dual) dual {
	return dual{new(big.Int).Add(x.num, y.num), new(big.Int).Add(x.slope, y.slope)}
}

func (x dual) times(y dual) dual {
	a, b := new(big.Int).Mul(x.slope, y.num), new(big.Int).Mul(x.num, y.slope)
	return dual{new(big.Int).Mul(x.num, y.num), a.Add(a, b)}
}

func (x dual) negative() dual {
	return dual{new(big.Int).Neg(x.num), new(big.Int).Neg(x.slope)}
}

// within reports whether a number is beyond a limit neither way.
func within(num *big.Int, most int64) bool {
	return num.CmpAbs(big.NewInt(most)) <= 0
}

// placeIndex counts the places of a shape ahead of one.
func placeIndex(shape, place []int) int {
	index := 0
	for axis, size := range shape {
		index = index*size + place[axis]
	}
	return index
}

// dualAt tells by the words of the document what a node with parts has at a place, of its parts.
func dualAt(x impl.Node, place []int, shapes [][]int, duals [][]dual) dual {
	shapeA, shapeB := shapes[x.A], shapes[x.B]
	a := func(place []int) dual { return duals[x.A][placeIndex(shapeA, place)] }
	b := func(place []int) dual { return duals[x.B][placeIndex(shapeB, place)] }
	switch x.Op {
	case impl.ExNeg:
		return a(place).negative()
	case impl.ExSum:
		axis, sum := x.List[0], dualOf(0, 0)
		for k := range shapeA[axis] {
			sum = sum.plus(a(slices.Insert(copyInts(place), axis, k)))
		}
		return sum
	case impl.ExTurn:
		from := copyInts(place)
		for i, axis := range x.List {
			from[axis] = place[i]
		}
		return a(from)
	case impl.ExFold:
		return duals[x.A][placeIndex(x.List, place)]
	case impl.ExCut:
		return a(with(place, x.List[0], place[x.List[0]]+x.List[1]))
	case impl.ExBeside:
		axis := x.List[0]
		if first := shapeA[axis]; place[axis] >= first {
			return b(with(place, axis, place[axis]-first))
		}
		return a(place)
	case impl.ExProduct:
		sum := dualOf(0, 0)
		for k := range shapeA[1] {
			sum = sum.plus(a([]int{place[0], k}).times(b([]int{k, place[1]})))
		}
		return sum
	}
	p, q := duals[x.A][spreadByRule(shapeA, place)], duals[x.B][spreadByRule(shapeB, place)]
	switch x.Op {
	case impl.ExAdd:
		return p.plus(q)
	case impl.ExSub:
		return p.plus(q.negative())
	}
	return p.times(q)
}

// dualsByRule tells by the words of the document the numbers of all nodes, and their slopes along directions of the inputs, of which there may be none, and along 1 at one index of one node, if there is such a node.
func dualsByRule(e impl.Expr, inputs, along []impl.Tensor, at, index int) [][]dual {
	shapes, _ := shapesByRule(e)
	var duals [][]dual
	for i, x := range e.Nodes {
		var list []dual
		for k, place := range placesOf(shapes[i]) {
			switch {
			case x.Op == impl.ExConst:
				list = append(list, dualOf(x.A, 0))
			case x.Op == impl.ExInput && len(along) == 0:
				list = append(list, dualOf(inputs[x.A].Nums[k], 0))
			case x.Op == impl.ExInput:
				list = append(list, dualOf(inputs[x.A].Nums[k], along[x.A].Nums[k]))
			default:
				list = append(list, dualAt(x, place, shapes, duals))
			}
		}
		if i == at {
			list[index] = list[index].plus(dualOf(0, 1))
		}
		duals = append(duals, list)
	}
	return duals
}

// dualsWithin reports whether no number of any node, and no slope, is beyond a limit.
func dualsWithin(duals [][]dual, most int64) bool {
	for _, list := range duals {
		for _, x := range list {
			if !within(x.num, most) || !within(x.slope, most) {
				return false
			}
		}
	}
	return true
}

// alongByRule tells by the words of the document the slope of the last node of a smooth expression, if there is one.
func alongByRule(e impl.Expr, inputs, along []impl.Tensor) (impl.Tensor, bool) {
	duals := dualsByRule(e, inputs, along, -1, 0)
	if !dualsWithin(duals, impl.MaxNum) {
		return impl.Tensor{}, false
	}
	shapes, _ := shapesByRule(e)
	slope := filled(shapes[len(shapes)-1], 0)
	for i, x := range duals[len(duals)-1] {
		slope.Nums[i] = int(x.slope.Int64())
	}
	return slope, true
}

// backByRule tells what the inputs of a smooth expression are worth, if nothing is too great. It goes forward only: what is worth of a number of a node is what the whole is worth where that number is 1 more, in slopes.
func backByRule(e impl.Expr, inputs []impl.Tensor, worth impl.Tensor) ([]impl.Tensor, bool) {
	if !dualsWithin(dualsByRule(e, inputs, nil, -1, 0), impl.MaxDot) {
		return nil, false
	}
	back := []impl.Tensor{}
	for _, shape := range e.Inputs {
		back = append(back, filled(shape, 0))
	}
	shapes, _ := shapesByRule(e)
	for at, x := range e.Nodes {
		for index := range countByRule(shapes[at]) {
			duals := dualsByRule(e, inputs, nil, at, index)
			sum := new(big.Int)
			for i, y := range duals[len(duals)-1] {
				sum.Add(sum, new(big.Int).Mul(y.slope, big.NewInt(int64(worth.Nums[i]))))
			}
			if !within(sum, impl.MaxDot) {
				return nil, false
			}
			if x.Op == impl.ExInput {
				back[x.A].Nums[index] += int(sum.Int64())
			}
		}
	}
	for _, x := range back {
		for _, num := range x.Nums {
			if num > impl.MaxDot || num < -impl.MaxDot {
				return nil, false
			}
		}
	}
	return back, true
}

// degreeByRule tells by the words of the document the degree of a node.
func degreeByRule(e impl.Expr, at int) int {
	x := e.Nodes[at]
	degree := 0
	for _, part := range partsByRule(x) {
		if d := degreeByRule(e, part); x.Op == impl.ExMul || x.Op == impl.ExProduct {
			degree += d
		} else {
			degree = max(degree, d)
		}
	}
	if x.Op == impl.ExInput {
		degree = 1
	}
	return degree
}

func sameTensors(a, b []impl.Tensor) bool {
	return slices.EqualFunc(a, b, sameTensor)
}

// checkNoTensors fails if tensors are told where there are none.
func checkNoTensors(t *testing.T, name string, got []impl.Tensor, ok bool) {
	t.Helper()
	if ok || len(got) != 0 {
		t.Errorf("%s = %v, %v, not nothing", name, got, ok)
	}
}

func checkTensors(t *testing.T, name string, got []impl.Tensor, ok bool, want []impl.Tensor) {
	t.Helper()
	if !ok || !sameTensors(got, want) {
		t.Errorf("%s = %v, %v, not %v", name, got, ok, want)
	}
}

func checkNoAlong(t *testing.T, e impl.Expr, inputs, along []impl.Tensor) {
	t.Helper()
	got, ok := impl.AlongOf(e, inputs, along)
	checkNone(t, fmt.Sprintf("AlongOf(%v, %v, %v)", e, inputs, along), got, ok)
}

func checkNoBack(t *testing.T, e impl.Expr, inputs []impl.Tensor, worth impl.Tensor) {
	t.Helper()
	got, ok := impl.BackOf(e, inputs, worth)
	checkNoTensors(t, fmt.Sprintf("BackOf(%v, %v, %v)", e, inputs, worth), got, ok)
}

// checkAlong fails if the slope is another one than the words of the document tell. It reports whether there is one.
func checkAlong(t *testing.T, e impl.Expr, inputs, along []impl.Tensor) bool {
	t.Helper()
	want, ok := alongByRule(e, inputs, along)
	if !ok {
		checkNoAlong(t, e, inputs, along)
		return false
	}
	got, ok := impl.AlongOf(e, inputs, along)
	checkTensor(t, fmt.Sprintf("AlongOf(%v, %v, %v)", e, inputs, along), got, ok, want)
	return true
}

// checkBack fails if inputs are worth anything else than the words of the document tell. It reports whether they are worth something.
func checkBack(t *testing.T, e impl.Expr, inputs []impl.Tensor, worth impl.Tensor) bool {
	t.Helper()
	want, ok := backByRule(e, inputs, worth)
	if !ok {
		checkNoBack(t, e, inputs, worth)
		return false
	}
	got, ok := impl.BackOf(e, inputs, worth)
	checkTensors(t, fmt.Sprintf("BackOf(%v, %v, %v)", e, inputs, worth), got, ok, want)
	return true
}

// checkWorth fails if what is worth backward is not what the slope is worth forward. It reports whether both are told.
func checkWorth(t *testing.T, e impl.Expr, inputs, along []impl.Tensor, worth impl.Tensor) bool {
	t.Helper()
	slope, alongOk := impl.AlongOf(e, inputs, along)
	back, backOk := impl.BackOf(e, inputs, worth)
	forward, dotOk := impl.DotOf(worth, slope)
	if !alongOk || !backOk || !dotOk || len(back) != len(along) {
		return false
	}
	backward := 0
	for i, x := range back {
		dot, ok := impl.DotOf(x, along[i])
		if !ok {
			return false
		}
		backward += dot
	}
	if forward != backward {
		t.Errorf("%v of %v is worth %d along %v by its slope %v and the worth %v, and %d by %v", e, inputs, forward, along, slope, worth, backward, back)
	}
	return true
}

// shiftedValues returns the values of an expression where the inputs are shifted so often to so often, if there are all.
func shiftedValues(e impl.Expr, inputs, along []impl.Tensor, from, to int) ([][]int, bool) {
	var list [][]int
	for times := from; times <= to; times++ {
		shifted, ok := impl.ShiftOf(inputs, along, times)
		if !ok {
			return nil, false
		}
		value, ok := impl.ValueOf(e, shifted)
		if !ok {
			return nil, false
		}
		list = append(list, value.Nums)
	}
	return list, true
}

// checkShifts fails if the slope is not by how much small shifts of the inputs change the value. It reports whether the degree, and the limit of numbers, allow to tell: of values at 0 to 4 shifts either way the slope can be reckoned if the degree is at most twice as many.
func checkShifts(t *testing.T, e impl.Expr, inputs, along []impl.Tensor) bool {
	t.Helper()
	reach := max(1, (impl.DegreeOf(e)+1)/2)
	if reach > 4 {
		return false
	}
	weights := [][]int{{1}, {8, -1}, {45, -9, 1}, {672, -168, 32, -3}}[reach-1]
	times := []int{2, 12, 60, 840}[reach-1]
	slope, alongOk := impl.AlongOf(e, inputs, along)
	values, valuesOk := shiftedValues(e, inputs, along, -reach, reach)
	if !alongOk || !valuesOk {
		return false
	}
	for i, num := range slope.Nums {
		sum := 0
		for k, weight := range weights {
			sum += weight * (values[reach+1+k][i] - values[reach-1-k][i])
		}
		if sum != times*num {
			t.Errorf("the slope of %v of %v along %v is %v, but of the shifted values %v the number %d is %d/%d", e, inputs, along, slope, values, i, sum, times)
		}
	}
	return true
}

// checkDegree fails if the value, as the inputs are shifted, has a greater degree than is told: its differences, as often as the degree and once more, are then all 0. It reports whether there are as many shifts.
func checkDegree(t *testing.T, e impl.Expr, inputs, along []impl.Tensor) bool {
	t.Helper()
	degree := impl.DegreeOf(e)
	from := -(degree + 1) / 2
	if degree > 2*impl.MaxConst-1 {
		return false
	}
	values, ok := shiftedValues(e, inputs, along, from, from+degree+1)
	if !ok {
		return false
	}
	for i := range values[0] {
		var row []int
		for _, nums := range values {
			row = append(row, nums[i])
		}
		if left := differences(row, degree+1)[0]; left != 0 {
			t.Errorf("the degree of %v is %d, but as %v is shifted along %v, the value goes by %v", e, degree, inputs, along, row)
		}
	}
	return true
}

// differences returns by how much each number of a row is more than the one ahead of it, and of these the same, so often.
func differences(row []int, times int) []int {
	for range times {
		var less []int
		for i := range row[1:] {
			less = append(less, row[i+1]-row[i])
		}
		row = less
	}
	return row
}

// noughts returns tensors of noughts of the shapes of the inputs of an expression.
func noughts(e impl.Expr) []impl.Tensor {
	return inputsFor(e)[0]
}

// lastShape returns the shape of the last node.
func lastShape(e impl.Expr) []int {
	shapes, _ := shapesByRule(e)
	return shapes[len(shapes)-1]
}

// checkSlopes fails if any slope, worth or degree of a smooth expression is another one than the words of the document tell. It reports whether there is a slope, and whether the inputs are worth something.
func checkSlopes(t *testing.T, e impl.Expr, inputs, along []impl.Tensor, worth impl.Tensor) (bool, bool) {
	t.Helper()
	if !impl.SmoothOk(e) {
		t.Fatalf("%v is not smooth", e)
	}
	if got, want := impl.DegreeOf(e), degreeByRule(e, len(e.Nodes)-1); got != want {
		t.Errorf("DegreeOf(%v) = %d, not %d", e, got, want)
	}
	sloped := checkAlong(t, e, inputs, along)
	valued := checkBack(t, e, inputs, worth)
	checkWorth(t, e, inputs, along, worth)
	checkShifts(t, e, inputs, along)
	checkDegree(t, e, inputs, along)
	return sloped, valued
}

func TestLimitOfSlopes(t *testing.T) {
	if impl.MaxDot != 100000000 {
		t.Errorf("MaxDot = %d", impl.MaxDot)
	}
}

// The slope of a square along 1 is twice the number, as in the document.
func TestSlopeOfASquare(t *testing.T) {
	e := exprOf([][]int{nil}, input(0), two(impl.ExMul, 0, 0))
	for num := -20; num <= 20; num++ {
		inputs := []impl.Tensor{tensorOf(nil, num)}
		slope, ok := impl.AlongOf(e, inputs, []impl.Tensor{tensorOf(nil, 1)})
		checkTensor(t, fmt.Sprintf("the slope of the square of %d", num), slope, ok, tensorOf(nil, 2*num))
		back, ok := impl.BackOf(e, inputs, tensorOf(nil, 1))
		checkTensors(t, fmt.Sprintf("what the square of %d is worth", num), back, ok, []impl.Tensor{tensorOf(nil, 2*num)})
	}
}

// Each kind by hand: the slope along directions, and what the inputs are worth.
func TestSlopesByHand(t *testing.T) {
	rows, row := tensorOf([]int{2, 2}, 1, 2, 3, 4), tensorOf([]int{2}, 5, 6)
	along, alongRow := tensorOf([]int{2, 2}, 1, 0, 0, 2), tensorOf([]int{2}, 10, 20)
	tens := []int{10, 20, 30, 40, 50, 60}
	for _, c := range []struct {
		x           impl.Node
		a, b        impl.Tensor
		alongA      impl.Tensor
		alongB      impl.Tensor
		worth       impl.Tensor
		slope       impl.Tensor
		backA       impl.Tensor
		backB       impl.Tensor
		degreeWhole int
	}{
		{input(1), rows, row, along, alongRow, tensorOf([]int{2}, 7, 8), tensorOf([]int{2}, 10, 20), filled([]int{2, 2}, 0), tensorOf([]int{2}, 7, 8), 1},
		{number(-5), rows, row, along, alongRow, tensorOf(nil, 7), tensorOf(nil, 0), filled([]int{2, 2}, 0), filled([]int{2}, 0), 0},
		{two(impl.ExAdd, 0, 1), rows, row, along, alongRow, tensorOf([]int{2, 2}, 1, 2, 3, 4), tensorOf([]int{2, 2}, 11, 20, 10, 22), tensorOf([]int{2, 2}, 1, 2, 3, 4), tensorOf([]int{2}, 4, 6), 1},
		{two(impl.ExAdd, 1, 0), rows, row, along, alongRow, tensorOf([]int{2, 2}, 1, 2, 3, 4), tensorOf([]int{2, 2}, 11, 20, 10, 22), tensorOf([]int{2, 2}, 1, 2, 3, 4), tensorOf([]int{2}, 4, 6), 1},
		{two(impl.ExSub, 0, 1), rows, row, along, alongRow, tensorOf([]int{2, 2}, 1, 2, 3, 4), tensorOf([]int{2, 2}, -9, -20, -10, -18), tensorOf([]int{2, 2}, 1, 2, 3, 4), tensorOf([]int{2}, -4, -6), 1},
		{two(impl.ExSub, 1, 0), rows, row, along, alongRow, tensorOf([]int{2, 2}, 1, 2, 3, 4), tensorOf([]int{2, 2}, 9, 20, 10, 18), tensorOf([]int{2, 2}, -1, -2, -3, -4), tensorOf([]int{2}, 4, 6), 1},
		{two(impl.ExMul, 0, 1), rows, row, along, alongRow, tensorOf([]int{2, 2}, 1, 2, 3, 4), tensorOf([]int{2, 2}, 15, 40, 30, 92), tensorOf([]int{2, 2}, 5, 12, 15, 24), tensorOf([]int{2}, 10, 20), 2},
		{two(impl.ExMul, 1, 0), rows, row, along, alongRow, tensorOf([]int{2, 2}, 1, 2, 3, 4), tensorOf([]int{2, 2}, 15, 40, 30, 92), tensorOf([]int{2, 2}, 5, 12, 15, 24), tensorOf([]int{2}, 10, 20), 2},
		{neg(1), rows, row, along, alongRow, tensorOf([]int{2}, 7, -8), tensorOf([]int{2}, -10, -20), filled([]int{2, 2}, 0), tensorOf([]int{2}, -7, 8), 1},
		{summed(0, 0), rows, row, along, alongRow, tensorOf([]int{2}, 7, 8), tensorOf([]int{2}, 1, 2), tensorOf([]int{2, 2}, 7, 8, 7, 8), filled([]int{2}, 0), 1},
		{summed(0, 1), rows, row, along, alongRow, tensorOf([]int{2}, 7, 8), tensorOf([]int{2}, 1, 2), tensorOf([]int{2, 2}, 7, 7, 8, 8), filled([]int{2}, 0), 1},
		{summed(1, 0), rows, row, along, alongRow, tensorOf(nil, 7), tensorOf(nil, 30), filled([]int{2, 2}, 0), tensorOf([]int{2}, 7, 7), 1},
		{turned(0, 1, 0), numbered([]int{2, 3}, 5), row, numbered([]int{2, 3}, 1), alongRow, tensorOf([]int{3, 2}, tens...), tensorOf([]int{3, 2}, 1, 4, 2, 5, 3, 6), tensorOf([]int{2, 3}, 10, 30, 50, 20, 40, 60), filled([]int{2}, 0), 1},
		// Turned back is not turned again.
		{turned(0, 2, 0, 1), numbered([]int{2, 1, 3}, 5), row, numbered([]int{2, 1, 3}, 1), alongRow, tensorOf([]int{3, 2, 1}, tens...), tensorOf([]int{3, 2, 1}, 1, 4, 2, 5, 3, 6), tensorOf([]int{2, 1, 3}, 10, 30, 50, 20, 40, 60), filled([]int{2}, 0), 1},
		{folded(0, 3, 1, 2), numbered([]int{2, 3}, 5), row, numbered([]int{2, 3}, 1), alongRow, tensorOf([]int{3, 1, 2}, tens...), numbered([]int{3, 1, 2}, 1), tensorOf([]int{2, 3}, tens...), filled([]int{2}, 0), 1},
		{cut(0, 1, 1, 2), numbered([]int{2, 3}, 5), row, numbered([]int{2, 3}, 1), alongRow, tensorOf([]int{2, 2}, 10, 20, 30, 40), tensorOf([]int{2, 2}, 2, 3, 5, 6), tensorOf([]int{2, 3}, 0, 10, 20, 0, 30, 40), filled([]int{2}, 0), 1},
		{cut(0, 0, 1, 1), numbered([]int{2, 3}, 5), row, numbered([]int{2, 3}, 1), alongRow, tensorOf([]int{1, 3}, 10, 20, 30), tensorOf([]int{1, 3}, 4, 5, 6), tensorOf([]int{2, 3}, 0, 0, 0, 10, 20, 30), filled([]int{2}, 0), 1},
		{beside(0, 1, 1), rows, tensorOf([]int{2, 1}, 5, 6), numbered([]int{2, 2}, 1), tensorOf([]int{2, 1}, 5, 6), tensorOf([]int{2, 3}, tens...), tensorOf([]int{2, 3}, 1, 2, 5, 3, 4, 6), tensorOf([]int{2, 2}, 10, 20, 40, 50), tensorOf([]int{2, 1}, 30, 60), 1},
		{beside(1, 0, 1), rows, tensorOf([]int{2, 1}, 5, 6), numbered([]int{2, 2}, 1), tensorOf([]int{2, 1}, 5, 6), tensorOf([]int{2, 3}, tens...), tensorOf([]int{2, 3}, 5, 1, 2, 6, 3, 4), tensorOf([]int{2, 2}, 20, 30, 50, 60), tensorOf([]int{2, 1}, 10, 40), 1},
		{two(impl.ExProduct, 0, 1), rows, tensorOf([]int{2, 1}, 5, 6), tensorOf([]int{2, 2}, 1, 0, 0, 1), tensorOf([]int{2, 1}, 1, 1), tensorOf([]int{2, 1}, 1, 10), tensorOf([]int{2, 1}, 8, 13), tensorOf([]int{2, 2}, 5, 6, 50, 60), tensorOf([]int{2, 1}, 31, 42), 2},
		{two(impl.ExProduct, 1, 0), tensorOf([]int{1, 2}, 1, 2), tensorOf([]int{2, 1}, 3, 4), tensorOf([]int{1, 2}, 5, 6), tensorOf([]int{2, 1}, 7, 8), tensorOf([]int{2, 2}, 1, 2, 3, 4), tensorOf([]int{2, 2}, 22, 32, 28, 40), tensorOf([]int{1, 2}, 15, 22), tensorOf([]int{2, 1}, 5, 11), 2},
		// One node as both parts.
		{two(impl.ExAdd, 0, 0), rows, row, along, alongRow, tensorOf([]int{2, 2}, 1, 2, 3, 4), tensorOf([]int{2, 2}, 2, 0, 0, 4), tensorOf([]int{2, 2}, 2, 4, 6, 8), filled([]int{2}, 0), 1},
		{two(impl.ExSub, 0, 0), rows, row, along, alongRow, tensorOf([]int{2, 2}, 1, 2, 3, 4), filled([]int{2, 2}, 0), filled([]int{2, 2}, 0), filled([]int{2}, 0), 1},
		{two(impl.ExMul, 0, 0), rows, row, along, alongRow, tensorOf([]int{2, 2}, 1, 2, 3, 4), tensorOf([]int{2, 2}, 2, 0, 0, 16), tensorOf([]int{2, 2}, 2, 8, 18, 32), filled([]int{2}, 0), 2},
		{beside(1, 1, 0), rows, row, along, alongRow, tensorOf([]int{4}, 1, 2, 3, 4), tensorOf([]int{4}, 10, 20, 10, 20), filled([]int{2, 2}, 0), tensorOf([]int{2}, 4, 6), 1},
		{two(impl.ExProduct, 0, 0), rows, row, tensorOf([]int{2, 2}, 1, 0, 0, 0), alongRow, tensorOf([]int{2, 2}, 1, 0, 0, 0), tensorOf([]int{2, 2}, 2, 2, 3, 0), tensorOf([]int{2, 2}, 2, 3, 2, 0), filled([]int{2}, 0), 2},
	} {
		e := exprOf([][]int{c.a.Shape, c.b.Shape}, input(0), input(1), c.x)
		inputs, along := []impl.Tensor{c.a, c.b}, []impl.Tensor{c.alongA, c.alongB}
		slope, ok := impl.AlongOf(e, inputs, along)
		checkTensor(t, fmt.Sprintf("AlongOf(%v, %v, %v)", e, inputs, along), slope, ok, c.slope)
		back, ok := impl.BackOf(e, inputs, c.worth)
		checkTensors(t, fmt.Sprintf("BackOf(%v, %v, %v)", e, inputs, c.worth), back, ok, []impl.Tensor{c.backA, c.backB})
		if degree := impl.DegreeOf(e); degree != c.degreeWhole {
			t.Errorf("DegreeOf(%v) = %d, not %d", e, degree, c.degreeWhole)
		}
		checkSlopes(t, e, inputs, along, c.worth)
		for _, check := range []bool{checkWorth(t, e, inputs, along, c.worth), checkShifts(t, e, inputs, along), checkDegree(t, e, inputs, along)} {
			if !check {
				t.Errorf("%v has nothing to check", e)
			}
		}
	}
}

// smallShapes returns all shapes whose sizes are at most so many.
func smallShapes(most int) [][]int {
	return slices.DeleteFunc(allShapes(), func(shape []int) bool { return len(shape) > 0 && slices.Max(shape) > most })
}

// Each kind with one part, of each shape, and each list that it can have.
func TestSlopesOfOnePart(t *testing.T) {
	many := 0
	for _, shape := range allShapes() {
		for _, kind := range []int{impl.ExNeg, impl.ExSum, impl.ExTurn, impl.ExFold, impl.ExCut} {
			for _, list := range listsFor(kind) {
				e := exprOf([][]int{shape}, input(0), node(kind, 0, 0, list...))
				if !impl.ExprOk(e) {
					continue
				}
				inputs, along, worth := []impl.Tensor{mixed(shape, 1)}, []impl.Tensor{mixed(shape, 2)}, numbered(lastShape(e), 3)
				checkAlong(t, e, inputs, along)
				if countByRule(shape) <= 24 {
					checkBack(t, e, inputs, worth)
				}
				if checkWorth(t, e, inputs, along, worth) && checkShifts(t, e, inputs, along) {
					many++
				}
			}
		}
	}
	if many < 1000 {
		t.Errorf("only %d nodes of one part are checked", many)
	}
}

// Each kind with two parts, of each two shapes, and of one node twice.
func TestSlopesOfTwoParts(t *testing.T) {
	many := 0
	for _, a := range smallShapes(3) {
		for _, b := range smallShapes(3) {
			nodes := []impl.Node{two(impl.ExAdd, 0, 1), two(impl.ExSub, 0, 1), two(impl.ExMul, 0, 1), two(impl.ExProduct, 0, 1)}
			for axis := range impl.MaxAxes {
				nodes = append(nodes, beside(0, 1, axis))
			}
			if sameInts(a, b) {
				for _, x := range slices.Clone(nodes) {
					nodes = append(nodes, node(x.Op, 1, 1, x.List...))
				}
			}
			for _, x := range nodes {
				e := exprOf([][]int{a, b}, input(0), input(1), x)
				if !impl.ExprOk(e) {
					continue
				}
				inputs, along, worth := []impl.Tensor{mixed(a, 1), mixed(b, 2)}, []impl.Tensor{mixed(a, 3), mixed(b, 4)}, numbered(lastShape(e), -3)
				checkAlong(t, e, inputs, along)
				if countByRule(a)+countByRule(b) <= 20 {
					checkBack(t, e, inputs, worth)
				}
				if checkWorth(t, e, inputs, along, worth) && checkShifts(t, e, inputs, along) && checkDegree(t, e, inputs, along) {
					many++
				}
			}
		}
	}
	if many < 1000 {
		t.Errorf("only %d nodes of two parts are checked", many)
	}
}

// smooth returns an expression of so many nodes without ExMax.
func (d *dice) smooth(nodes int) impl.Expr {
	e := d.tangled(nodes)
	for at := range e.Nodes {
		if e.Nodes[at].Op == impl.ExMax {
			e.Nodes[at].Op = impl.ExMul
		}
	}
	return e
}

// small returns tensors of the shapes of inputs, with numbers up to some limit, either way.
func (d *dice) small(e impl.Expr, most int) []impl.Tensor {
	list := []impl.Tensor{}
	for _, shape := range e.Inputs {
		list = append(list, d.tensor(shape, most))
	}
	return list
}

func (d *dice) tensor(shape []int, most int) impl.Tensor {
	x := filled(shape, 0)
	for i := range x.Nums {
		x.Nums[i] = d.below(2*most+1) - most
	}
	return x
}

// Promise 7: what is worth backward is what slopes are worth forward.
func TestWorthBackwardIsWorthForward(t *testing.T) {
	d := &dice{state: 17}
	kinds := make([]int, len(allKinds))
	same, shifted, curved, twice, degrees := 0, 0, 0, 0, 0
	for range 4000 {
		e := d.smooth(2 + d.below(impl.MaxNodes-1))
		for range 3 {
			inputs, along, worth := d.small(e, 5), d.small(e, 3), d.tensor(lastShape(e), 9)
			if !checkWorth(t, e, inputs, along, worth) {
				continue
			}
			same++
			for at, x := range e.Nodes {
				if neededByRule(e, at) {
					kinds[x.Op]++
				}
				if parts := partsByRule(x); len(parts) == 2 && x.A == x.B && neededByRule(e, at) {
					twice++
				}
			}
			if checkShifts(t, e, inputs, along) {
				shifted++
				if impl.DegreeOf(e) > 1 {
					curved++
				}
			}
			if checkDegree(t, e, inputs, along) {
				degrees++
			}
		}
	}
	// These are so many that none of the above is told of nothing.
	for kind, many := range kinds {
		if many < 200 && kind != impl.ExMax {
			t.Errorf("only %d nodes of the kind %d are worth something", many, kind)
		}
	}
	if same < 8000 || shifted < 6000 || curved < 1500 || twice < 500 || degrees < 6000 {
		t.Errorf("%d worths, %d shifts, %d of them curved, %d nodes that are both parts, %d degrees", same, shifted, curved, twice, degrees)
	}
}

// Made-up expressions against the words of the document, with small numbers and with such as soon grow too great.
func TestAnySmoothExpressions(t *testing.T) {
	d := &dice{state: 18}
	sloped, noSlope, valued, noValue := 0, 0, 0, 0
	for range 500 {
		e := d.smooth(1 + d.below(impl.MaxNodes))
		worth := d.tensor(lastShape(e), []int{9, 1000, 100000, impl.MaxDot}[d.below(4)])
		for _, most := range []int{4, 100, 3000, 100000} {
			inputs, along := d.small(e, most), d.small(e, []int{3, 1000, impl.MaxNum}[d.below(3)])
			hasSlope, hasWorth := checkSlopes(t, e, inputs, along, worth)
			if hasSlope {
				sloped++
			} else {
				noSlope++
			}
			if hasWorth {
				valued++
			} else {
				noValue++
			}
		}
	}
	if sloped < 1000 || noSlope < 200 || valued < 1000 || noValue < 200 {
		t.Errorf("%d slopes, %d times none, %d worths, %d times none", sloped, noSlope, valued, noValue)
	}
}

// An input is worth nothing if no node is it, or only such as nothing needs; its direction changes nothing then.
func TestInputsThatNothingNeeds(t *testing.T) {
	shapes := [][]int{{2}, {2, 2}, {3}}
	for _, nodes := range [][]impl.Node{
		{input(0)},
		{input(1), input(2), input(0)},
		{input(1), two(impl.ExMul, 0, 0), input(2), neg(2), input(0), two(impl.ExMul, 4, 4)},
		{input(0), input(1), two(impl.ExMul, 0, 1), input(2), two(impl.ExAdd, 0, 0)},
		// The one of both nodes that are the input that is needed counts.
		{input(0), neg(0), input(0), two(impl.ExMul, 2, 2)},
		{input(0), input(0), two(impl.ExMul, 1, 1), two(impl.ExSub, 0, 2)},
	} {
		e := exprOf(shapes, nodes...)
		inputs, along := []impl.Tensor{tensorOf([]int{2}, 3, -4), mixed([]int{2, 2}, 1), mixed([]int{3}, 2)}, []impl.Tensor{tensorOf([]int{2}, 5, 7), mixed([]int{2, 2}, 3), mixed([]int{3}, 4)}
		worth := tensorOf([]int{2}, 10, 100)
		checkSlopes(t, e, inputs, along, worth)
		back, ok := impl.BackOf(e, inputs, worth)
		if !ok || len(back) != 3 || !sameTensor(back[1], filled([]int{2, 2}, 0)) || !sameTensor(back[2], filled([]int{3}, 0)) || sameTensor(back[0], filled([]int{2}, 0)) {
			t.Errorf("BackOf(%v) = %v, %v", e, back, ok)
		}
		slope, ok := impl.AlongOf(e, inputs, along)
		same, sameOk := impl.AlongOf(e, inputs, []impl.Tensor{along[0], filled([]int{2, 2}, 0), filled([]int{3}, 9)})
		checkSame(t, "directions of what nothing needs", slope, ok, same, sameOk)
	}
	// No input, or no node that is one: the slope is noughts.
	for _, inputs := range [][][]int{nil, {{2, 2}}, {{2}, nil, {4, 4, 4}}} {
		e := exprOf(inputs, number(7), two(impl.ExMul, 0, 0), folded(1, 1, 1))
		checkSlopes(t, e, inputsFor(e)[1], inputsFor(e)[2], tensorOf([]int{1, 1}, 5))
		slope, ok := impl.AlongOf(e, inputsFor(e)[1], inputsFor(e)[2])
		checkTensor(t, fmt.Sprintf("AlongOf(%v)", e), slope, ok, tensorOf([]int{1, 1}, 0))
		back, ok := impl.BackOf(e, inputsFor(e)[1], tensorOf([]int{1, 1}, 5))
		checkTensors(t, fmt.Sprintf("BackOf(%v)", e), back, ok, noughts(e))
		if degree := impl.DegreeOf(e); degree != 0 {
			t.Errorf("DegreeOf(%v) = %d", e, degree)
		}
	}
	// An input that no node is may be as great as any tensor, and so may its direction.
	e := exprOf([][]int{nil, {2}}, input(0))
	inputs := []impl.Tensor{tensorOf(nil, 1), filled([]int{2}, impl.MaxNum)}
	if sloped, valued := checkSlopes(t, e, inputs, inputs, tensorOf(nil, 1)); !sloped || !valued {
		t.Errorf("%v of %v has a slope: %v, is worth something: %v", e, inputs, sloped, valued)
	}
}

// A row of squares, each of the one ahead of it: each node is both parts of the next one.
func TestSlopesOfSquaresOfSquares(t *testing.T) {
	e := exprOf([][]int{{2}}, input(0))
	degree := 1
	for at := 1; at < impl.MaxNodes; at++ {
		e.Nodes = append(e.Nodes, two(impl.ExMul, at-1, at-1))
		degree *= 2
		if got := impl.DegreeOf(e); got != degree {
			t.Errorf("DegreeOf(%v) = %d, not %d", e, got, degree)
		}
		inputs, along, worth := []impl.Tensor{tensorOf([]int{2}, 1, -1)}, []impl.Tensor{tensorOf([]int{2}, 3, 5)}, tensorOf([]int{2}, 7, 11)
		sloped, valued := checkSlopes(t, e, inputs, along, worth)
		slope, _ := impl.AlongOf(e, inputs, along)
		back, _ := impl.BackOf(e, inputs, worth)
		if !sloped || !valued || !sameInts(slope.Nums, []int{3 * degree, -5 * degree}) || !sameInts(back[0].Nums, []int{7 * degree, -11 * degree}) {
			t.Errorf("%d squares of 1 and -1 have the slope %v, and are worth %v", at, slope, back)
		}
		for num := 2; num <= 12; num++ {
			checkSlopes(t, e, []impl.Tensor{tensorOf([]int{2}, -num, num)}, along, worth)
		}
		if !checkWorth(t, e, inputs, along, worth) {
			t.Errorf("%v has nothing to check", e)
		}
	}
}

// Sums of a node and itself, over and over: what is worth of it comes twice each time.
func TestSlopesOfDoubles(t *testing.T) {
	e := exprOf([][]int{{3}}, input(0))
	times := 1
	for at := 1; at < impl.MaxNodes; at++ {
		e.Nodes = append(e.Nodes, two(impl.ExAdd, at-1, at-1))
		times *= 2
		inputs, along, worth := []impl.Tensor{tensorOf([]int{3}, 1, 2, 3)}, []impl.Tensor{tensorOf([]int{3}, 4, 5, 6)}, tensorOf([]int{3}, 7, 8, 9)
		checkSlopes(t, e, inputs, along, worth)
		slope, ok := impl.AlongOf(e, inputs, along)
		checkTensor(t, fmt.Sprintf("the slope of %d times", times), slope, ok, tensorOf([]int{3}, 4*times, 5*times, 6*times))
		back, ok := impl.BackOf(e, inputs, worth)
		checkTensors(t, fmt.Sprintf("what %d times is worth", times), back, ok, []impl.Tensor{tensorOf([]int{3}, 7*times, 8*times, 9*times)})
		if degree := impl.DegreeOf(e); degree != 1 {
			t.Errorf("DegreeOf(%v) = %d", e, degree)
		}
	}
}

// Where the slope of a node grows too great there is none, be the node needed or not, and be it noughts in the end or not.
func TestSlopesThatGrowTooGreat(t *testing.T) {
	const most = impl.MaxNum
	for _, c := range []struct {
		x              impl.Node
		a, b           impl.Tensor
		alongA, alongB impl.Tensor
		ok             bool
	}{
		{two(impl.ExAdd, 0, 1), tensorOf([]int{2}, 0, 0), tensorOf(nil, 0), tensorOf([]int{2}, 0, most-1), tensorOf(nil, 1), true},
		{two(impl.ExAdd, 0, 1), tensorOf([]int{2}, 0, 0), tensorOf(nil, 0), tensorOf([]int{2}, 0, most), tensorOf(nil, 1), false},
		{two(impl.ExAdd, 0, 0), tensorOf([]int{2}, 0, 0), tensorOf(nil, 0), tensorOf([]int{2}, 0, most/2), tensorOf(nil, 0), true},
		{two(impl.ExAdd, 0, 0), tensorOf([]int{2}, 0, 0), tensorOf(nil, 0), tensorOf([]int{2}, 0, most/2+1), tensorOf(nil, 0), false},
		{two(impl.ExSub, 0, 1), tensorOf([]int{2}, 0, 0), tensorOf(nil, 0), tensorOf([]int{2}, 1-most, 0), tensorOf(nil, 1), true},
		{two(impl.ExSub, 0, 1), tensorOf([]int{2}, 0, 0), tensorOf(nil, 0), tensorOf([]int{2}, -most, 0), tensorOf(nil, 1), false},
		{two(impl.ExMul, 0, 1), tensorOf([]int{2}, 1, 1), tensorOf(nil, 1), tensorOf([]int{2}, most, 0), tensorOf(nil, 0), true},
		{two(impl.ExMul, 0, 1), tensorOf([]int{2}, 1, 1), tensorOf(nil, 1), tensorOf([]int{2}, most, 0), tensorOf(nil, 1), false},
		{two(impl.ExMul, 0, 1), tensorOf([]int{2}, 1, 1), tensorOf(nil, 1), tensorOf([]int{2}, most, 0), tensorOf(nil, -1), true},
		{two(impl.ExMul, 0, 1), tensorOf([]int{2}, 1, 1), tensorOf(nil, 1), tensorOf([]int{2}, -most, 0), tensorOf(nil, -1), false},
		{two(impl.ExMul, 0, 0), tensorOf([]int{2}, 1, 0), tensorOf(nil, 0), tensorOf([]int{2}, most/2, 0), tensorOf(nil, 0), true},
		{two(impl.ExMul, 0, 0), tensorOf([]int{2}, 1, 0), tensorOf(nil, 0), tensorOf([]int{2}, most/2+1, 0), tensorOf(nil, 0), false},
		{two(impl.ExMul, 0, 1), tensorOf([]int{2}, 0, 0), tensorOf(nil, most), tensorOf([]int{2}, 1, -1), tensorOf(nil, most), true},
		{two(impl.ExMul, 0, 1), tensorOf([]int{2}, 0, 0), tensorOf(nil, most), tensorOf([]int{2}, 2, 0), tensorOf(nil, most), false},
		{two(impl.ExMul, 0, 1), tensorOf([]int{2}, 0, 0), tensorOf(nil, most), tensorOf([]int{2}, most, most), tensorOf(nil, most), false},
		{two(impl.ExMul, 0, 1), tensorOf([]int{2}, 0, 0), tensorOf(nil, 0), tensorOf([]int{2}, most, most), tensorOf(nil, most), true},
		// Both that are added are too great, but the slope is not.
		{two(impl.ExMul, 0, 1), tensorOf([]int{2}, 10000, 0), tensorOf(nil, 10000), tensorOf([]int{2}, 200000, 0), tensorOf(nil, -200000), true},
		{two(impl.ExMul, 0, 1), tensorOf([]int{2}, 10000, 0), tensorOf(nil, 10000), tensorOf([]int{2}, 200000, 0), tensorOf(nil, -100000), true},
		{two(impl.ExMul, 0, 1), tensorOf([]int{2}, 10000, 0), tensorOf(nil, 10000), tensorOf([]int{2}, 200000, 0), tensorOf(nil, -99999), false},
		{neg(0), tensorOf([]int{2}, 0, 0), tensorOf(nil, 0), tensorOf([]int{2}, most, -most), tensorOf(nil, most), true},
		{summed(0, 0), tensorOf([]int{2}, 0, 0), tensorOf(nil, 0), tensorOf([]int{2}, most-1, 1), tensorOf(nil, 0), true},
		{summed(0, 0), tensorOf([]int{2}, 0, 0), tensorOf(nil, 0), tensorOf([]int{2}, most, 1), tensorOf(nil, 0), false},
		{summed(0, 0), tensorOf([]int{3}, 0, 0, 0), tensorOf(nil, 0), tensorOf([]int{3}, most, most, -most), tensorOf(nil, 0), true},
		{beside(0, 0, 0), tensorOf([]int{2}, 0, 0), tensorOf(nil, 0), tensorOf([]int{2}, most, -most), tensorOf(nil, 0), true},
		{two(impl.ExProduct, 0, 1), tensorOf([]int{1, 2}, 1, 1), tensorOf([]int{2, 1}, 1, 1), tensorOf([]int{1, 2}, most, -most), tensorOf([]int{2, 1}, most, 0), true},
		{two(impl.ExProduct, 0, 1), tensorOf([]int{1, 2}, 1, 1), tensorOf([]int{2, 1}, 1, 1), tensorOf([]int{1, 2}, most, -most), tensorOf([]int{2, 1}, most, 1), false},
		// As far as it goes: the value is 0, and 8 products of the greatest numbers are added.
		{two(impl.ExProduct, 0, 1), tensorOf([]int{1, 4}, most, -most, most, -most), filled([]int{4, 1}, most), filled([]int{1, 4}, most), tensorOf([]int{4, 1}, most, -most, most, -most), false},
		{two(impl.ExProduct, 0, 1), tensorOf([]int{1, 4}, most, -most, most, -most), filled([]int{4, 1}, most), filled([]int{1, 4}, most), tensorOf([]int{4, 1}, -most, most, -most, most), true},
		{two(impl.ExProduct, 0, 1), tensorOf([]int{1, 4}, most, -most, most, -most), filled([]int{4, 1}, most), filled([]int{1, 4}, -most), tensorOf([]int{4, 1}, -most, most, -most, most), false},
	} {
		shapes := [][]int{c.a.Shape, c.b.Shape}
		inputs, along := []impl.Tensor{c.a, c.b}, []impl.Tensor{c.alongA, c.alongB}
		for _, e := range []impl.Expr{
			exprOf(shapes, input(0), input(1), c.x),
			exprOf(shapes, input(0), input(1), c.x, number(1)),
			exprOf(shapes, input(0), input(1), c.x, neg(0)),
			exprOf(shapes, input(0), input(1), c.x, two(impl.ExSub, 2, 2)),
			exprOf(shapes, input(0), input(1), number(0), c.x, two(impl.ExMul, 3, 2)),
		} {
			if got := checkAlong(t, e, inputs, along); got != c.ok {
				t.Errorf("%v of %v has a slope along %v: %v", e, inputs, along, got)
			}
			if !checkAlong(t, e, inputs, noughts(e)) {
				t.Errorf("%v of %v has no slope along noughts", e, inputs)
			}
		}
	}
	// Where there are no values there is no slope, be the directions noughts or not.
	e := exprOf([][]int{nil}, input(0), two(impl.ExMul, 0, 0), number(1))
	for num, ok := range map[int]bool{31622: true, 31623: false, -31622: true, -31623: false, most: false} {
		for _, along := range []int{0, 1, -1} {
			if got := checkAlong(t, e, []impl.Tensor{tensorOf(nil, num)}, []impl.Tensor{tensorOf(nil, along)}); got != ok {
				t.Errorf("%v of %d has a slope: %v", e, num, got)
			}
		}
	}
}

// Numbers of values and of what is worth that are just within MaxDot, and just beyond it.
func TestWorthThatGrowsTooGreat(t *testing.T) {
	const most = impl.MaxDot
	scalar := func(nums ...int) []impl.Tensor {
		var list []impl.Tensor
		for _, num := range nums {
			list = append(list, tensorOf(nil, num))
		}
		return list
	}
	for _, c := range []struct {
		nodes  []impl.Node
		inputs []impl.Tensor
		worth  impl.Tensor
		ok     bool
	}{
		// What the last node is worth, be it an input, a number or another one.
		{[]impl.Node{input(0)}, scalar(1), tensorOf(nil, most), true},
		{[]impl.Node{input(0)}, scalar(1), tensorOf(nil, -most), true},
		{[]impl.Node{input(0)}, scalar(1), tensorOf(nil, most+1), false},
		{[]impl.Node{input(0)}, scalar(1), tensorOf(nil, -most-1), false},
		{[]impl.Node{input(0)}, scalar(1), tensorOf(nil, impl.MaxNum), false},
		{[]impl.Node{number(3)}, scalar(1), tensorOf(nil, most), true},
		{[]impl.Node{number(3)}, scalar(1), tensorOf(nil, most+1), false},
		{[]impl.Node{input(0), number(0), two(impl.ExMul, 0, 1)}, scalar(1), tensorOf(nil, most), true},
		{[]impl.Node{input(0), number(0), two(impl.ExMul, 0, 1)}, scalar(0), tensorOf(nil, most+1), false},
		// Values of nodes, needed or not, but not of inputs that no node is.
		{[]impl.Node{input(0)}, scalar(most), tensorOf(nil, 1), true},
		{[]impl.Node{input(0)}, scalar(-most), tensorOf(nil, 1), true},
		{[]impl.Node{input(0)}, scalar(most + 1), tensorOf(nil, 1), false},
		{[]impl.Node{input(0)}, scalar(-most - 1), tensorOf(nil, 1), false},
		{[]impl.Node{input(0)}, scalar(most + 1), tensorOf(nil, 0), false},
		{[]impl.Node{input(0)}, scalar(1, most+1), tensorOf(nil, 1), true},
		{[]impl.Node{input(1), input(0)}, scalar(1, most), tensorOf(nil, 1), true},
		{[]impl.Node{input(1), input(0)}, scalar(1, most+1), tensorOf(nil, 1), false},
		{[]impl.Node{input(0), two(impl.ExMul, 0, 0)}, scalar(10000), tensorOf(nil, 1), true},
		{[]impl.Node{input(0), two(impl.ExMul, 0, 0)}, scalar(10001), tensorOf(nil, 1), false},
		{[]impl.Node{input(0), two(impl.ExMul, 0, 0), number(1)}, scalar(10000), tensorOf(nil, 1), true},
		{[]impl.Node{input(0), two(impl.ExMul, 0, 0), number(1)}, scalar(10001), tensorOf(nil, 1), false},
		{[]impl.Node{input(0), two(impl.ExAdd, 0, 0), number(0), two(impl.ExMul, 1, 2)}, scalar(most/2 + 1), tensorOf(nil, 1), false},
		{[]impl.Node{input(0), two(impl.ExMul, 0, 0), number(1)}, scalar(31623), tensorOf(nil, 1), false},
		// Nodes that are worth too much, a number too, also if what they are parts of is worth nothing of the inputs.
		{[]impl.Node{input(0), two(impl.ExAdd, 0, 0)}, scalar(1), tensorOf(nil, most/2), true},
		{[]impl.Node{input(0), two(impl.ExAdd, 0, 0)}, scalar(1), tensorOf(nil, most/2+1), false},
		{[]impl.Node{input(0), number(1), two(impl.ExMul, 0, 1)}, scalar(2), tensorOf(nil, most/2), true},
		{[]impl.Node{input(0), number(1), two(impl.ExMul, 0, 1)}, scalar(3), tensorOf(nil, most/2), false},
		{[]impl.Node{input(0), number(0), two(impl.ExMul, 0, 1), number(2), two(impl.ExMul, 2, 3)}, scalar(1), tensorOf(nil, most/2), true},
		{[]impl.Node{input(0), number(0), two(impl.ExMul, 0, 1), number(2), two(impl.ExMul, 2, 3)}, scalar(1), tensorOf(nil, most/2+1), false},
		{[]impl.Node{input(0), number(0), two(impl.ExMul, 0, 1), number(2), two(impl.ExMul, 2, 3)}, scalar(1), tensorOf(nil, -most/2-1), false},
		// An input that is worth too much, though each node that is it is not.
		{[]impl.Node{input(0), input(0), two(impl.ExAdd, 0, 1)}, scalar(1), tensorOf(nil, most/2), true},
		{[]impl.Node{input(0), input(0), two(impl.ExAdd, 0, 1)}, scalar(1), tensorOf(nil, most/2+1), false},
		{[]impl.Node{input(0), input(0), two(impl.ExSub, 0, 1)}, scalar(1), tensorOf(nil, most), true},
		{[]impl.Node{input(1), input(1), input(0), two(impl.ExAdd, 0, 1)}, scalar(1, 1), tensorOf(nil, most/2+1), false},
		// What is spread is summed.
		{[]impl.Node{input(0), input(1), two(impl.ExAdd, 0, 1)}, []impl.Tensor{tensorOf(nil, 1), filled([]int{4}, 1)}, filled([]int{4}, most/4), true},
		{[]impl.Node{input(0), input(1), two(impl.ExAdd, 0, 1)}, []impl.Tensor{tensorOf(nil, 1), filled([]int{4}, 1)}, tensorOf([]int{4}, most/4, most/4, most/4, most/4+1), false},
		{[]impl.Node{input(0), input(1), two(impl.ExAdd, 0, 1)}, []impl.Tensor{tensorOf(nil, 1), filled([]int{4}, 1)}, tensorOf([]int{4}, most, most, -most, 0), true},
		{[]impl.Node{input(0), input(1), two(impl.ExSub, 1, 0)}, []impl.Tensor{tensorOf(nil, 1), filled([]int{4}, 1)}, tensorOf([]int{4}, most, 1, 0, 0), false},
		{[]impl.Node{input(0), summed(0, 0)}, []impl.Tensor{filled([]int{4}, 1)}, tensorOf(nil, most), true},
		// Products: those that are added may be too great, if what is worth is not.
		{[]impl.Node{input(0), input(1), two(impl.ExMul, 0, 1)}, []impl.Tensor{tensorOf(nil, 1), tensorOf([]int{2}, most, -most)}, tensorOf([]int{2}, most, most), true},
		{[]impl.Node{input(0), input(1), two(impl.ExMul, 0, 1)}, []impl.Tensor{tensorOf(nil, 1), tensorOf([]int{2}, most, -most)}, tensorOf([]int{2}, most, most-1), true},
		{[]impl.Node{input(0), input(1), two(impl.ExMul, 0, 1)}, []impl.Tensor{tensorOf(nil, 1), tensorOf([]int{2}, most, -most)}, tensorOf([]int{2}, most, most-2), false},
		{[]impl.Node{input(0), input(1), input(2), two(impl.ExMul, 0, 1), two(impl.ExMul, 0, 2), two(impl.ExSub, 3, 4)}, scalar(1, most, most), tensorOf(nil, most), true},
		{[]impl.Node{input(0), input(1), input(2), two(impl.ExMul, 0, 1), two(impl.ExMul, 0, 2), two(impl.ExSub, 3, 4)}, scalar(1, most, most-2), tensorOf(nil, most), false},
		{[]impl.Node{input(0), input(1), two(impl.ExProduct, 0, 1)}, []impl.Tensor{tensorOf([]int{1, 2}, 0, 1), tensorOf([]int{2, 2}, most, -most, 1, -1)}, tensorOf([]int{1, 2}, most/2, most/2), true},
		{[]impl.Node{input(0), input(1), two(impl.ExProduct, 0, 1)}, []impl.Tensor{tensorOf([]int{1, 2}, 0, 1), tensorOf([]int{2, 2}, most, -most, 1, -1)}, tensorOf([]int{1, 2}, most/2, most/2+1), true},
		{[]impl.Node{input(0), input(1), two(impl.ExProduct, 0, 1)}, []impl.Tensor{tensorOf([]int{1, 2}, 0, 1), tensorOf([]int{2, 2}, most, -most, 1, -1)}, tensorOf([]int{1, 2}, most/2, most/2+2), false},
		// What nothing needs is worth nothing, so it adds nothing.
		{[]impl.Node{input(0), two(impl.ExMul, 0, 0), two(impl.ExMul, 1, 0), input(0)}, scalar(400), tensorOf(nil, most), true},
	} {
		var shapes [][]int
		for _, x := range c.inputs {
			shapes = append(shapes, x.Shape)
		}
		e := exprOf(shapes, c.nodes...)
		if got := checkBack(t, e, c.inputs, c.worth); got != c.ok {
			t.Errorf("%v of %v is worth something of %v: %v", e, c.inputs, c.worth, got)
		}
	}
}

// As far as it goes: one number is multiplied with 64 of the greatest ones in each of ten nodes.
func TestWorthOfAsMuchAsThereMayBe(t *testing.T) {
	const most = impl.MaxDot
	shape := []int{4, 4, 4}
	e := exprOf([][]int{nil, shape}, input(0), input(1))
	for len(e.Nodes) < impl.MaxNodes {
		e.Nodes = append(e.Nodes, two(impl.ExMul, 0, len(e.Nodes)-1))
		great, even := filled(shape, most), filled(shape, most)
		for i := range even.Nums {
			if i%2 == 1 {
				even.Nums[i] = -most
			}
		}
		checkNoBack(t, e, []impl.Tensor{tensorOf(nil, 1), great}, filled(shape, most))
		checkNoBack(t, e, []impl.Tensor{tensorOf(nil, 1), great}, filled(shape, -most))
		checkNoBack(t, e, []impl.Tensor{tensorOf(nil, -1), great}, filled(shape, most))
		got, ok := impl.BackOf(e, []impl.Tensor{tensorOf(nil, 1), even}, filled(shape, most))
		checkTensors(t, fmt.Sprintf("BackOf(%v)", e), got, ok, []impl.Tensor{tensorOf(nil, 0), filled(shape, most)})
		got, ok = impl.BackOf(e, []impl.Tensor{tensorOf(nil, 1), great}, even)
		checkTensors(t, fmt.Sprintf("BackOf(%v)", e), got, ok, []impl.Tensor{tensorOf(nil, 0), even})
	}
}

func TestDegreeOfByHand(t *testing.T) {
	for _, c := range []struct {
		want  int
		nodes []impl.Node
	}{
		{1, []impl.Node{input(0)}},
		{0, []impl.Node{number(9)}},
		{0, []impl.Node{input(0), number(9)}},
		{0, []impl.Node{number(1), number(2), two(impl.ExMul, 0, 1), two(impl.ExAdd, 2, 0), neg(3)}},
		{1, []impl.Node{input(0), number(3), two(impl.ExMul, 0, 1), two(impl.ExMul, 1, 2)}},
		{1, []impl.Node{input(0), number(3), two(impl.ExAdd, 0, 1)}},
		{1, []impl.Node{input(0), number(3), two(impl.ExSub, 1, 0)}},
		{2, []impl.Node{input(0), input(1), two(impl.ExMul, 0, 1)}},
		{2, []impl.Node{input(0), two(impl.ExMul, 0, 0), number(3), two(impl.ExAdd, 1, 2)}},
		{2, []impl.Node{input(0), two(impl.ExMul, 0, 0), two(impl.ExAdd, 0, 1)}},
		{2, []impl.Node{input(0), two(impl.ExMul, 0, 0), two(impl.ExSub, 1, 0)}},
		{2, []impl.Node{input(0), two(impl.ExMul, 0, 0), beside(0, 1, 0)}},
		{2, []impl.Node{input(0), two(impl.ExMul, 0, 0), beside(1, 0, 1)}},
		{2, []impl.Node{input(0), two(impl.ExProduct, 0, 0)}},
		{3, []impl.Node{input(0), two(impl.ExProduct, 0, 0), two(impl.ExProduct, 0, 1)}},
		{5, []impl.Node{input(0), two(impl.ExMul, 0, 0), two(impl.ExProduct, 1, 0), two(impl.ExMul, 1, 2)}},
		{2, []impl.Node{input(0), two(impl.ExMul, 0, 0), neg(1), turned(2, 1, 0), folded(3, 4), cut(4, 0, 1, 2), summed(5, 0)}},
		// The degree is what is told, not what is left of it: x - x, and a square times 0.
		{1, []impl.Node{input(0), two(impl.ExSub, 0, 0)}},
		{2, []impl.Node{input(0), two(impl.ExMul, 0, 0), two(impl.ExSub, 1, 1)}},
		{2, []impl.Node{input(0), two(impl.ExMul, 0, 0), number(0), two(impl.ExMul, 1, 2)}},
		// Only the last node counts.
		{1, []impl.Node{input(0), two(impl.ExMul, 0, 0), two(impl.ExMul, 1, 1), neg(0)}},
		{1, []impl.Node{input(0), two(impl.ExMul, 0, 0), input(1)}},
	} {
		e := exprOf([][]int{{2, 2}, {2, 2}}, c.nodes...)
		if got := impl.DegreeOf(e); got != c.want {
			t.Errorf("DegreeOf(%v) = %d, not %d", e, got, c.want)
		}
		checkSlopes(t, e, inputsFor(e)[1], inputsFor(e)[2], mixed(lastShape(e), 3))
	}
}

// Powers have their degree: as often as it the differences are what the product of all numbers up to it is, and no longer 0 before.
func TestDegreeOfPowers(t *testing.T) {
	e := exprOf([][]int{nil}, input(0))
	times := 1
	for degree := 2; degree <= 9; degree++ {
		e.Nodes = append(e.Nodes, two(impl.ExMul, degree-2, 0))
		times *= degree
		values, ok := shiftedValues(e, []impl.Tensor{tensorOf(nil, 0)}, []impl.Tensor{tensorOf(nil, 1)}, 0, 9)
		if !ok {
			t.Fatalf("%v has no values", e)
		}
		var row []int
		for _, nums := range values {
			row = append(row, nums[0])
		}
		if got := differences(row, degree); impl.DegreeOf(e) != degree || slices.Min(got) != times || slices.Max(got) != times {
			t.Errorf("DegreeOf(%v) = %d, the differences are %v", e, impl.DegreeOf(e), got)
		}
	}
}

// Each number of each input alone: it is worth what the slope is worth along 1 there, and noughts elsewhere.
func TestSlopesAlongOneNumber(t *testing.T) {
	d := &dice{state: 19}
	many := 0
	for range 300 {
		e := d.smooth(2 + d.below(impl.MaxNodes-1))
		inputs, worth := d.small(e, 4), d.tensor(lastShape(e), 9)
		back, ok := impl.BackOf(e, inputs, worth)
		if !ok {
			continue
		}
		for i, shape := range e.Inputs {
			for index := range countByRule(shape) {
				along := noughts(e)
				along[i].Nums[index] = 1
				slope, ok := impl.AlongOf(e, inputs, along)
				dot, dotOk := impl.DotOf(worth, slope)
				if !ok || !dotOk {
					continue
				}
				many++
				if dot != back[i].Nums[index] {
					t.Errorf("%v of %v: the number %d of the input %d is worth %d, not %d", e, inputs, index, i, back[i].Nums[index], dot)
				}
				checkShifts(t, e, inputs, along)
			}
		}
	}
	if many < 2000 {
		t.Errorf("only %d numbers are checked", many)
	}
}

// What is no smooth expression has no slope, no degree, and is worth nothing.
func TestSlopesOfWhatIsNotSmooth(t *testing.T) {
	shapes := [][]int{{2, 2}}
	greater := two(impl.ExMax, 0, 0)
	list := []impl.Expr{
		{}, exprOf(shapes), exprOf(nil, number(10)), exprOf(nil, input(0)), exprOf(shapes, input(1)), exprOf(shapes, input(0), neg(1)), exprOf(shapes, input(0), two(impl.ExMul, 0, 1)),
		exprOf(shapes, input(0), summed(0, 2)), exprOf(shapes, input(0), turned(0, 1, 1)), exprOf(shapes, input(0), folded(0, 3)), exprOf(shapes, input(0), cut(0, 0, 1, 2)),
		exprOf(shapes, input(0), cut(0, 0, 1, farUp)), exprOf(shapes, input(0), beside(0, 0, 2)), exprOf(shapes, input(0), node(13, 0, 0)), exprOf(shapes, input(0), node(-1, 0, 0)),
		exprOf([][]int{{5}}, number(1)), exprOf([][]int{{2}, {2}, {2}, {2}}, input(0)), exprOf(shapes, number(farUp), input(farDown), node(farUp, farDown, farUp, farUp)),
		exprOf(shapes, input(0), summed(0, 0), two(impl.ExProduct, 0, 1)), {Nodes: make([]impl.Node, 1000)}, {Inputs: make([][]int, 1000), Nodes: []impl.Node{number(1)}},
		// ExMax, be it the last one, a part, or not needed.
		exprOf(shapes, input(0), greater), exprOf(shapes, input(0), greater, number(1)), exprOf(shapes, input(0), greater, neg(1)), exprOf(shapes, input(0), greater, neg(0)), whole(),
	}
	for _, e := range list {
		if degree := impl.DegreeOf(e); degree != -1 {
			t.Errorf("DegreeOf(%v) = %d", e, degree)
		}
		inputs := make([]impl.Tensor, len(e.Inputs))
		for i, shape := range e.Inputs {
			if isShape(shape) {
				inputs[i] = filled(shape, 1)
			}
		}
		checkNoAlong(t, e, inputs, inputs)
		checkNoAlong(t, e, nil, nil)
		for _, worth := range []impl.Tensor{{}, tensorOf(nil, 1), filled([]int{2, 2}, 1), filled([]int{2, 2}, 0)} {
			checkNoBack(t, e, inputs, worth)
			checkNoBack(t, e, nil, worth)
		}
	}
	if slope, ok := impl.AlongOf(exprOf(shapes, input(0), two(impl.ExMul, 0, 0)), []impl.Tensor{filled(shapes[0], 1)}, []impl.Tensor{filled(shapes[0], 1)}); !ok || slope.Nums[0] != 2 {
		t.Errorf("the square has the slope %v, %v", slope, ok)
	}
}

// Tensors that are not of the shapes of the inputs are neither inputs nor directions, also of an input that no node is.
func TestDirectionsThatAreNone(t *testing.T) {
	e := exprOf([][]int{{2, 2}, {2}, nil}, input(0), input(1), two(impl.ExMul, 0, 1))
	good := []impl.Tensor{tensorOf([]int{2, 2}, 1, 2, 3, 4), tensorOf([]int{2}, 5, 6), tensorOf(nil, 7)}
	worth := tensorOf([]int{2, 2}, 1, 1, 1, 1)
	if sloped, valued := checkSlopes(t, e, good, good, worth); !sloped || !valued {
		t.Fatalf("%v has a slope: %v, is worth something: %v", e, sloped, valued)
	}
	bad := [][]impl.Tensor{
		nil, good[:1], good[:2], append(slices.Clone(good), good[0]), append(slices.Clone(good), impl.Tensor{}), make([]impl.Tensor, 3), make([]impl.Tensor, 1000),
		{good[1], good[0], good[2]}, {good[0], good[0], good[2]}, {good[0], good[1], good[1]},
	}
	for at := range good {
		for _, x := range noTensors() {
			list := slices.Clone(good)
			list[at] = x
			bad = append(bad, list)
		}
		for _, shape := range allShapes() {
			list := slices.Clone(good)
			list[at] = filled(shape, 1)
			if !sameInts(shape, e.Inputs[at]) {
				bad = append(bad, list)
			}
		}
		for _, num := range []int{impl.MaxNum + 1, -impl.MaxNum - 1, farUp, farDown} {
			list := slices.Clone(good)
			list[at] = tensorOf(good[at].Shape, with(good[at].Nums, 0, num)...)
			bad = append(bad, list)
		}
	}
	for _, list := range bad {
		checkNoAlong(t, e, good, list)
		checkNoAlong(t, e, list, good)
		checkNoAlong(t, e, list, list)
		checkNoBack(t, e, list, worth)
	}
	none := exprOf(nil, number(3))
	for _, list := range [][]impl.Tensor{{tensorOf(nil, 1)}, {{}}} {
		checkNoAlong(t, none, nil, list)
		checkNoAlong(t, none, list, nil)
		checkNoBack(t, none, list, tensorOf(nil, 1))
	}
	if !checkAlong(t, none, []impl.Tensor{}, nil) || !checkBack(t, none, nil, tensorOf(nil, 1)) {
		t.Errorf("%v has no slope", none)
	}
}

// Only a tensor of the shape of the last node is what the whole is worth.
func TestWorthsThatAreNone(t *testing.T) {
	for _, nodes := range [][]impl.Node{{input(0)}, {input(0), summed(0, 0)}, {input(0), folded(0, 1, 4)}, {input(0), number(2)}, {input(0), two(impl.ExProduct, 0, 0)}} {
		e := exprOf([][]int{{2, 2}}, nodes...)
		inputs := []impl.Tensor{tensorOf([]int{2, 2}, 1, 2, 3, 4)}
		for _, shape := range allShapes() {
			if sameInts(shape, lastShape(e)) {
				if !checkBack(t, e, inputs, filled(shape, 1)) {
					t.Errorf("%v is worth nothing", e)
				}
				continue
			}
			checkNoBack(t, e, inputs, filled(shape, 1))
			checkNoBack(t, e, inputs, filled(shape, 0))
		}
		for _, worth := range noTensors() {
			checkNoBack(t, e, inputs, worth)
		}
		for _, num := range []int{impl.MaxDot + 1, -impl.MaxDot - 1, impl.MaxNum, -impl.MaxNum, impl.MaxNum + 1, farUp, farDown} {
			worth := filled(lastShape(e), 0)
			worth.Nums[len(worth.Nums)-1] = num
			checkNoBack(t, e, inputs, worth)
		}
	}
}

func TestUnspreadOfByHand(t *testing.T) {
	rows := tensorOf([]int{2, 3}, 1, 2, 3, 4, 5, 6)
	for _, c := range []struct {
		x    impl.Tensor
		want impl.Tensor
	}{
		{tensorOf(nil, 7), tensorOf(nil, 7)},
		{rows, rows},
		{rows, tensorOf(nil, 21)},
		{rows, tensorOf([]int{1}, 21)},
		{rows, tensorOf([]int{3}, 5, 7, 9)},
		{rows, tensorOf([]int{1, 3}, 5, 7, 9)},
		{rows, tensorOf([]int{2, 1}, 6, 15)},
		{rows, tensorOf([]int{1, 1}, 21)},
		{numbered([]int{2, 2, 2}, 1), tensorOf([]int{2, 1, 2}, 4, 6, 12, 14)},
		{numbered([]int{2, 2, 2}, 1), tensorOf([]int{2, 1}, 14, 22)},
		{numbered([]int{2, 2, 2}, 1), tensorOf([]int{2}, 16, 20)},
		{numbered([]int{2, 2, 2}, 1), tensorOf([]int{2, 1, 1}, 10, 26)},
	} {
		got, ok := impl.UnspreadOf(c.x, c.want.Shape)
		checkTensor(t, fmt.Sprintf("UnspreadOf(%v, %v)", c.x, c.want.Shape), got, ok, c.want)
	}
}

// unspreadByRule sums by the words of the document all numbers whose index a place has.
func unspreadByRule(x impl.Tensor, shape []int) (impl.Tensor, bool) {
	joined, joins := joinedByRule(shape, x.Shape)
	if !joins || !sameInts(joined, x.Shape) {
		return impl.Tensor{}, false
	}
	sums := filled(shape, 0)
	for index, place := range placesOf(x.Shape) {
		sums.Nums[spreadByRule(shape, place)] += x.Nums[index]
	}
	return sums, true
}

func TestUnspreadOfOfAll(t *testing.T) {
	spreads := 0
	for _, over := range allShapes() {
		x := mixed(over, 5)
		for _, shape := range allShapes() {
			name := fmt.Sprintf("UnspreadOf(%v, %v)", x, shape)
			want, ok := unspreadByRule(x, shape)
			got, gotOk := impl.UnspreadOf(x, shape)
			if !ok {
				checkNone(t, name, got, gotOk)
				continue
			}
			spreads++
			checkTensor(t, name, got, gotOk, want)
			// What is unspread is worth what is spread is worth.
			y := mixed(shape, 6)
			spread, _ := impl.SpreadOf(y, over)
			a, okA := impl.DotOf(got, y)
			b, okB := impl.DotOf(x, spread)
			if !okA || !okB || a != b {
				t.Errorf("%s is worth %d, %v, and %d, %v spread", name, a, okA, b, okB)
			}
		}
		for _, shape := range noShapes() {
			got, ok := impl.UnspreadOf(x, shape)
			checkNone(t, fmt.Sprintf("UnspreadOf(%v, %v)", x, shape), got, ok)
		}
	}
	if spreads < 400 {
		t.Errorf("only %d shapes are spread", spreads)
	}
}

func TestUnspreadOfAtTheLimit(t *testing.T) {
	const most = impl.MaxNum
	for _, c := range []struct {
		x     impl.Tensor
		shape []int
		ok    bool
	}{
		{tensorOf([]int{2}, most, -most), []int{2}, true},
		{tensorOf([]int{2}, most, -most), nil, true},
		{tensorOf([]int{2}, most-1, 1), nil, true},
		{tensorOf([]int{2}, most, 1), nil, false},
		{tensorOf([]int{2}, -most, -1), []int{1}, false},
		{tensorOf([]int{3}, most, most, -most), []int{1}, true},
		{tensorOf([]int{2, 2}, most, 0, 1, 0), []int{2}, false},
		{tensorOf([]int{2, 2}, most, 0, 0, 1), []int{2}, true},
		{tensorOf([]int{2, 2}, most, 0, 0, 1), []int{2, 1}, true},
		{tensorOf([]int{2, 2}, 0, 0, most, 1), []int{2, 1}, false},
		{filled([]int{4, 4, 4}, most/64), nil, true},
		{filled([]int{4, 4, 4}, most), nil, false},
		{filled([]int{4, 4, 4}, -most), []int{4}, false},
		{filled([]int{4, 4, 4}, most), []int{4, 4, 4}, true},
	} {
		got, ok := impl.UnspreadOf(c.x, c.shape)
		name := fmt.Sprintf("UnspreadOf(%v, %v)", c.x, c.shape)
		if !c.ok {
			checkNone(t, name, got, ok)
			continue
		}
		want, _ := unspreadByRule(c.x, c.shape)
		checkTensor(t, name, got, ok, want)
	}
	for _, x := range noTensors() {
		for _, shape := range append([][]int{nil, {1}, {2}, {2, 2}, {1, 1, 1}, x.Shape}, noShapes()...) {
			got, ok := impl.UnspreadOf(x, shape)
			checkNone(t, fmt.Sprintf("UnspreadOf(%v, %v)", x, shape), got, ok)
		}
	}
}

func checkNoDot(t *testing.T, a, b impl.Tensor) {
	t.Helper()
	if dot, ok := impl.DotOf(a, b); ok || dot != 0 {
		t.Errorf("DotOf(%v, %v) = %d, %v, not 0 and false", a, b, dot, ok)
	}
}

func TestDotOf(t *testing.T) {
	const most = impl.MaxDot
	for _, c := range []struct {
		a, b impl.Tensor
		want int
	}{
		{tensorOf(nil, 3), tensorOf(nil, -5), -15},
		{tensorOf([]int{1}, 0), tensorOf([]int{1}, most), 0},
		{tensorOf([]int{3}, 1, 2, 3), tensorOf([]int{3}, 4, 5, 6), 32},
		{tensorOf([]int{2, 2}, 1, 2, 3, 4), tensorOf([]int{2, 2}, 1, 10, 100, 1000), 4321},
		{tensorOf([]int{2}, most, most), tensorOf([]int{2}, most, -most), 0},
		// The sum has no limit of its own.
		{tensorOf(nil, most), tensorOf(nil, most), 10000000000000000},
		{tensorOf(nil, most), tensorOf(nil, -most), -10000000000000000},
		{filled([]int{4, 4, 4}, most), filled([]int{4, 4, 4}, most), 640000000000000000},
		{filled([]int{4, 4, 4}, -most), filled([]int{4, 4, 4}, most), -640000000000000000},
	} {
		for _, pair := range [][]impl.Tensor{{c.a, c.b}, {c.b, c.a}} {
			if dot, ok := impl.DotOf(pair[0], pair[1]); !ok || dot != c.want {
				t.Errorf("DotOf(%v, %v) = %d, %v, not %d", pair[0], pair[1], dot, ok, c.want)
			}
		}
	}
	for _, a := range allShapes() {
		for _, b := range allShapes() {
			x, y := mixed(a, 1), mixed(b, 2)
			if !sameInts(a, b) {
				checkNoDot(t, x, y)
				continue
			}
			want := 0
			for i, num := range x.Nums {
				want += num * y.Nums[i]
			}
			if dot, ok := impl.DotOf(x, y); !ok || dot != want {
				t.Errorf("DotOf(%v, %v) = %d, %v, not %d", x, y, dot, ok, want)
			}
		}
	}
}

func TestDotOfOfNone(t *testing.T) {
	good := []impl.Tensor{tensorOf(nil, 1), tensorOf([]int{2}, 1, 2), tensorOf([]int{2, 2}, 1, 2, 3, 4)}
	for _, x := range good {
		for _, num := range []int{impl.MaxDot + 1, -impl.MaxDot - 1, impl.MaxNum, -impl.MaxNum, impl.MaxNum + 1, farUp, farDown} {
			for i := range x.Nums {
				bad := tensorOf(x.Shape, with(x.Nums, i, num)...)
				for _, other := range []impl.Tensor{x, bad, filled(x.Shape, 0)} {
					checkNoDot(t, bad, other)
					checkNoDot(t, other, bad)
				}
			}
		}
	}
	for _, bad := range noTensors() {
		for _, x := range append(slices.Clone(good), bad) {
			checkNoDot(t, bad, x)
			checkNoDot(t, x, bad)
		}
	}
}

func checkNoShift(t *testing.T, inputs, along []impl.Tensor, times int) {
	t.Helper()
	got, ok := impl.ShiftOf(inputs, along, times)
	checkNoTensors(t, fmt.Sprintf("ShiftOf(%v, %v, %d)", inputs, along, times), got, ok)
}

func TestShiftOf(t *testing.T) {
	const most = impl.MaxNum
	inputs := []impl.Tensor{tensorOf([]int{2, 2}, 1, 2, 3, 4), tensorOf(nil, 5), tensorOf([]int{3}, -1, 0, 1)}
	along := []impl.Tensor{tensorOf([]int{2, 2}, 1, 0, -1, 10), tensorOf(nil, -2), tensorOf([]int{3}, 5, 5, 5)}
	for times := -9; times <= 9; times++ {
		want := []impl.Tensor{tensorOf([]int{2, 2}, 1+times, 2, 3-times, 4+10*times), tensorOf(nil, 5-2*times), tensorOf([]int{3}, 5*times-1, 5*times, 5*times+1)}
		for many := range 4 {
			got, ok := impl.ShiftOf(inputs[:many], along[:many], times)
			checkTensors(t, fmt.Sprintf("ShiftOf(%v, %v, %d)", inputs[:many], along[:many], times), got, ok, want[:many])
		}
	}
	for _, times := range []int{10, -10, 11, 1000, farUp, farDown} {
		for many := range 4 {
			checkNoShift(t, inputs[:many], along[:many], times)
			checkNoShift(t, inputs[:many], inputs[:many], times)
		}
	}
	// Only what comes is limited.
	for _, c := range []struct {
		num, along, times int
		ok                bool
	}{
		{0, most, 1, true}, {0, most, -1, true}, {0, most, 0, true}, {1, most, 1, false}, {1, most, 0, true}, {-1, most, -1, false}, {0, most, 2, false},
		{-most, most, 1, true}, {-most, most, 2, true}, {-most, most, 3, false}, {most, most, -2, true}, {most, most, -3, false}, {most, most, 9, false},
		{-most, -most, -2, true}, {-most, -most, 9, false}, {most, 0, 9, true}, {1, 111111111, 9, true}, {2, 111111111, 9, false}, {-1, -111111111, 9, true}, {-2, 111111111, -9, false},
	} {
		for _, other := range [][]int{{0, 0}, {0, 1}, {1, 0}} {
			inputs := []impl.Tensor{tensorOf(nil, other[0]), tensorOf([]int{2}, other[1], c.num)}
			along := []impl.Tensor{tensorOf(nil, 1), tensorOf([]int{2}, 1, c.along)}
			if !c.ok {
				checkNoShift(t, inputs, along, c.times)
				continue
			}
			got, ok := impl.ShiftOf(inputs, along, c.times)
			want := []impl.Tensor{tensorOf(nil, other[0]+c.times), tensorOf([]int{2}, other[1]+c.times, c.num+c.times*c.along)}
			checkTensors(t, fmt.Sprintf("ShiftOf(%v, %v, %d)", inputs, along, c.times), got, ok, want)
		}
	}
}

func TestShiftOfOfNone(t *testing.T) {
	row, one, rows := tensorOf([]int{2}, 1, 2), tensorOf(nil, 1), tensorOf([]int{2, 2}, 1, 2, 3, 4)
	for _, times := range []int{0, 1, -9} {
		for _, lists := range [][2][]impl.Tensor{
			// Too many, or not as many.
			{{one, one, one, one}, {one, one, one, one}}, {make([]impl.Tensor, 1000), make([]impl.Tensor, 1000)},
			{{row, one}, {row}}, {{row}, {row, one}}, {nil, {one}}, {{one}, nil}, {{one, one, one}, {one, one, one, one}}, {{one, one, one, one}, {one, one, one}},
			// Others than of their shapes, though they have as many numbers, or could be spread.
			{{row}, {one}}, {{one}, {row}}, {{row, one}, {one, row}}, {{rows}, {tensorOf([]int{4}, 1, 2, 3, 4)}}, {{rows}, {row}}, {{row}, {rows}}, {{one}, {tensorOf([]int{1}, 1)}},
			{{tensorOf([]int{1, 2}, 1, 2)}, {tensorOf([]int{2, 1}, 1, 2)}},
		} {
			checkNoShift(t, lists[0], lists[1], times)
		}
		for _, bad := range noTensors() {
			checkNoShift(t, []impl.Tensor{bad}, []impl.Tensor{bad}, times)
			for _, x := range []impl.Tensor{row, one, rows} {
				checkNoShift(t, []impl.Tensor{bad}, []impl.Tensor{x}, times)
				checkNoShift(t, []impl.Tensor{x}, []impl.Tensor{bad}, times)
				checkNoShift(t, []impl.Tensor{one, x, bad}, []impl.Tensor{one, x, x}, times)
				checkNoShift(t, []impl.Tensor{one, x, x}, []impl.Tensor{one, x, bad}, times)
			}
		}
	}
}

// Whatever nodes, good or bad, and whatever tensors are told, there is an answer, and it is that of the words of the document.
func TestAnySlopes(t *testing.T) {
	d := &dice{state: 20}
	odd := []int{-1, 0, 0, 1, 1, 2, 3, 4, 5, 9, 12, 13, farUp, farDown}
	some, none := 0, 0
	for range 4000 {
		e := d.smooth(2 + d.below(5))
		inputs, along, worth := d.small(e, 9), d.small(e, 9), d.tensor(lastShape(e), 9)
		d.spoil(e, odd)
		if _, ok := shapesByRule(e); !ok || slices.ContainsFunc(e.Nodes, func(x impl.Node) bool { return x.Op == impl.ExMax }) {
			none++
			checkNoAlong(t, e, inputs, along)
			checkNoBack(t, e, inputs, worth)
			if degree := impl.DegreeOf(e); degree != -1 {
				t.Errorf("DegreeOf(%v) = %d", e, degree)
			}
			continue
		}
		some++
		if !sameInts(worth.Shape, lastShape(e)) {
			checkNoBack(t, e, inputs, worth)
			worth = d.tensor(lastShape(e), 9)
		}
		checkAlong(t, e, inputs, along)
		checkWorth(t, e, inputs, along, worth)
		checkShifts(t, e, inputs, along)
	}
	if some < 1000 || none < 1000 {
		t.Errorf("%d are smooth, %d are not", some, none)
	}
}

// guardedTensors returns tensors all of whose lists have unused capacity, filled with a mark.
func guardedTensors(list []impl.Tensor) []impl.Tensor {
	var g []impl.Tensor
	for _, x := range list {
		g = append(g, guardedTensor(x))
	}
	return append(g, tensorOf(nil, spare), tensorOf(nil, spare))[:len(list)]
}

func checkGuardedTensors(t *testing.T, name string, list, was []impl.Tensor) {
	t.Helper()
	for i, x := range list {
		checkGuardedTensor(t, name, x, was[i])
	}
	for _, x := range list[len(list) : len(list)+2] {
		checkTensor(t, name+" wrote behind an argument, which", x, true, tensorOf(nil, spare))
	}
}

// scribbleTensors writes over all that tensors have, unused capacity too, and fails if writing over one list of them changes another one.
func scribbleTensors(t *testing.T, name string, list []impl.Tensor) {
	t.Helper()
	list = list[:cap(list)]
	var lists [][]int
	for _, x := range list {
		lists = append(lists, x.Shape, x.Nums)
	}
	scribbleLists(t, name, lists)
	for i := range list {
		list[i] = tensorOf([]int{-spare}, -spare)
	}
}

// Nothing that is returned is part of an argument, or of anything else that is returned, and nothing is kept.
func TestSlopesShareNoMemory(t *testing.T) {
	d := &dice{state: 21}
	shape := []int{2, 2}
	list := []impl.Expr{
		exprOf(nil, number(1)), exprOf([][]int{shape}, number(1)), exprOf([][]int{shape, shape, shape}, input(1)), exprOf([][]int{shape}, input(0), folded(0, 2, 2)),
		exprOf([][]int{shape}, input(0), turned(0, 0, 1), cut(1, 0, 0, 2)), exprOf([][]int{shape}, input(0), input(0), beside(0, 1, 0)),
	}
	for range 150 {
		list = append(list, d.smooth(1+d.below(impl.MaxNodes)))
	}
	for _, was := range list {
		wasInputs, wasAlong, wasWorth := d.small(was, 3), d.small(was, 3), d.tensor(lastShape(was), 3)
		e, inputs, along, worth := guardedExpr(was), guardedTensors(wasInputs), guardedTensors(wasAlong), guardedTensor(wasWorth)
		// Twice, as what is written over the first time might be kept for the second one.
		for range 2 {
			checkSlopes(t, e, inputs, along, worth)
			slope, _ := impl.AlongOf(e, inputs, along)
			scribbleTensor(t, "AlongOf", slope)
			back, _ := impl.BackOf(e, inputs, worth)
			scribbleTensors(t, "BackOf", back)
			for _, times := range []int{0, 1, -9} {
				shifted, _ := impl.ShiftOf(inputs, along, times)
				scribbleTensors(t, "ShiftOf", shifted)
			}
			for i, other := range inputs {
				for _, to := range [][]int{worth.Shape, other.Shape, nil} {
					unspread, _ := impl.UnspreadOf(worth, to)
					scribbleTensor(t, "UnspreadOf", unspread)
				}
				impl.DotOf(other, along[i])
				impl.DotOf(other, other)
			}
			checkGuardedExpr(t, "a function of chapter 7", e, was)
			checkGuardedTensors(t, "a function of chapter 7", inputs, wasInputs)
			checkGuardedTensors(t, "a function of chapter 7", along, wasAlong)
			checkGuardedTensor(t, "a function of chapter 7", worth, wasWorth)
		}
		// One list as inputs, and as directions.
		same, _ := impl.AlongOf(e, inputs, inputs)
		scribbleTensor(t, "AlongOf", same)
		shifted, _ := impl.ShiftOf(inputs, inputs, 1)
		scribbleTensors(t, "ShiftOf", shifted)
		checkGuardedTensors(t, "a function of chapter 7", inputs, wasInputs)
	}
}
