package tests

import (
	"fmt"
	"testing"

	"loop.example/wholetensors/impl"
)

// allOps are the kinds of what comes of two numbers.
var allOps = []int{impl.OpAdd, impl.OpSub, impl.OpMul, impl.OpMax}

func tensorOf(shape []int, nums ...int) impl.Tensor {
	return impl.Tensor{Shape: shape, Nums: nums}
}

// filled returns the tensor of a shape that has one number at all places.
func filled(shape []int, num int) impl.Tensor {
	nums := make([]int, len(placesOf(shape)))
	for i := range nums {
		nums[i] = num
	}
	return tensorOf(shape, nums...)
}

// numbered returns the tensor of a shape whose numbers all differ, so that none is moved unseen.
func numbered(shape []int, first int) impl.Tensor {
	t := filled(shape, 0)
	for i := range t.Nums {
		t.Nums[i] = first + i
	}
	return t
}

// mixed returns the tensor of a shape with numbers of either sign, others for each seed.
func mixed(shape []int, seed int) impl.Tensor {
	t := filled(shape, 0)
	for i := range t.Nums {
		t.Nums[i] = (i*i*7+i*5+seed*(i+3)*11)%23 - 11
	}
	return t
}

func sameTensor(a, b impl.Tensor) bool {
	return sameInts(a.Shape, b.Shape) && sameInts(a.Nums, b.Nums)
}

func copyTensor(t impl.Tensor) impl.Tensor {
	return impl.Tensor{Shape: copyInts(t.Shape), Nums: copyInts(t.Nums)}
}

// at returns the number of a tensor at a place, by the words of the document.
func at(t impl.Tensor, place []int) int {
	for index, other := range placesOf(t.Shape) {
		if sameInts(other, place) {
			return t.Nums[index]
		}
	}
	panic(fmt.Sprintf("%v has no place %v", t.Shape, place))
}

// with returns numbers of which one is another one.
func with(list []int, at, num int) []int {
	list = copyInts(list)
	list[at] = num
	return list
}

// without returns numbers but for one of them.
func without(list []int, at int) []int {
	return append(copyInts(list[:at]), list[at+1:]...)
}

// noTensors returns what is no tensor: no shape, too few or too many numbers, or one that is too great.
func noTensors() []impl.Tensor {
	list := []impl.Tensor{
		{}, tensorOf(nil, 1, 2), tensorOf([]int{1}), tensorOf([]int{2}, 1), tensorOf([]int{2}, 1, 2, 3), tensorOf([]int{2, 2}, 1, 2, 3),
		tensorOf([]int{2, 2}), tensorOf([]int{2, 2}, 1, 2, 3, 4, 5), tensorOf([]int{2, 2}, 1, 2), tensorOf([]int{2, 2, 2}, 1, 2, 3, 4, 5, 6, 7),
		{Shape: []int{4, 4, 4}, Nums: make([]int, 63)}, {Shape: []int{4, 4, 4}, Nums: make([]int, 65)}, {Shape: []int{2}, Nums: make([]int, 1000)},
		tensorOf([]int{-1, -2}, 1, 2), tensorOf([]int{2, -1, -1}, 1, 2), tensorOf([]int{0, 1}), tensorOf([]int{1, 1, 1, 1}, 1),
	}
	// The numbers of these are as many as their sizes would be worth, if they were sizes.
	for many := range 10 {
		for _, shape := range [][]int{{many}, {many, 1}, {1, many}, {1, 1, many}, {many, 1, 1, 1}} {
			if many < 1 || many > impl.MaxAxis || len(shape) > impl.MaxAxes {
				list = append(list, impl.Tensor{Shape: shape, Nums: make([]int, many)})
			}
		}
	}
	for _, num := range []int{impl.MaxNum + 1, -impl.MaxNum - 1, farUp, farDown} {
		list = append(list, tensorOf(nil, num), tensorOf([]int{1}, num), tensorOf([]int{2}, 0, num), tensorOf([]int{2, 2}, num, 0, 0, 0))
		list = append(list, tensorOf([]int{2, 2}, 0, 0, 0, num), tensorOf([]int{1, 2, 1}, num, num), impl.Tensor{Shape: []int{2, 2, 2}, Nums: with(make([]int, 8), 5, num)})
	}
	for _, shape := range noShapes() {
		list = append(list, impl.Tensor{Shape: shape}, tensorOf(shape, 1), tensorOf(shape, 1, 2), impl.Tensor{Shape: shape, Nums: make([]int, len(shape))})
	}
	return list
}

// noAxes returns what is no axis of a tensor with so many axes.
func noAxes(axes int) []int {
	return []int{-1, -1 - axes, axes, axes + 1, impl.MaxAxes, farUp, farDown}
}

func checkTensor(t *testing.T, name string, got impl.Tensor, ok bool, want impl.Tensor) {
	t.Helper()
	if !ok || !sameTensor(got, want) {
		t.Errorf("%s = %v, %v, not %v", name, got, ok, want)
	}
}

func checkNone(t *testing.T, name string, got impl.Tensor, ok bool) {
	t.Helper()
	if ok || len(got.Shape) != 0 || len(got.Nums) != 0 {
		t.Errorf("%s = %v, %v, not nothing", name, got, ok)
	}
}

// checkSame fails if two ways to a tensor, each with what it tells, come to anything else.
func checkSame(t *testing.T, name string, a impl.Tensor, okA bool, b impl.Tensor, okB bool) {
	t.Helper()
	if okA != okB || !sameTensor(a, b) {
		t.Errorf("%s: %v, %v and %v, %v", name, a, okA, b, okB)
	}
}

func TestLimitsOfTensors(t *testing.T) {
	if impl.MaxNum != 1000000000 {
		t.Errorf("MaxNum = %d", impl.MaxNum)
	}
	if impl.OpAdd != 0 || impl.OpSub != 1 || impl.OpMul != 2 || impl.OpMax != 3 {
		t.Errorf("the kinds are %v", allOps)
	}
}

func TestTensorOk(t *testing.T) {
	for _, shape := range allShapes() {
		for _, num := range []int{0, 1, -1, impl.MaxNum, -impl.MaxNum} {
			if !impl.TensorOk(filled(shape, num)) {
				t.Errorf("numbers %d in the shape %v are no tensor", num, shape)
			}
		}
		zero := filled(shape, 0)
		count := len(zero.Nums)
		for index := range count {
			for _, num := range []int{impl.MaxNum + 1, -impl.MaxNum - 1, farUp, farDown} {
				if impl.TensorOk(impl.Tensor{Shape: shape, Nums: with(zero.Nums, index, num)}) {
					t.Errorf("%d at %d in the shape %v is a tensor", num, index, shape)
				}
			}
		}
		for many := 0; many <= 66; many++ {
			if got := impl.TensorOk(impl.Tensor{Shape: shape, Nums: make([]int, many)}); got != (many == count) {
				t.Errorf("TensorOk of %d numbers in the shape %v is %v", many, shape, got)
			}
		}
	}
	for _, x := range noTensors() {
		if impl.TensorOk(x) {
			t.Errorf("TensorOk(%v) = true", x)
		}
	}
}

func TestNumAt(t *testing.T) {
	for _, shape := range allShapes() {
		x := numbered(shape, 1)
		places := placesOf(shape)
		for index, place := range places {
			if got, ok := impl.NumAt(x, place); !ok || got != x.Nums[index] {
				t.Errorf("NumAt(%v, %v) = %d, %v", x, place, got, ok)
			}
		}
		last := places[len(places)-1]
		bad := [][]int{append(copyInts(last), 0), append([]int{0}, last...)}
		for axis, size := range shape {
			bad = append(bad, without(last, axis), with(last, axis, size), with(last, axis, -1), with(last, axis, farUp), with(last, axis, farDown))
		}
		for _, place := range bad {
			if got, ok := impl.NumAt(x, place); ok || got != 0 {
				t.Errorf("NumAt(%v, %v) = %d, %v", x, place, got, ok)
			}
		}
	}
	if got, ok := impl.NumAt(tensorOf([]int{2, 2}, 1, -impl.MaxNum, impl.MaxNum, 4), []int{0, 1}); !ok || got != -impl.MaxNum {
		t.Errorf("NumAt = %d, %v", got, ok)
	}
}

func TestNumAtOfNone(t *testing.T) {
	for _, x := range noTensors() {
		for _, place := range [][]int{nil, {0}, {1}, {0, 0}, {1, 1}, {0, 0, 0}, make([]int, len(x.Shape))} {
			if got, ok := impl.NumAt(x, place); ok || got != 0 {
				t.Errorf("NumAt(%v, %v) = %d, %v", x, place, got, ok)
			}
		}
	}
}

func TestSpreadOfByHand(t *testing.T) {
	for _, c := range []struct {
		x    impl.Tensor
		over []int
		want []int
	}{
		{tensorOf(nil, 7), nil, []int{7}},
		{tensorOf(nil, 7), []int{1}, []int{7}},
		{tensorOf(nil, 7), []int{2, 2}, []int{7, 7, 7, 7}},
		{tensorOf([]int{2}, 1, 2), []int{2}, []int{1, 2}},
		{tensorOf([]int{2}, 1, 2), []int{3, 2}, []int{1, 2, 1, 2, 1, 2}},
		{tensorOf([]int{3, 1}, 1, 2, 3), []int{3, 2}, []int{1, 1, 2, 2, 3, 3}},
		{tensorOf([]int{1, 1}, 5), []int{1, 2}, []int{5, 5}},
		{tensorOf([]int{2, 1, 2}, 1, 2, 3, 4), []int{2, 2, 2}, []int{1, 2, 1, 2, 3, 4, 3, 4}},
	} {
		got, ok := impl.SpreadOf(c.x, c.over)
		checkTensor(t, fmt.Sprintf("SpreadOf(%v, %v)", c.x, c.over), got, ok, tensorOf(c.over, c.want...))
	}
}

// spreadOfByRule tells by the words of the document what a tensor is when it is spread over a shape.
func spreadOfByRule(x impl.Tensor, over []int) (impl.Tensor, bool) {
	joined, joins := joinedByRule(x.Shape, over)
	if !joins || !sameInts(joined, over) {
		return impl.Tensor{}, false
	}
	spread := tensorOf(over)
	for _, place := range placesOf(over) {
		spread.Nums = append(spread.Nums, x.Nums[spreadByRule(x.Shape, place)])
	}
	return spread, true
}

func TestSpreadOfOfAll(t *testing.T) {
	for _, shape := range allShapes() {
		x := numbered(shape, 10)
		for _, over := range allShapes() {
			want, wantOk := spreadOfByRule(x, over)
			got, ok := impl.SpreadOf(x, over)
			checkSame(t, fmt.Sprintf("SpreadOf(%v, %v)", x, over), got, ok, want, wantOk)
		}
		for _, list := range noShapes() {
			got, ok := impl.SpreadOf(x, list)
			checkNone(t, fmt.Sprintf("SpreadOf(%v, %v)", x, list), got, ok)
		}
	}
}

func TestTwoOfByHand(t *testing.T) {
	rows := tensorOf([]int{2, 2}, 1, 2, 3, 4)
	row := tensorOf([]int{2}, 10, 20)
	column := tensorOf([]int{2, 1}, 10, 20)
	for _, c := range []struct {
		op         int
		a, b, want impl.Tensor
	}{
		{impl.OpAdd, tensorOf(nil, 3), tensorOf(nil, 4), tensorOf(nil, 7)},
		{impl.OpSub, tensorOf(nil, 3), tensorOf(nil, 4), tensorOf(nil, -1)},
		{impl.OpMul, tensorOf(nil, 3), tensorOf(nil, -4), tensorOf(nil, -12)},
		{impl.OpMax, tensorOf(nil, 3), tensorOf(nil, 4), tensorOf(nil, 4)},
		{impl.OpMax, tensorOf(nil, -3), tensorOf(nil, -4), tensorOf(nil, -3)},
		{impl.OpMax, tensorOf(nil, 5), tensorOf(nil, 5), tensorOf(nil, 5)},
		{impl.OpAdd, rows, row, tensorOf([]int{2, 2}, 11, 22, 13, 24)},
		{impl.OpSub, rows, row, tensorOf([]int{2, 2}, -9, -18, -7, -16)},
		{impl.OpSub, row, rows, tensorOf([]int{2, 2}, 9, 18, 7, 16)},
		{impl.OpMul, rows, row, tensorOf([]int{2, 2}, 10, 40, 30, 80)},
		{impl.OpMax, tensorOf([]int{2, 2}, 1, 30, 11, 4), row, tensorOf([]int{2, 2}, 10, 30, 11, 20)},
		{impl.OpAdd, rows, column, tensorOf([]int{2, 2}, 11, 12, 23, 24)},
		{impl.OpSub, row, column, tensorOf([]int{2, 2}, 0, 10, -10, 0)},
		{impl.OpAdd, rows, tensorOf(nil, 1), tensorOf([]int{2, 2}, 2, 3, 4, 5)},
		{impl.OpSub, tensorOf(nil, 1), tensorOf([]int{1, 1, 1}, 5), tensorOf([]int{1, 1, 1}, -4)},
		{impl.OpMul, tensorOf([]int{3}, 1, 2, 3), tensorOf([]int{2, 1}, 1, 10), tensorOf([]int{2, 3}, 1, 2, 3, 10, 20, 30)},
	} {
		got, ok := impl.TwoOf(c.op, c.a, c.b)
		checkTensor(t, fmt.Sprintf("TwoOf(%d, %v, %v)", c.op, c.a, c.b), got, ok, c.want)
	}
}

func twoByRule(op, x, y int) int {
	return []int{x + y, x - y, x * y, max(x, y)}[op]
}

func TestTwoOfOfAll(t *testing.T) {
	for _, shapeA := range allShapes() {
		a := mixed(shapeA, 1)
		for _, shapeB := range allShapes() {
			b := mixed(shapeB, 2)
			joined, joins := joinedByRule(shapeA, shapeB)
			for _, op := range allOps {
				name := fmt.Sprintf("TwoOf(%d, %v, %v)", op, a, b)
				got, ok := impl.TwoOf(op, a, b)
				if !joins {
					checkNone(t, name, got, ok)
					continue
				}
				want := tensorOf(joined)
				for _, place := range placesOf(joined) {
					x := a.Nums[spreadByRule(shapeA, place)]
					y := b.Nums[spreadByRule(shapeB, place)]
					want.Nums = append(want.Nums, twoByRule(op, x, y))
				}
				checkTensor(t, name, got, ok, want)
			}
		}
	}
}

func TestTwoOfAtTheLimit(t *testing.T) {
	const most = impl.MaxNum
	for _, c := range []struct {
		op, x, y int
		ok       bool
	}{
		{impl.OpAdd, most - 1, 1, true}, {impl.OpAdd, most, 1, false}, {impl.OpAdd, 1, most, false}, {impl.OpAdd, most, most, false},
		{impl.OpAdd, 1 - most, -1, true}, {impl.OpAdd, -most, -1, false}, {impl.OpAdd, -most, -most, false}, {impl.OpAdd, most, -most, true},
		{impl.OpSub, most - 1, -1, true}, {impl.OpSub, most, -1, false}, {impl.OpSub, -most, 1, false}, {impl.OpSub, 0, -most, true},
		{impl.OpSub, most, -most, false}, {impl.OpSub, -most, most, false}, {impl.OpSub, -1, most, false}, {impl.OpSub, -most, -most, true},
		{impl.OpMul, 31622, 31622, true}, {impl.OpMul, 31623, 31623, false}, {impl.OpMul, 31623, -31623, false}, {impl.OpMul, 100000, 10000, true},
		{impl.OpMul, -100000, 10000, true}, {impl.OpMul, most, 1, true}, {impl.OpMul, most, -1, true}, {impl.OpMul, most, 2, false}, {impl.OpMul, most, 0, true},
		{impl.OpMul, most, most, false}, {impl.OpMul, most, -most, false}, {impl.OpMul, 65536, 65536, false}, {impl.OpMul, 500000000, 2, true}, {impl.OpMul, 500000001, -2, false},
		{impl.OpMax, most, most, true}, {impl.OpMax, -most, -most, true}, {impl.OpMax, -most, most, true}, {impl.OpMax, most, -most, true},
	} {
		got, ok := impl.TwoOf(c.op, tensorOf(nil, c.x), tensorOf(nil, c.y))
		name := fmt.Sprintf("TwoOf(%d, %d, %d)", c.op, c.x, c.y)
		if c.ok {
			checkTensor(t, name, got, ok, tensorOf(nil, twoByRule(c.op, c.x, c.y)))
		} else {
			checkNone(t, name, got, ok)
		}
		// One number that is too great is enough, wherever it is.
		for index := range 6 {
			a := impl.Tensor{Shape: []int{2, 3}, Nums: with(make([]int, 6), index, c.x)}
			b := impl.Tensor{Shape: []int{2, 3}, Nums: with(make([]int, 6), index, c.y)}
			if _, ok := impl.TwoOf(c.op, a, b); ok != c.ok {
				t.Errorf("%s at %d is %v", name, index, ok)
			}
		}
	}
}

func TestTwoOfOfNone(t *testing.T) {
	one := tensorOf(nil, 1)
	for _, op := range []int{-1, 4, 5, 100, farUp, farDown} {
		got, ok := impl.TwoOf(op, one, one)
		checkNone(t, fmt.Sprintf("TwoOf(%d)", op), got, ok)
	}
	for _, x := range noTensors() {
		for _, op := range append(copyInts(allOps), -1, 4) {
			for _, other := range []impl.Tensor{one, tensorOf([]int{1}, 1), tensorOf([]int{2}, 1, 2), filled([]int{2, 2}, 0), x} {
				got, ok := impl.TwoOf(op, x, other)
				checkNone(t, fmt.Sprintf("TwoOf(%d, %v, %v)", op, x, other), got, ok)
				got, ok = impl.TwoOf(op, other, x)
				checkNone(t, fmt.Sprintf("TwoOf(%d, %v, %v)", op, other, x), got, ok)
			}
		}
	}
}

func TestNegOf(t *testing.T) {
	got, ok := impl.NegOf(tensorOf([]int{2, 2}, impl.MaxNum, -impl.MaxNum, 0, -5))
	checkTensor(t, "NegOf", got, ok, tensorOf([]int{2, 2}, -impl.MaxNum, impl.MaxNum, 0, 5))
	got, ok = impl.NegOf(tensorOf(nil, 3))
	checkTensor(t, "NegOf without axes", got, ok, tensorOf(nil, -3))
	for _, shape := range allShapes() {
		x := mixed(shape, 3)
		want := tensorOf(shape)
		for _, num := range x.Nums {
			want.Nums = append(want.Nums, -num)
		}
		got, ok := impl.NegOf(x)
		checkTensor(t, fmt.Sprintf("NegOf(%v)", x), got, ok, want)
		again, ok := impl.NegOf(got)
		checkTensor(t, fmt.Sprintf("NegOf(%v)", got), again, ok, x)
	}
	for _, x := range noTensors() {
		got, ok := impl.NegOf(x)
		checkNone(t, fmt.Sprintf("NegOf(%v)", x), got, ok)
	}
}

func TestSumAlongByHand(t *testing.T) {
	cube := tensorOf([]int{2, 2, 3}, 1, 2, 3, 4, 5, 6, 10, 20, 30, 40, 50, 60)
	for _, c := range []struct {
		x    impl.Tensor
		axis int
		want impl.Tensor
	}{
		{tensorOf([]int{1}, 4), 0, tensorOf(nil, 4)},
		{tensorOf([]int{4}, 1, 2, 3, -4), 0, tensorOf(nil, 2)},
		{tensorOf([]int{2, 2}, 1, 2, 3, 4), 0, tensorOf([]int{2}, 4, 6)},
		{tensorOf([]int{2, 2}, 1, 2, 3, 4), 1, tensorOf([]int{2}, 3, 7)},
		{cube, 0, tensorOf([]int{2, 3}, 11, 22, 33, 44, 55, 66)},
		{cube, 1, tensorOf([]int{2, 3}, 5, 7, 9, 50, 70, 90)},
		{cube, 2, tensorOf([]int{2, 2}, 6, 15, 60, 150)},
		{tensorOf([]int{2, 1}, 5, 6), 1, tensorOf([]int{2}, 5, 6)},
	} {
		got, ok := impl.SumAlong(c.x, c.axis)
		checkTensor(t, fmt.Sprintf("SumAlong(%v, %d)", c.x, c.axis), got, ok, c.want)
	}
}

func TestSumAlongOfAll(t *testing.T) {
	for _, shape := range allShapes() {
		x := mixed(shape, 4)
		for axis, size := range shape {
			want := tensorOf(without(shape, axis))
			for _, place := range placesOf(want.Shape) {
				sum := 0
				for num := range size {
					whole := append(copyInts(place[:axis]), num)
					sum += at(x, append(whole, place[axis:]...))
				}
				want.Nums = append(want.Nums, sum)
			}
			got, ok := impl.SumAlong(x, axis)
			checkTensor(t, fmt.Sprintf("SumAlong(%v, %d)", x, axis), got, ok, want)
		}
		for _, axis := range noAxes(len(shape)) {
			got, ok := impl.SumAlong(x, axis)
			checkNone(t, fmt.Sprintf("SumAlong(%v, %d)", x, axis), got, ok)
		}
	}
	for _, x := range noTensors() {
		for axis := -1; axis <= len(x.Shape) && axis < 5; axis++ {
			got, ok := impl.SumAlong(x, axis)
			checkNone(t, fmt.Sprintf("SumAlong(%v, %d)", x, axis), got, ok)
		}
	}
}

// Only what comes is limited: a sum may be beyond the limit on its way.
func TestSumAlongAtTheLimit(t *testing.T) {
	const most = impl.MaxNum
	for _, c := range []struct {
		nums []int
		ok   bool
	}{
		{[]int{most}, true}, {[]int{most, 0}, true}, {[]int{most, 1}, false}, {[]int{most - 1, 1}, true}, {[]int{-most, -1}, false}, {[]int{1 - most, -1}, true},
		{[]int{most, most, -most}, true}, {[]int{-most, -most, most}, true}, {[]int{most, most, -most, -most}, true}, {[]int{most, most, -most, 1}, false},
		{[]int{most, most, most, most}, false}, {[]int{-most, -most, -most, -most}, false},
	} {
		sum := 0
		for _, num := range c.nums {
			sum += num
		}
		got, ok := impl.SumAlong(tensorOf([]int{len(c.nums)}, c.nums...), 0)
		name := fmt.Sprintf("the sum of %v", c.nums)
		if c.ok {
			checkTensor(t, name, got, ok, tensorOf(nil, sum))
		} else {
			checkNone(t, name, got, ok)
		}
		// The same beside noughts, along either axis.
		rows := append(make([]int, len(c.nums)), c.nums...)
		x := tensorOf([]int{2, len(c.nums)}, rows...)
		if _, ok := impl.SumAlong(x, 1); ok != c.ok {
			t.Errorf("%s in a row is %v", name, ok)
		}
		turned, _ := impl.TurnOf(x, []int{1, 0})
		if _, ok := impl.SumAlong(turned, 0); ok != c.ok {
			t.Errorf("%s in a column is %v", name, ok)
		}
	}
}

func TestTurnOfByHand(t *testing.T) {
	cube := tensorOf([]int{2, 3, 1}, 1, 2, 3, 4, 5, 6)
	long := tensorOf([]int{2, 2, 3}, 1, 2, 3, 4, 5, 6, 7, 8, 9, 10, 11, 12)
	for _, c := range []struct {
		x    impl.Tensor
		turn []int
		want impl.Tensor
	}{
		{tensorOf(nil, 9), nil, tensorOf(nil, 9)},
		{tensorOf([]int{3}, 1, 2, 3), []int{0}, tensorOf([]int{3}, 1, 2, 3)},
		{tensorOf([]int{2, 2}, 1, 2, 3, 4), []int{1, 0}, tensorOf([]int{2, 2}, 1, 3, 2, 4)},
		{tensorOf([]int{2, 3}, 1, 2, 3, 4, 5, 6), []int{1, 0}, tensorOf([]int{3, 2}, 1, 4, 2, 5, 3, 6)},
		{tensorOf([]int{2, 3}, 1, 2, 3, 4, 5, 6), []int{0, 1}, tensorOf([]int{2, 3}, 1, 2, 3, 4, 5, 6)},
		{cube, []int{1, 2, 0}, tensorOf([]int{3, 1, 2}, 1, 4, 2, 5, 3, 6)},
		{cube, []int{2, 0, 1}, tensorOf([]int{1, 2, 3}, 1, 2, 3, 4, 5, 6)},
		{long, []int{1, 2, 0}, tensorOf([]int{2, 3, 2}, 1, 7, 2, 8, 3, 9, 4, 10, 5, 11, 6, 12)},
		{long, []int{2, 0, 1}, tensorOf([]int{3, 2, 2}, 1, 4, 7, 10, 2, 5, 8, 11, 3, 6, 9, 12)},
	} {
		got, ok := impl.TurnOf(c.x, c.turn)
		checkTensor(t, fmt.Sprintf("TurnOf(%v, %v)", c.x, c.turn), got, ok, c.want)
	}
}

func TestTurnOfOfAll(t *testing.T) {
	for _, shape := range allShapes() {
		x := numbered(shape, 1)
		for _, turn := range allTurns() {
			name := fmt.Sprintf("TurnOf(%v, %v)", x, turn)
			got, ok := impl.TurnOf(x, turn)
			if len(turn) != len(shape) {
				checkNone(t, name, got, ok)
				continue
			}
			turned := make([]int, len(shape))
			for i, axis := range turn {
				turned[i] = shape[axis]
			}
			if !ok || !sameInts(got.Shape, turned) || len(got.Nums) != len(x.Nums) {
				t.Fatalf("%s = %v, %v", name, got, ok)
			}
			for index, place := range placesOf(shape) {
				there := make([]int, len(place))
				for i, axis := range turn {
					there[i] = place[axis]
				}
				if num := at(got, there); num != x.Nums[index] {
					t.Errorf("%s has %d at %v, not %d", name, num, there, x.Nums[index])
				}
			}
			back, _ := impl.BackTurn(turn)
			again, ok := impl.TurnOf(got, back)
			checkTensor(t, name+" turned back", again, ok, x)
		}
		for _, list := range noTurns() {
			got, ok := impl.TurnOf(x, list)
			checkNone(t, fmt.Sprintf("TurnOf(%v, %v)", x, list), got, ok)
		}
	}
	for _, x := range noTensors() {
		for _, turn := range allTurns() {
			got, ok := impl.TurnOf(x, turn)
			checkNone(t, fmt.Sprintf("TurnOf(%v, %v)", x, turn), got, ok)
		}
	}
}

func TestFoldOf(t *testing.T) {
	for _, shape := range allShapes() {
		x := numbered(shape, -7)
		for _, other := range allShapes() {
			name := fmt.Sprintf("FoldOf(%v, %v)", x, other)
			got, ok := impl.FoldOf(x, other)
			if len(placesOf(other)) == len(x.Nums) {
				checkTensor(t, name, got, ok, impl.Tensor{Shape: other, Nums: x.Nums})
			} else {
				checkNone(t, name, got, ok)
			}
		}
		for _, list := range append(noShapes(), []int{len(x.Nums), 1, 1, 1}, []int{-1, -len(x.Nums)}) {
			got, ok := impl.FoldOf(x, list)
			checkNone(t, fmt.Sprintf("FoldOf(%v, %v)", x, list), got, ok)
		}
	}
	for _, x := range noTensors() {
		for _, shape := range [][]int{nil, {1}, {2}, {1, 1}, {2, 2}, {4, 2}, {2, 2, 2}, x.Shape} {
			got, ok := impl.FoldOf(x, shape)
			checkNone(t, fmt.Sprintf("FoldOf(%v, %v)", x, shape), got, ok)
		}
	}
	// Without axes there is one place, as there is in axes of 1; so many as no shape has are in none.
	got, ok := impl.FoldOf(tensorOf(nil, 5), []int{1, 1, 1})
	checkTensor(t, "FoldOf", got, ok, tensorOf([]int{1, 1, 1}, 5))
	got, ok = impl.FoldOf(tensorOf([]int{1, 1, 1}, 5), nil)
	checkTensor(t, "FoldOf", got, ok, tensorOf(nil, 5))
	got, ok = impl.FoldOf(numbered([]int{2, 3}, 1), []int{6})
	checkNone(t, "FoldOf", got, ok)
}

func TestCutOfByHand(t *testing.T) {
	rows := tensorOf([]int{2, 3}, 1, 2, 3, 4, 5, 6)
	for _, c := range []struct {
		axis, from, many int
		want             impl.Tensor
	}{
		{0, 0, 1, tensorOf([]int{1, 3}, 1, 2, 3)},
		{0, 1, 1, tensorOf([]int{1, 3}, 4, 5, 6)},
		{0, 0, 2, rows},
		{1, 0, 1, tensorOf([]int{2, 1}, 1, 4)},
		{1, 2, 1, tensorOf([]int{2, 1}, 3, 6)},
		{1, 0, 2, tensorOf([]int{2, 2}, 1, 2, 4, 5)},
		{1, 1, 2, tensorOf([]int{2, 2}, 2, 3, 5, 6)},
		{1, 0, 3, rows},
	} {
		got, ok := impl.CutOf(rows, c.axis, c.from, c.many)
		checkTensor(t, fmt.Sprintf("CutOf(%v, %d, %d, %d)", rows, c.axis, c.from, c.many), got, ok, c.want)
	}
}

// cutByRule tells by the words of the document what a part of a tensor is.
func cutByRule(x impl.Tensor, axis, from, many int) impl.Tensor {
	part := tensorOf(with(x.Shape, axis, many))
	for index, place := range placesOf(x.Shape) {
		if place[axis] >= from && place[axis] < from+many {
			part.Nums = append(part.Nums, x.Nums[index])
		}
	}
	return part
}

func TestCutOfOfAll(t *testing.T) {
	for _, shape := range allShapes() {
		x := numbered(shape, 1)
		for axis := -1; axis <= 4; axis++ {
			for from := -2; from <= 5; from++ {
				for many := -2; many <= 6; many++ {
					name := fmt.Sprintf("CutOf(%v, %d, %d, %d)", x, axis, from, many)
					got, ok := impl.CutOf(x, axis, from, many)
					if axis < 0 || axis >= len(shape) || from < 0 || many < 1 || from+many > shape[axis] {
						checkNone(t, name, got, ok)
					} else {
						checkTensor(t, name, got, ok, cutByRule(x, axis, from, many))
					}
				}
			}
		}
		for axis, size := range shape {
			whole, ok := impl.CutOf(x, axis, 0, size)
			checkTensor(t, "the whole of a tensor", whole, ok, x)
		}
	}
}

func TestCutOfOfNone(t *testing.T) {
	rows := filled([]int{2, 3}, 1)
	far := []int{farUp, farUp - 1, farDown, farDown + 1, 1 << 62, -1 << 62}
	for _, a := range far {
		for _, b := range append(far, -1, 0, 1, 2) {
			for _, c := range append(far, -1, 0, 1, 2) {
				for _, args := range [][]int{{a, b, c}, {0, a, b}, {1, b, a}} {
					got, ok := impl.CutOf(rows, args[0], args[1], args[2])
					checkNone(t, fmt.Sprintf("CutOf of %v", args), got, ok)
				}
			}
		}
	}
	for _, x := range noTensors() {
		for axis := range 3 {
			for many := range 3 {
				got, ok := impl.CutOf(x, axis, 0, many)
				checkNone(t, fmt.Sprintf("CutOf(%v, %d, 0, %d)", x, axis, many), got, ok)
			}
		}
	}
}

func TestBesideOfByHand(t *testing.T) {
	rows := tensorOf([]int{2, 2}, 1, 2, 3, 4)
	for _, c := range []struct {
		a, b impl.Tensor
		axis int
		want impl.Tensor
	}{
		{tensorOf([]int{1}, 1), tensorOf([]int{3}, 2, 3, 4), 0, tensorOf([]int{4}, 1, 2, 3, 4)},
		{rows, rows, 0, tensorOf([]int{4, 2}, 1, 2, 3, 4, 1, 2, 3, 4)},
		{rows, rows, 1, tensorOf([]int{2, 4}, 1, 2, 1, 2, 3, 4, 3, 4)},
		{rows, tensorOf([]int{1, 2}, 5, 6), 0, tensorOf([]int{3, 2}, 1, 2, 3, 4, 5, 6)},
		{tensorOf([]int{1, 2}, 5, 6), rows, 0, tensorOf([]int{3, 2}, 5, 6, 1, 2, 3, 4)},
		{rows, tensorOf([]int{2, 1}, 5, 6), 1, tensorOf([]int{2, 3}, 1, 2, 5, 3, 4, 6)},
		{tensorOf([]int{2, 1}, 5, 6), rows, 1, tensorOf([]int{2, 3}, 5, 1, 2, 6, 3, 4)},
		{tensorOf([]int{2, 1, 2}, 1, 2, 3, 4), tensorOf([]int{2, 1, 2}, 5, 6, 7, 8), 1, tensorOf([]int{2, 2, 2}, 1, 2, 5, 6, 3, 4, 7, 8)},
	} {
		got, ok := impl.BesideOf(c.a, c.b, c.axis)
		checkTensor(t, fmt.Sprintf("BesideOf(%v, %v, %d)", c.a, c.b, c.axis), got, ok, c.want)
	}
}

// besideByRule tells by the words of the document what two tensors are beside each other.
func besideByRule(a, b impl.Tensor, axis int) (impl.Tensor, bool) {
	if axis < 0 || axis >= len(a.Shape) || axis >= len(b.Shape) || !sameInts(without(a.Shape, axis), without(b.Shape, axis)) {
		return impl.Tensor{}, false
	}
	first := a.Shape[axis]
	both := tensorOf(with(a.Shape, axis, first+b.Shape[axis]))
	if both.Shape[axis] > impl.MaxAxis {
		return impl.Tensor{}, false
	}
	for _, place := range placesOf(both.Shape) {
		if place[axis] < first {
			both.Nums = append(both.Nums, at(a, place))
		} else {
			both.Nums = append(both.Nums, at(b, with(place, axis, place[axis]-first)))
		}
	}
	return both, true
}

func TestBesideOfOfAll(t *testing.T) {
	for _, shapeA := range allShapes() {
		a := numbered(shapeA, 1)
		for _, shapeB := range allShapes() {
			b := numbered(shapeB, 101)
			for axis := -1; axis <= 3; axis++ {
				want, wantOk := besideByRule(a, b, axis)
				got, ok := impl.BesideOf(a, b, axis)
				checkSame(t, fmt.Sprintf("BesideOf(%v, %v, %d)", a, b, axis), got, ok, want, wantOk)
			}
		}
	}
}

func TestBesideOfOfNone(t *testing.T) {
	for _, axis := range []int{-2, -1, 2, 3, farUp, farDown} {
		got, ok := impl.BesideOf(filled([]int{2, 2}, 1), filled([]int{2, 2}, 1), axis)
		checkNone(t, fmt.Sprintf("BesideOf along %d", axis), got, ok)
	}
	for _, x := range noTensors() {
		for _, other := range []impl.Tensor{tensorOf(nil, 1), tensorOf([]int{1}, 1), tensorOf([]int{2}, 1, 2), filled([]int{2, 2}, 1), filled([]int{2, 2, 2}, 1), x} {
			for axis := -1; axis <= 3; axis++ {
				got, ok := impl.BesideOf(x, other, axis)
				checkNone(t, fmt.Sprintf("BesideOf(%v, %v, %d)", x, other, axis), got, ok)
				got, ok = impl.BesideOf(other, x, axis)
				checkNone(t, fmt.Sprintf("BesideOf(%v, %v, %d)", other, x, axis), got, ok)
			}
		}
	}
}

// Two parts that are cut from a tensor are the whole of it beside each other, and can be cut from it again.
func TestPartsMakeTheWhole(t *testing.T) {
	for _, shape := range allShapes() {
		x := numbered(shape, 1)
		for axis, size := range shape {
			for first := 1; first < size; first++ {
				a, _ := impl.CutOf(x, axis, 0, first)
				b, _ := impl.CutOf(x, axis, first, size-first)
				whole, ok := impl.BesideOf(a, b, axis)
				checkTensor(t, fmt.Sprintf("the parts of %v from %d along %d", x, first, axis), whole, ok, x)
			}
		}
	}
}

func TestProductOfByHand(t *testing.T) {
	rows := tensorOf([]int{2, 2}, 1, 2, 3, 4)
	for _, c := range []struct{ a, b, want impl.Tensor }{
		{rows, rows, tensorOf([]int{2, 2}, 7, 10, 15, 22)},
		{rows, tensorOf([]int{2, 2}, 1, 0, 0, 1), rows},
		{tensorOf([]int{2, 2}, 1, 0, 0, 1), rows, rows},
		{tensorOf([]int{1, 1}, 6), tensorOf([]int{1, 1}, -7), tensorOf([]int{1, 1}, -42)},
		{tensorOf([]int{1, 3}, 1, 2, 3), tensorOf([]int{3, 1}, 4, 5, 6), tensorOf([]int{1, 1}, 32)},
		{tensorOf([]int{2, 1}, 1, 2), tensorOf([]int{1, 3}, 4, 5, 6), tensorOf([]int{2, 3}, 4, 5, 6, 8, 10, 12)},
		{tensorOf([]int{2, 3}, 1, 2, 3, 4, 5, 6), tensorOf([]int{3, 2}, 1, 2, 3, 4, 5, 6), tensorOf([]int{2, 2}, 22, 28, 49, 64)},
		{tensorOf([]int{1, 2}, 1, 2), rows, tensorOf([]int{1, 2}, 7, 10)},
	} {
		got, ok := impl.ProductOf(c.a, c.b)
		checkTensor(t, fmt.Sprintf("ProductOf(%v, %v)", c.a, c.b), got, ok, c.want)
	}
}

func TestProductOfOfAll(t *testing.T) {
	for _, shapeA := range allShapes() {
		a := mixed(shapeA, 5)
		for _, shapeB := range allShapes() {
			b := mixed(shapeB, 6)
			name := fmt.Sprintf("ProductOf(%v, %v)", a, b)
			got, ok := impl.ProductOf(a, b)
			if len(shapeA) != 2 || len(shapeB) != 2 || shapeA[1] != shapeB[0] {
				checkNone(t, name, got, ok)
				continue
			}
			want := tensorOf([]int{shapeA[0], shapeB[1]})
			for _, place := range placesOf(want.Shape) {
				sum := 0
				for k := range shapeA[1] {
					sum += at(a, []int{place[0], k}) * at(b, []int{k, place[1]})
				}
				want.Nums = append(want.Nums, sum)
			}
			checkTensor(t, name, got, ok, want)
		}
	}
}

// Only what comes is limited: products, and sums on their way, may be beyond the limit.
func TestProductOfAtTheLimit(t *testing.T) {
	const most = impl.MaxNum
	for _, c := range []struct {
		row, column []int
		ok          bool
	}{
		{[]int{most}, []int{1}, true}, {[]int{most}, []int{-1}, true}, {[]int{most}, []int{2}, false}, {[]int{31623}, []int{31623}, false},
		{[]int{most, 1}, []int{1, 1}, false}, {[]int{most, 1}, []int{1, -1}, true}, {[]int{-most, 1}, []int{1, -1}, false},
		{[]int{most, most}, []int{most, -most}, true}, {[]int{most, most, 1}, []int{most, -most, most}, true},
		{[]int{most, most, 1, 1}, []int{most, -most, most, 1}, false}, {[]int{most, most, most, most}, []int{1, 1, -1, 0}, true},
		{[]int{most, most, most, most}, []int{most, most, -most, -most}, true},
		{[]int{most, most, most, most}, []int{most, most, most, most}, false}, {[]int{most, most, most, most}, []int{-most, -most, -most, -most}, false},
	} {
		sum := 0
		for i, num := range c.row {
			sum += num * c.column[i]
		}
		name := fmt.Sprintf("the product of %v and %v", c.row, c.column)
		a := tensorOf([]int{1, len(c.row)}, c.row...)
		b := tensorOf([]int{len(c.column), 1}, c.column...)
		got, ok := impl.ProductOf(a, b)
		if c.ok {
			checkTensor(t, name, got, ok, tensorOf([]int{1, 1}, sum))
		} else {
			checkNone(t, name, got, ok)
		}
		// The same as the last one of several numbers.
		a, _ = impl.BesideOf(filled(a.Shape, 0), a, 0)
		b, _ = impl.BesideOf(filled(b.Shape, 0), b, 1)
		if _, ok := impl.ProductOf(a, b); ok != c.ok {
			t.Errorf("%s among others is %v", name, ok)
		}
	}
}

func TestProductOfOfNone(t *testing.T) {
	for _, x := range noTensors() {
		for _, other := range []impl.Tensor{tensorOf([]int{1, 1}, 1), tensorOf([]int{1, 2}, 1, 2), tensorOf([]int{2, 1}, 1, 2), filled([]int{2, 2}, 0), x} {
			got, ok := impl.ProductOf(x, other)
			checkNone(t, fmt.Sprintf("ProductOf(%v, %v)", x, other), got, ok)
			got, ok = impl.ProductOf(other, x)
			checkNone(t, fmt.Sprintf("ProductOf(%v, %v)", other, x), got, ok)
		}
	}
}

// moves returns all ways there are to move the numbers of a tensor of a shape, or some of them, told as a name and numbers.
func moves(shape []int) []move {
	list := []move{{name: "spread", nums: shape}}
	for _, other := range allShapes() {
		joined, joins := joinedByRule(shape, other)
		if joins && sameInts(joined, other) {
			list = append(list, move{name: "spread", nums: other})
		}
		if len(placesOf(other)) == len(placesOf(shape)) {
			list = append(list, move{name: "fold", nums: other})
		}
	}
	for _, turn := range allTurns() {
		if len(turn) == len(shape) {
			list = append(list, move{name: "turn", nums: turn})
		}
	}
	for axis, size := range shape {
		for from := range size {
			for many := 1; from+many <= size; many++ {
				list = append(list, move{name: "cut", nums: []int{axis, from, many}})
			}
		}
	}
	return list
}

type move struct {
	name string
	nums []int
}

func (m move) do(x impl.Tensor) (impl.Tensor, bool) {
	switch m.name {
	case "spread":
		return impl.SpreadOf(x, m.nums)
	case "fold":
		return impl.FoldOf(x, m.nums)
	case "turn":
		return impl.TurnOf(x, m.nums)
	}
	return impl.CutOf(x, m.nums[0], m.nums[1], m.nums[2])
}

// Promise 2: what is done number by number may be done ahead of a move, or behind it.
func TestWhatIsDoneGoesPastWhatMoves(t *testing.T) {
	for _, shape := range allShapes() {
		a := mixed(shape, 7)
		b := mixed(shape, 8)
		for _, m := range moves(shape) {
			movedA, okA := m.do(a)
			movedB, okB := m.do(b)
			if !okA || !okB {
				t.Fatalf("%v of %v is none", m, shape)
			}
			for _, op := range allOps {
				whole, _ := impl.TwoOf(op, a, b)
				ahead, aheadOk := m.do(whole)
				behind, behindOk := impl.TwoOf(op, movedA, movedB)
				if !aheadOk || !behindOk || !sameTensor(ahead, behind) {
					t.Errorf("%d and %v of %v and %v: %v, %v and %v, %v", op, m, a, b, ahead, aheadOk, behind, behindOk)
				}
			}
			whole, _ := impl.NegOf(a)
			ahead, aheadOk := m.do(whole)
			behind, behindOk := impl.NegOf(movedA)
			if !aheadOk || !behindOk || !sameTensor(ahead, behind) {
				t.Errorf("the negative and %v of %v: %v, %v and %v, %v", m, a, ahead, aheadOk, behind, behindOk)
			}
		}
	}
}

// Promise 2, of two tensors beside each other.
func TestWhatIsDoneGoesPastWhatIsBeside(t *testing.T) {
	for _, shape := range allShapes() {
		for axis, size := range shape {
			for other := 1; size+other <= impl.MaxAxis; other++ {
				otherShape := with(shape, axis, other)
				a, b := mixed(shape, 9), mixed(shape, 10)
				c, d := mixed(otherShape, 11), mixed(otherShape, 12)
				ac, _ := impl.BesideOf(a, c, axis)
				bd, _ := impl.BesideOf(b, d, axis)
				for _, op := range allOps {
					ab, _ := impl.TwoOf(op, a, b)
					cd, _ := impl.TwoOf(op, c, d)
					ahead, aheadOk := impl.BesideOf(ab, cd, axis)
					behind, behindOk := impl.TwoOf(op, ac, bd)
					if !aheadOk || !behindOk || !sameTensor(ahead, behind) {
						t.Errorf("%d of %v and %v, and of %v and %v, beside each other along %d: %v and %v", op, a, b, c, d, axis, ahead, behind)
					}
				}
				negA, _ := impl.NegOf(a)
				negC, _ := impl.NegOf(c)
				ahead, aheadOk := impl.BesideOf(negA, negC, axis)
				behind, behindOk := impl.NegOf(ac)
				if !aheadOk || !behindOk || !sameTensor(ahead, behind) {
					t.Errorf("the negatives of %v and %v beside each other along %d: %v and %v", a, c, axis, ahead, behind)
				}
			}
		}
	}
}

// Promise 2, of tensors of two shapes: it is all the same when they are spread.
func TestWhatIsDoneSpreadsFirst(t *testing.T) {
	for _, shapeA := range allShapes() {
		a := mixed(shapeA, 13)
		for _, shapeB := range allShapes() {
			b := mixed(shapeB, 14)
			joined, joins := joinedByRule(shapeA, shapeB)
			if !joins {
				continue
			}
			spreadA, okA := impl.SpreadOf(a, joined)
			spreadB, okB := impl.SpreadOf(b, joined)
			if !okA || !okB {
				t.Fatalf("%v or %v is not spread over %v", shapeA, shapeB, joined)
			}
			for _, op := range allOps {
				two, ok := impl.TwoOf(op, a, b)
				for _, pair := range [][]impl.Tensor{{spreadA, spreadB}, {spreadA, b}, {a, spreadB}} {
					other, otherOk := impl.TwoOf(op, pair[0], pair[1])
					if !ok || !otherOk || !sameTensor(two, other) {
						t.Errorf("%d of %v and %v: %v, and spread: %v", op, a, b, two, other)
					}
				}
			}
		}
	}
}

// Promise 2, of numbers that grow too great: what keeps all numbers finds no tensor on either way, while a part without them is one.
func TestWhatGrowsTooGreatGoesPastWhatMoves(t *testing.T) {
	for _, shape := range allShapes() {
		for index := range placesOf(shape) {
			x := filled(shape, 0)
			x.Nums[index] = impl.MaxNum
			for _, m := range moves(shape) {
				moved, _ := m.do(x)
				great := false
				for _, num := range moved.Nums {
					great = great || num == impl.MaxNum
				}
				two, ok := impl.TwoOf(impl.OpAdd, moved, moved)
				if great {
					checkNone(t, fmt.Sprintf("twice %v of %v", m, x), two, ok)
				} else {
					checkTensor(t, fmt.Sprintf("twice %v of %v", m, x), two, ok, moved)
				}
			}
		}
	}
}

// guardedTensor returns a tensor whose lists have unused capacity, filled with a mark.
func guardedTensor(x impl.Tensor) impl.Tensor {
	return impl.Tensor{Shape: guarded(x.Shape), Nums: guarded(x.Nums)}
}

func checkGuardedTensor(t *testing.T, name string, x, was impl.Tensor) {
	t.Helper()
	checkGuarded(t, name, x.Shape, was.Shape)
	checkGuarded(t, name, x.Nums, was.Nums)
}

// scribbleTensor writes over both lists of a result, and fails if writing over one of them changes the other one.
func scribbleTensor(t *testing.T, name string, x impl.Tensor) {
	t.Helper()
	nums := copyInts(x.Nums)
	scribble(x.Shape)
	if !sameInts(nums, x.Nums) {
		t.Errorf("%s shares its shape and its numbers", name)
	}
	scribble(x.Nums)
}

// Each function gets arguments with unused capacity, and what it returns is written over, unused capacity too.
func TestTensorsShareNoMemory(t *testing.T) {
	for _, shape := range allShapes() {
		was := numbered(shape, 1)
		x := guardedTensor(was)
		for _, m := range moves(shape) {
			nums := guarded(m.nums)
			moved, ok := move{m.name, nums}.do(x)
			if !ok {
				t.Fatalf("%v of %v is none", m, shape)
			}
			scribbleTensor(t, m.name, moved)
			checkGuardedTensor(t, m.name, x, was)
			checkGuarded(t, m.name, nums, m.nums)
		}
		place := guarded(make([]int, len(shape)))
		impl.TensorOk(x)
		impl.NumAt(x, place)
		checkGuarded(t, "NumAt", place, make([]int, len(shape)))
		negative, _ := impl.NegOf(x)
		scribbleTensor(t, "NegOf", negative)
		for axis := range shape {
			sum, _ := impl.SumAlong(x, axis)
			scribbleTensor(t, "SumAlong", sum)
		}
		checkGuardedTensor(t, "a function of one tensor", x, was)
		for _, other := range allShapes() {
			checkTwoApart(t, x, numbered(other, 50))
		}
		checkGuardedTensor(t, "a function of two tensors", x, was)
	}
	for _, was := range noTensors() {
		x := guardedTensor(was)
		for _, m := range []move{{"spread", x.Shape}, {"fold", x.Shape}, {"turn", x.Shape}, {"cut", []int{0, 0, 1}}} {
			m.do(x)
		}
		impl.TensorOk(x)
		impl.NumAt(x, x.Shape)
		impl.NegOf(x)
		impl.SumAlong(x, 0)
		checkTwoApart(t, x, tensorOf([]int{2}, 1, 2))
		checkGuardedTensor(t, "a function of chapter 2", x, was)
	}
}

// checkTwoApart does all that is done to two tensors, either one first, and with one tensor as both.
func checkTwoApart(t *testing.T, x, wasOther impl.Tensor) {
	t.Helper()
	other := guardedTensor(wasOther)
	for _, pair := range [][]impl.Tensor{{x, other}, {other, x}, {x, x}} {
		for _, op := range allOps {
			two, _ := impl.TwoOf(op, pair[0], pair[1])
			scribbleTensor(t, "TwoOf", two)
		}
		for axis := range impl.MaxAxes {
			both, _ := impl.BesideOf(pair[0], pair[1], axis)
			scribbleTensor(t, "BesideOf", both)
		}
		product, _ := impl.ProductOf(pair[0], pair[1])
		scribbleTensor(t, "ProductOf", product)
	}
	checkGuardedTensor(t, "a function of two tensors", other, wasOther)
}
