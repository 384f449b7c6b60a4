package impl

// Limits of shapes.
const (
	MaxAxes = 3
	MaxAxis = 4
)

// ShapeOk reports whether numbers are a shape.
func ShapeOk(shape []int) bool {
	return len(shape) <= MaxAxes && allBetween(shape, 1, MaxAxis)
}

// CountOf returns how many places a shape has, or -1.
func CountOf(shape []int) int {
	if !ShapeOk(shape) {
		return -1
	}
	return allTimes(shape)
}

// StridesOf returns by how much the index grows along each axis.
func StridesOf(shape []int) []int {
	if !ShapeOk(shape) {
		return nil
	}
	strides := make([]int, len(shape))
	stride := 1
	for axis := len(shape) - 1; axis >= 0; axis-- {
		strides[axis] = stride
		stride *= shape[axis]
	}
	return strides
}

// IndexAt returns the index of a place, or -1.
func IndexAt(shape []int, place []int) int {
	if !placeOk(shape, place) {
		return -1
	}
	return counterIndex(shape, place)
}

// PlaceAt returns the place of an index.
func PlaceAt(shape []int, index int) ([]int, bool) {
	// The count is -1 for what is no shape, so no index is below it then.
	if index < 0 || index >= CountOf(shape) {
		return nil, false
	}
	return countersAt(shape, index), true
}

// JoinShapes returns the shape over which two are spread.
func JoinShapes(a []int, b []int) ([]int, bool) {
	if !ShapeOk(a) || !ShapeOk(b) {
		return nil, false
	}
	axes := len(a)
	if len(b) > axes {
		axes = len(b)
	}
	joined := make([]int, axes)
	for axis := range joined {
		x := sizeBefore(a, axes-axis)
		y := sizeBefore(b, axes-axis)
		if x != y && x != 1 && y != 1 {
			return nil, false
		}
		if x < y {
			x = y
		}
		joined[axis] = x
	}
	return joined, true
}

// SpreadIndex returns the index in a shape of an index in one over which it is spread, or -1.
func SpreadIndex(shape []int, over []int, index int) int {
	joined, joins := JoinShapes(shape, over)
	if !joins || !sameNums(joined, over) {
		return -1
	}
	place, ok := PlaceAt(over, index)
	if !ok {
		return -1
	}
	// The other shape is the joined one, so it has at least as many axes.
	skipped := len(over) - len(shape)
	spread := 0
	for axis, size := range shape {
		spread *= size
		if size > 1 {
			spread += place[skipped+axis]
		}
	}
	return spread
}

// TurnOk reports whether numbers are a turn of so many axes.
func TurnOk(turn []int, axes int) bool {
	return axes <= MaxAxes && len(turn) == axes && differentOk(turn, axes)
}

// TurnShape returns a shape with its axes turned.
func TurnShape(shape []int, turn []int) ([]int, bool) {
	if !ShapeOk(shape) || !TurnOk(turn, len(shape)) {
		return nil, false
	}
	return pickNums(shape, turn), true
}

// BackTurn returns the turn that turns back.
func BackTurn(turn []int) ([]int, bool) {
	if !TurnOk(turn, len(turn)) {
		return nil, false
	}
	back := make([]int, len(turn))
	for i, axis := range turn {
		back[axis] = i
	}
	return back, true
}

// placeOk reports whether numbers are a place of a shape.
func placeOk(shape []int, place []int) bool {
	if !ShapeOk(shape) || len(place) != len(shape) {
		return false
	}
	for axis, size := range shape {
		if place[axis] < 0 || place[axis] >= size {
			return false
		}
	}
	return true
}

// allBetween reports whether no number of a list is below the least one or above the most.
func allBetween(nums []int, least int, most int) bool {
	for _, num := range nums {
		if num < least || num > most {
			return false
		}
	}
	return true
}

// countersAt returns what counters of sizes show at an index, the last one going first.
func countersAt(sizes []int, index int) []int {
	counters := make([]int, len(sizes))
	for i := len(sizes) - 1; i >= 0; i-- {
		counters[i] = index % sizes[i]
		index /= sizes[i]
	}
	return counters
}

// counterIndex returns the index at which counters of sizes show numbers.
func counterIndex(sizes []int, counters []int) int {
	index := 0
	for i, size := range sizes {
		index = index*size + counters[i]
	}
	return index
}

// allTimes returns the product of all numbers of a list.
func allTimes(nums []int) int {
	product := 1
	for _, num := range nums {
		product *= num
	}
	return product
}

// differentOk reports whether numbers are different indexes of so many elements, of which there are no more than some limit.
func differentOk(indexes []int, many int) bool {
	told := make([]bool, many)
	for _, index := range indexes {
		if !indexOk(index, many) || told[index] {
			return false
		}
		told[index] = true
	}
	return true
}

// indexOk reports whether a number is an index of so many elements.
func indexOk(index int, many int) bool {
	return index >= 0 && index < many
}

// pickNums returns those numbers of a list that indexes tell, in their order.
func pickNums(list []int, indexes []int) []int {
	picked := make([]int, len(indexes))
	for i, index := range indexes {
		picked[i] = list[index]
	}
	return picked
}

// sizeBefore returns the size of the axis so many ahead of the end of a shape, 1 if it has none there.
func sizeBefore(shape []int, back int) int {
	if back > len(shape) {
		return 1
	}
	return shape[len(shape)-back]
}

// sameNums reports whether two lists have the same numbers.
func sameNums(a []int, b []int) bool {
	if len(a) != len(b) {
		return false
	}
	for i, num := range a {
		if num != b[i] {
			return false
		}
	}
	return true
}
