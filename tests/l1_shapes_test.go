package tests

import (
	"testing"

	"loop.example/wholetensors/impl"
)

// allShapes returns each shape there is: 1 without axes, 4, 16 and 64 with one, two and three.
func allShapes() [][]int {
	var shapes [][]int
	for axes := 0; axes <= impl.MaxAxes; axes++ {
		shapes = append(shapes, listsOf(axes, 1, impl.MaxAxis)...)
	}
	return shapes
}

// allTurns returns each turn there is: 1, 1, 2 and 6 of none to three axes.
func allTurns() [][]int {
	return [][]int{
		{},
		{0},
		{0, 1}, {1, 0},
		{0, 1, 2}, {0, 2, 1}, {1, 0, 2}, {1, 2, 0}, {2, 0, 1}, {2, 1, 0},
	}
}

// noShapes returns numbers that are no shape: too many, or one that is not from 1 to 4, at any axis.
func noShapes() [][]int {
	lists := [][]int{{1, 1, 1, 1}, {2, 2, 2, 2}, {4, 3, 2, 1}, {1, 1, 1, 1, 1}, make([]int, 1000)}
	for _, bad := range []int{0, 5, -1, -4, farUp, farDown} {
		lists = append(lists, []int{bad}, []int{bad, 2}, []int{2, bad}, []int{bad, bad})
		lists = append(lists, []int{bad, 1, 1}, []int{1, bad, 1}, []int{1, 1, bad})
	}
	return lists
}

// noTurns returns numbers that are no turn of as many axes as they are.
func noTurns() [][]int {
	return [][]int{
		{1}, {-1}, {farUp}, {farDown},
		{0, 0}, {1, 1}, {0, 2}, {-1, 0}, {1, 2},
		{0, 0, 1}, {0, 1, 1}, {2, 1, 2}, {0, 1, 3}, {1, 2, 3}, {-1, 0, 1}, {0, 1, farUp}, {farDown, 1, 0},
		{0, 1, 2, 3}, {3, 2, 1, 0}, {0, 1, 2, 2}, {0, 1, 2, 3, 4},
	}
}

// placesOf returns all places of a shape in the order of their indices: a counter whose last number goes first.
func placesOf(shape []int) [][]int {
	places := [][]int{{}}
	for _, size := range shape {
		var longer [][]int
		for _, place := range places {
			for num := 0; num < size; num++ {
				longer = append(longer, append(copyInts(place), num))
			}
		}
		places = longer
	}
	return places
}

// onThree returns numbers with others put ahead of them, so that they are three.
func onThree(list []int, ahead int) []int {
	long := copyInts(list)
	for len(long) < 3 {
		long = append([]int{ahead}, long...)
	}
	return long
}

func TestLimitsOfShapes(t *testing.T) {
	if impl.MaxAxes != 3 || impl.MaxAxis != 4 {
		t.Errorf("MaxAxes = %d, MaxAxis = %d", impl.MaxAxes, impl.MaxAxis)
	}
}

func TestShapeOk(t *testing.T) {
	if !impl.ShapeOk(nil) || !impl.ShapeOk([]int{}) {
		t.Error("a shape without axes is none")
	}
	shapes := allShapes()
	if len(shapes) != 85 {
		t.Fatalf("%d shapes", len(shapes))
	}
	for _, shape := range shapes {
		if !impl.ShapeOk(shape) {
			t.Errorf("ShapeOk(%v) = false", shape)
		}
	}
	for _, list := range noShapes() {
		if impl.ShapeOk(list) {
			t.Errorf("ShapeOk(%v) = true", list)
		}
	}
}

func TestCountOf(t *testing.T) {
	for _, c := range []struct {
		shape []int
		want  int
	}{
		{nil, 1}, {[]int{1}, 1}, {[]int{4}, 4}, {[]int{2, 3}, 6}, {[]int{1, 1, 1}, 1}, {[]int{2, 3, 4}, 24}, {[]int{4, 4, 4}, 64},
	} {
		if got := impl.CountOf(c.shape); got != c.want {
			t.Errorf("CountOf(%v) = %d, not %d", c.shape, got, c.want)
		}
	}
	for _, shape := range allShapes() {
		if got, want := impl.CountOf(shape), len(placesOf(shape)); got != want {
			t.Errorf("CountOf(%v) = %d, not %d", shape, got, want)
		}
	}
	for _, list := range noShapes() {
		if got := impl.CountOf(list); got != -1 {
			t.Errorf("CountOf(%v) = %d, not -1", list, got)
		}
	}
}

func TestStridesOf(t *testing.T) {
	for _, c := range []struct{ shape, want []int }{
		{nil, nil}, {[]int{4}, []int{1}}, {[]int{1}, []int{1}},
		{[]int{2, 3}, []int{3, 1}}, {[]int{3, 1}, []int{1, 1}}, {[]int{1, 3}, []int{3, 1}},
		{[]int{2, 3, 4}, []int{12, 4, 1}}, {[]int{4, 1, 3}, []int{3, 3, 1}}, {[]int{1, 1, 1}, []int{1, 1, 1}},
	} {
		if got := impl.StridesOf(c.shape); !sameInts(got, c.want) {
			t.Errorf("StridesOf(%v) = %v, not %v", c.shape, got, c.want)
		}
	}
	for _, list := range noShapes() {
		if got := impl.StridesOf(list); len(got) != 0 {
			t.Errorf("StridesOf(%v) = %v, not nothing", list, got)
		}
	}
}

// Each stride is what one step along its axis adds to the index, so all of them together make the index.
func TestStridesMakeTheIndex(t *testing.T) {
	for _, shape := range allShapes() {
		strides := impl.StridesOf(shape)
		if len(strides) != len(shape) {
			t.Fatalf("StridesOf(%v) = %v", shape, strides)
		}
		for index, place := range placesOf(shape) {
			sum := 0
			for axis, num := range place {
				sum += num * strides[axis]
			}
			if sum != index {
				t.Errorf("the strides %v of %v lead %v to %d, not %d", strides, shape, place, sum, index)
			}
		}
	}
}

// Promise 1: indices and places are each other's, at every place of every shape.
func TestIndicesAndPlacesAreEachOthers(t *testing.T) {
	for _, shape := range allShapes() {
		for index, place := range placesOf(shape) {
			if got := impl.IndexAt(shape, place); got != index {
				t.Errorf("IndexAt(%v, %v) = %d, not %d", shape, place, got, index)
			}
			got, ok := impl.PlaceAt(shape, index)
			if !ok || !sameInts(got, place) {
				t.Errorf("PlaceAt(%v, %d) = %v, %v, not %v", shape, index, got, ok, place)
			}
			if back := impl.IndexAt(shape, got); back != index {
				t.Errorf("PlaceAt(%v, %d) has the index %d", shape, index, back)
			}
		}
	}
}

func TestIndexAtByHand(t *testing.T) {
	for _, c := range []struct {
		shape, place []int
		want         int
	}{
		{nil, nil, 0},
		{[]int{1}, []int{0}, 0},
		{[]int{4}, []int{3}, 3},
		{[]int{2, 3}, []int{0, 2}, 2},
		{[]int{2, 3}, []int{1, 0}, 3},
		{[]int{2, 3, 4}, []int{1, 2, 3}, 23},
		{[]int{2, 3, 4}, []int{1, 0, 2}, 14},
		{[]int{4, 1, 3}, []int{2, 0, 1}, 7},
	} {
		if got := impl.IndexAt(c.shape, c.place); got != c.want {
			t.Errorf("IndexAt(%v, %v) = %d, not %d", c.shape, c.place, got, c.want)
		}
	}
}

func TestIndexAtOfNone(t *testing.T) {
	for _, c := range []struct{ shape, place []int }{
		{nil, []int{0}},
		{[]int{1}, nil},
		{[]int{1}, []int{1}},
		{[]int{2}, []int{2}},
		{[]int{2}, []int{-1}},
		{[]int{2}, []int{0, 0}},
		{[]int{2}, []int{0, 1}},
		{[]int{2, 3}, []int{1}},
		{[]int{2, 3}, nil},
		{[]int{2, 3}, []int{2, 0}},
		{[]int{2, 3}, []int{0, 3}},
		{[]int{2, 3}, []int{-1, 2}},
		{[]int{2, 3}, []int{1, -1}},
		{[]int{3, 2}, []int{0, 2}},
		{[]int{2, 3}, []int{0, 0, 0}},
		{[]int{2, 3, 4}, []int{1, 2, 4}},
		{[]int{2, 3, 4}, []int{1, 3, 0}},
		{[]int{2, 3, 4}, []int{2, 0, 0}},
		{[]int{2, 3, 4}, []int{1, 2, 3, 0}},
		{[]int{2, 3}, []int{farUp, 0}},
		{[]int{2, 3}, []int{0, farDown}},
	} {
		if got := impl.IndexAt(c.shape, c.place); got != -1 {
			t.Errorf("IndexAt(%v, %v) = %d, not -1", c.shape, c.place, got)
		}
	}
	for _, list := range noShapes() {
		for _, place := range [][]int{nil, make([]int, len(list)), {0}, {0, 0}, {0, 0, 0}} {
			if got := impl.IndexAt(list, place); got != -1 {
				t.Errorf("IndexAt(%v, %v) = %d, not -1", list, place, got)
			}
		}
	}
}

func TestPlaceAtOfNone(t *testing.T) {
	for _, shape := range allShapes() {
		count := len(placesOf(shape))
		for _, index := range []int{-1, -count, count, count + 1, 64, farUp, farDown} {
			if got, ok := impl.PlaceAt(shape, index); ok || len(got) != 0 {
				t.Errorf("PlaceAt(%v, %d) = %v, %v", shape, index, got, ok)
			}
		}
	}
	for _, list := range noShapes() {
		for _, index := range []int{-2, -1, 0, 1, farUp, farDown} {
			if got, ok := impl.PlaceAt(list, index); ok || len(got) != 0 {
				t.Errorf("PlaceAt(%v, %d) = %v, %v", list, index, got, ok)
			}
		}
	}
}

func TestJoinShapesByHand(t *testing.T) {
	for _, c := range []struct{ a, b, want []int }{
		{[]int{3}, []int{2, 1}, []int{2, 3}},
		{nil, nil, nil},
		{nil, []int{1}, []int{1}},
		{nil, []int{2, 3, 4}, []int{2, 3, 4}},
		{[]int{1}, []int{4}, []int{4}},
		{[]int{1, 1, 1}, nil, []int{1, 1, 1}},
		{[]int{1, 1}, []int{3}, []int{1, 3}},
		{[]int{2, 1, 4}, []int{3, 1}, []int{2, 3, 4}},
		{[]int{4, 1, 1}, []int{1, 3, 2}, []int{4, 3, 2}},
	} {
		if got, ok := impl.JoinShapes(c.a, c.b); !ok || !sameInts(got, c.want) {
			t.Errorf("JoinShapes(%v, %v) = %v, %v, not %v", c.a, c.b, got, ok, c.want)
		}
	}
	for _, c := range []struct{ a, b []int }{
		{[]int{2}, []int{3}},
		{[]int{2, 3}, []int{2}},
		{[]int{2, 3}, []int{3, 2}},
		{[]int{2, 1}, []int{3, 1}},
		{[]int{2, 3, 4}, []int{2, 3}},
		{[]int{2, 3, 4}, []int{1, 2, 4}},
	} {
		for _, pair := range [][][]int{{c.a, c.b}, {c.b, c.a}} {
			if got, ok := impl.JoinShapes(pair[0], pair[1]); ok || len(got) != 0 {
				t.Errorf("JoinShapes(%v, %v) = %v, %v", pair[0], pair[1], got, ok)
			}
		}
	}
}

// joinedByRule tells by the words of the document what two shapes joined are, both being on three axes.
func joinedByRule(a, b []int) ([]int, bool) {
	x := onThree(a, 1)
	y := onThree(b, 1)
	joined := []int{0, 0, 0}
	for axis := range joined {
		if x[axis] != y[axis] && min(x[axis], y[axis]) != 1 {
			return nil, false
		}
		joined[axis] = max(x[axis], y[axis])
	}
	return joined[3-max(len(a), len(b)):], true
}

func TestJoinShapesOfAll(t *testing.T) {
	for _, a := range allShapes() {
		for _, b := range allShapes() {
			want, wantOk := joinedByRule(a, b)
			if got, ok := impl.JoinShapes(a, b); ok != wantOk || !sameInts(got, want) {
				t.Errorf("JoinShapes(%v, %v) = %v, %v, not %v, %v", a, b, got, ok, want, wantOk)
			}
		}
	}
}

func TestJoinShapesOfNone(t *testing.T) {
	for _, list := range noShapes() {
		for _, other := range [][]int{nil, {1}, {2}, {1, 1}, {1, 1, 1}, list} {
			for _, pair := range [][][]int{{list, other}, {other, list}} {
				if got, ok := impl.JoinShapes(pair[0], pair[1]); ok || len(got) != 0 {
					t.Errorf("JoinShapes(%v, %v) = %v, %v", pair[0], pair[1], got, ok)
				}
			}
		}
	}
}

func TestSpreadIndexByHand(t *testing.T) {
	for _, c := range []struct {
		shape, over []int
		index, want int
	}{
		{nil, nil, 0, 0},
		{nil, []int{4, 4, 4}, 63, 0},
		{[]int{1}, []int{4}, 3, 0},
		{[]int{4}, []int{4}, 3, 3},
		{[]int{2, 1}, []int{2, 3}, 4, 1},
		{[]int{3}, []int{2, 3}, 4, 1},
		{[]int{1, 3}, []int{2, 3}, 5, 2},
		{[]int{1, 1}, []int{2, 3}, 5, 0},
		{[]int{1, 1, 1}, []int{1, 1, 1}, 0, 0},
		{[]int{2, 1, 4}, []int{2, 3, 4}, 21, 5},
		{[]int{3, 1}, []int{2, 3, 4}, 21, 2},
		{[]int{4}, []int{2, 3, 4}, 21, 1},
		{[]int{1, 3, 1}, []int{2, 3, 4}, 18, 1},
	} {
		if got := impl.SpreadIndex(c.shape, c.over, c.index); got != c.want {
			t.Errorf("SpreadIndex(%v, %v, %d) = %d, not %d", c.shape, c.over, c.index, got, c.want)
		}
	}
}

// spreadByRule tells by the words of the document where a place of a shape lies in one that is spread over it.
func spreadByRule(shape, place []int) int {
	sizes := onThree(shape, 1)
	nums := onThree(place, 0)
	for axis, size := range sizes {
		if size == 1 {
			nums[axis] = 0
		}
	}
	return (nums[0]*sizes[1]+nums[1])*sizes[2] + nums[2]
}

func TestSpreadIndexOfAll(t *testing.T) {
	for _, shape := range allShapes() {
		for _, over := range allShapes() {
			joined, joins := joinedByRule(shape, over)
			spreads := joins && sameInts(joined, over)
			for index, place := range placesOf(over) {
				want := -1
				if spreads {
					want = spreadByRule(shape, place)
				}
				if got := impl.SpreadIndex(shape, over, index); got != want {
					t.Errorf("SpreadIndex(%v, %v, %d) = %d, not %d", shape, over, index, got, want)
				}
			}
		}
	}
}

func TestSpreadIndexOfNone(t *testing.T) {
	for _, shape := range allShapes() {
		count := len(placesOf(shape))
		for _, index := range []int{-1, -count, count, count + 1, farUp, farDown} {
			for _, part := range [][]int{shape, nil, {1}} {
				if got := impl.SpreadIndex(part, shape, index); got != -1 {
					t.Errorf("SpreadIndex(%v, %v, %d) = %d, not -1", part, shape, index, got)
				}
			}
		}
	}
	for _, list := range noShapes() {
		for _, other := range [][]int{nil, {1}, {2, 2}, {2, 2, 2}, list} {
			for _, pair := range [][][]int{{list, other}, {other, list}} {
				for _, index := range []int{-1, 0, 1} {
					if got := impl.SpreadIndex(pair[0], pair[1], index); got != -1 {
						t.Errorf("SpreadIndex(%v, %v, %d) = %d, not -1", pair[0], pair[1], index, got)
					}
				}
			}
		}
	}
	// What goes together is not spread if the other one is not what both are joined.
	for _, c := range []struct{ shape, over []int }{
		{[]int{4}, []int{1}}, {[]int{4}, nil}, {[]int{1}, nil}, {[]int{1, 1}, []int{1}},
		{[]int{1, 3}, []int{3}}, {[]int{2, 3}, []int{3}}, {[]int{2, 1}, []int{1, 3}}, {[]int{1, 2, 3}, []int{2, 3}},
	} {
		if got := impl.SpreadIndex(c.shape, c.over, 0); got != -1 {
			t.Errorf("SpreadIndex(%v, %v, 0) = %d, not -1", c.shape, c.over, got)
		}
	}
}

func TestTurnOk(t *testing.T) {
	if !impl.TurnOk(nil, 0) || !impl.TurnOk([]int{}, 0) {
		t.Error("no numbers are no turn of no axes")
	}
	for _, turn := range allTurns() {
		for axes := -1; axes <= 5; axes++ {
			if got := impl.TurnOk(turn, axes); got != (axes == len(turn)) {
				t.Errorf("TurnOk(%v, %d) = %v", turn, axes, got)
			}
		}
		for _, axes := range []int{farUp, farDown} {
			if impl.TurnOk(turn, axes) {
				t.Errorf("TurnOk(%v, %d) = true", turn, axes)
			}
		}
	}
	for _, list := range append(noTurns(), make([]int, 1000)) {
		for axes := -1; axes <= 5; axes++ {
			if impl.TurnOk(list, axes) {
				t.Errorf("TurnOk(%v, %d) = true", list, axes)
			}
		}
		if impl.TurnOk(list, len(list)) {
			t.Errorf("TurnOk(%v, %d) = true", list, len(list))
		}
	}
}

// Of all lists of up to four numbers near 0, just the ten turns are some.
func TestTurnOkOfAll(t *testing.T) {
	for many := 0; many <= 4; many++ {
		found := 0
		lists := listsOf(many, -1, 4)
		for _, list := range lists {
			if impl.TurnOk(list, many) {
				found++
			}
		}
		if want := []int{1, 1, 2, 6, 0}[many]; found != want {
			t.Errorf("%d turns of %d axes, not %d", found, many, want)
		}
	}
}

func TestTurnShape(t *testing.T) {
	for _, c := range []struct{ shape, turn, want []int }{
		{nil, nil, nil},
		{[]int{4}, []int{0}, []int{4}},
		{[]int{2, 3}, []int{0, 1}, []int{2, 3}},
		{[]int{2, 3}, []int{1, 0}, []int{3, 2}},
		{[]int{2, 3, 4}, []int{0, 1, 2}, []int{2, 3, 4}},
		{[]int{2, 3, 4}, []int{0, 2, 1}, []int{2, 4, 3}},
		{[]int{2, 3, 4}, []int{1, 0, 2}, []int{3, 2, 4}},
		{[]int{2, 3, 4}, []int{1, 2, 0}, []int{3, 4, 2}},
		{[]int{2, 3, 4}, []int{2, 0, 1}, []int{4, 2, 3}},
		{[]int{2, 3, 4}, []int{2, 1, 0}, []int{4, 3, 2}},
		{[]int{1, 1, 4}, []int{2, 0, 1}, []int{4, 1, 1}},
	} {
		if got, ok := impl.TurnShape(c.shape, c.turn); !ok || !sameInts(got, c.want) {
			t.Errorf("TurnShape(%v, %v) = %v, %v, not %v", c.shape, c.turn, got, ok, c.want)
		}
	}
	for _, shape := range allShapes() {
		for _, turn := range allTurns() {
			got, ok := impl.TurnShape(shape, turn)
			if len(turn) != len(shape) {
				if ok || len(got) != 0 {
					t.Errorf("TurnShape(%v, %v) = %v, %v", shape, turn, got, ok)
				}
				continue
			}
			if !ok || len(got) != len(shape) {
				t.Fatalf("TurnShape(%v, %v) = %v, %v", shape, turn, got, ok)
			}
			for i, axis := range turn {
				if got[i] != shape[axis] {
					t.Errorf("TurnShape(%v, %v) = %v", shape, turn, got)
				}
			}
		}
	}
}

func TestTurnShapeOfNone(t *testing.T) {
	for _, list := range noTurns() {
		for _, shape := range allShapes() {
			if got, ok := impl.TurnShape(shape, list); ok || len(got) != 0 {
				t.Errorf("TurnShape(%v, %v) = %v, %v", shape, list, got, ok)
			}
		}
	}
	for _, list := range noShapes() {
		for _, turn := range append(allTurns(), []int{0, 1, 2, 3}) {
			if got, ok := impl.TurnShape(list, turn); ok || len(got) != 0 {
				t.Errorf("TurnShape(%v, %v) = %v, %v", list, turn, got, ok)
			}
		}
	}
}

func TestBackTurn(t *testing.T) {
	for _, c := range []struct{ turn, want []int }{
		{nil, nil}, {[]int{0}, []int{0}},
		{[]int{0, 1}, []int{0, 1}}, {[]int{1, 0}, []int{1, 0}},
		{[]int{0, 1, 2}, []int{0, 1, 2}}, {[]int{0, 2, 1}, []int{0, 2, 1}}, {[]int{1, 0, 2}, []int{1, 0, 2}},
		{[]int{1, 2, 0}, []int{2, 0, 1}}, {[]int{2, 0, 1}, []int{1, 2, 0}}, {[]int{2, 1, 0}, []int{2, 1, 0}},
	} {
		if got, ok := impl.BackTurn(c.turn); !ok || !sameInts(got, c.want) {
			t.Errorf("BackTurn(%v) = %v, %v, not %v", c.turn, got, ok, c.want)
		}
	}
	for _, list := range append(noTurns(), make([]int, 1000)) {
		if got, ok := impl.BackTurn(list); ok || len(got) != 0 {
			t.Errorf("BackTurn(%v) = %v, %v", list, got, ok)
		}
	}
}

func TestTurnedBackIsAsBefore(t *testing.T) {
	for _, turn := range allTurns() {
		back, ok := impl.BackTurn(turn)
		if !ok || !impl.TurnOk(back, len(turn)) {
			t.Fatalf("BackTurn(%v) = %v, %v", turn, back, ok)
		}
		if again, ok := impl.BackTurn(back); !ok || !sameInts(again, turn) {
			t.Errorf("BackTurn(%v) = %v, %v, not %v", back, again, ok, turn)
		}
		for _, shape := range listsOf(len(turn), 1, impl.MaxAxis) {
			turned, _ := impl.TurnShape(shape, turn)
			if got, ok := impl.TurnShape(turned, back); !ok || !sameInts(got, shape) {
				t.Errorf("%v turned by %v and by %v is %v", shape, turn, back, got)
			}
		}
	}
}

// Each function gets arguments with unused capacity, and what it returns is written over, unused capacity too.
func TestShapesShareNoMemory(t *testing.T) {
	for _, shape := range allShapes() {
		was := copyInts(shape)
		list := guarded(shape)
		scribble(impl.StridesOf(list))
		checkGuarded(t, "StridesOf", list, was)
		place, _ := impl.PlaceAt(list, impl.CountOf(list)-1)
		scribble(place)
		checkGuarded(t, "PlaceAt", list, was)
		checkJoinsApart(t, list, guarded(shape), was)
		checkJoinsApart(t, list, guarded(nil), was)
		checkTurnsApart(t, list, was)
	}
	for _, bad := range noShapes() {
		list := guarded(bad)
		impl.ShapeOk(list)
		impl.CountOf(list)
		impl.StridesOf(list)
		impl.IndexAt(list, list)
		impl.PlaceAt(list, 0)
		impl.JoinShapes(list, list)
		impl.SpreadIndex(list, list, 0)
		impl.TurnOk(list, len(list))
		impl.TurnShape(list, list)
		impl.BackTurn(list)
		checkGuarded(t, "a function of chapter 1", list, bad)
	}
}

func checkJoinsApart(t *testing.T, list, other, was []int) {
	t.Helper()
	wasOther := copyInts(other)
	joined, _ := impl.JoinShapes(list, other)
	scribble(joined)
	joined, _ = impl.JoinShapes(other, list)
	scribble(joined)
	impl.SpreadIndex(other, list, 0)
	place := guarded(make([]int, len(list)))
	impl.IndexAt(list, place)
	checkGuarded(t, "JoinShapes, SpreadIndex or IndexAt", list, was)
	checkGuarded(t, "JoinShapes or SpreadIndex", other, wasOther)
	checkGuarded(t, "IndexAt", place, make([]int, len(list)))
}

func checkTurnsApart(t *testing.T, list, was []int) {
	t.Helper()
	for _, turn := range allTurns() {
		guardedTurn := guarded(turn)
		turned, _ := impl.TurnShape(list, guardedTurn)
		scribble(turned)
		back, _ := impl.BackTurn(guardedTurn)
		scribble(back)
		checkGuarded(t, "TurnShape", list, was)
		checkGuarded(t, "TurnShape or BackTurn", guardedTurn, turn)
	}
}
