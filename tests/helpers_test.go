package tests

import "testing"

// Numbers far outside all limits, with which sums and products would run over.
const (
	farUp   = 1<<63 - 1
	farDown = -1 << 63
)

// spare is what stands behind the end of guarded lists.
const spare = 7777777

func sameInts(a, b []int) bool {
	if len(a) != len(b) {
		return false
	}
	for i := range a {
		if a[i] != b[i] {
			return false
		}
	}
	return true
}

func copyInts(list []int) []int {
	return append([]int{}, list...)
}

// guarded returns a copy of a list that has unused capacity, filled with a mark.
func guarded(list []int) []int {
	long := append(copyInts(list), spare, spare, spare, spare)
	return long[:len(list)]
}

// checkGuarded fails if a list is no longer what it was, or something was written behind its end.
func checkGuarded(t *testing.T, name string, list, was []int) {
	t.Helper()
	if !sameInts(list, was) {
		t.Errorf("%s changed an argument from %v to %v", name, was, list)
	}
	for i, num := range list[len(list) : len(list)+4] {
		if num != spare {
			t.Errorf("%s wrote %d behind an argument, at %d", name, num, i)
		}
	}
}

// scribble writes over a result, and over its unused capacity, which may be nobody else's.
func scribble(result []int) {
	result = result[:cap(result)]
	for i := range result {
		result[i] = -spare
	}
}

// listsOf returns all lists of so many numbers, each from the lowest to the highest, the last number going first.
func listsOf(many, lowest, highest int) [][]int {
	lists := [][]int{{}}
	for range many {
		var longer [][]int
		for _, list := range lists {
			for num := lowest; num <= highest; num++ {
				longer = append(longer, append(copyInts(list), num))
			}
		}
		lists = longer
	}
	return lists
}
