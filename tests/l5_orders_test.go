package tests

import (
	"fmt"
	"slices"
	"testing"

	"loop.example/wholetensors/impl"
)

// pairs returns an order whose numbers stand one behind the other.
func pairs(nums ...int) [][]int {
	order := [][]int{}
	for i := 0; i+1 < len(nums); i += 2 {
		order = append(order, []int{nums[i], nums[i+1]})
	}
	return order
}

func copyLists(lists [][]int) [][]int {
	c := [][]int{}
	for _, list := range lists {
		c = append(c, copyInts(list))
	}
	return c
}

func sameOrders(a, b [][][]int) bool {
	return slices.EqualFunc(a, b, sameLists)
}

// lettersOf returns all letters of factors, ascending.
func lettersOf(factors ...[]int) []int {
	letters := slices.Concat(factors...)
	slices.Sort(letters)
	return slices.Compact(letters)
}

// othersOf returns factors without two of them.
func othersOf(factors [][]int, a, b int) [][]int {
	var others [][]int
	for i, letters := range factors {
		if i != a && i != b {
			others = append(others, letters)
		}
	}
	return others
}

// joinByRule puts two factors together by the words of the document, all letters keeping their numbers, and returns the factors that there are then.
func joinByRule(factors [][]int, out []int, a, b int) ([][]int, bool) {
	if a < 0 || b >= len(factors) || a >= b {
		return nil, false
	}
	others := othersOf(factors, a, b)
	needed := lettersOf(append(others, out)...)
	var left []int
	for _, letter := range lettersOf(factors[a], factors[b]) {
		if timesOf(needed, letter) > 0 {
			left = append(left, letter)
		}
	}
	return append(others, left), len(left) <= 3
}

// pairCost returns what the index sum of two factors costs, all letters having the numbers of s.
func pairCost(s impl.IndexSum, factors [][]int, a, b int) int {
	cost := 1
	for _, size := range sizesByRule(s, lettersOf(factors[a], factors[b])) {
		cost *= size
	}
	return cost
}

// ownByRule returns the index sum of factors with their own letters.
func ownByRule(sizes []int, factors [][]int, out []int) impl.IndexSum {
	own := lettersOf(factors...)
	anew := func(letters []int) []int {
		var list []int
		for _, letter := range letters {
			list = append(list, slices.Index(own, letter))
		}
		return list
	}
	s := impl.IndexSum{Out: anew(out)}
	for _, letter := range own {
		s.Sizes = append(s.Sizes, sizes[letter])
	}
	for _, letters := range factors {
		s.Factors = append(s.Factors, anew(letters))
	}
	return s
}

// costByRule tells by the words of the document what an order of an index sum costs, -1 if it is none.
func costByRule(s impl.IndexSum, order [][]int) int {
	factors, cost := s.Factors, 0
	for _, pair := range order {
		if len(pair) != 2 {
			return -1
		}
		then, ok := joinByRule(factors, s.Out, pair[0], pair[1])
		if !ok {
			return -1
		}
		cost += pairCost(s, factors, pair[0], pair[1])
		factors = then
	}
	if len(factors) != 1 {
		return -1
	}
	return cost
}

// ordersByRule returns all orders of an index sum: of all pairs of numbers, as many as there may be, those that are one.
func ordersByRule(s impl.IndexSum) [][][]int {
	many := len(s.Factors)
	var orders [][][]int
	for _, nums := range listsOf(2*(many-1), 0, many-1) {
		if order := pairs(nums...); costByRule(s, order) >= 0 {
			orders = append(orders, order)
		}
	}
	return orders
}

// bestByRule returns the first one of some orders that costs no more than any other one.
func bestByRule(s impl.IndexSum, orders [][][]int) ([][]int, bool) {
	var costs []int
	for _, order := range orders {
		costs = append(costs, costByRule(s, order))
	}
	if len(orders) == 0 {
		return nil, false
	}
	return orders[slices.Index(costs, slices.Min(costs))], true
}

// greedyByRule returns the order that always puts those two together that cost least, the first ones of these.
func greedyByRule(s impl.IndexSum) ([][]int, bool) {
	factors, order := s.Factors, [][]int{}
	for len(factors) > 1 {
		var rows [][]int
		for a := range factors {
			for b := range factors {
				if _, ok := joinByRule(factors, s.Out, a, b); ok {
					rows = append(rows, []int{pairCost(s, factors, a, b), a, b})
				}
			}
		}
		if len(rows) == 0 {
			return nil, false
		}
		pair := slices.MinFunc(rows, slices.Compare[[]int])[1:]
		order = append(order, pair)
		factors, _ = joinByRule(factors, s.Out, pair[0], pair[1])
	}
	return order, true
}

func checkNoMerge(t *testing.T, s impl.IndexSum, a, b int) {
	t.Helper()
	whole, both, ok := impl.MergeOf(s, a, b)
	if none := (impl.IndexSum{}); ok || !sameSum(whole, none) || !sameSum(both, none) {
		t.Errorf("MergeOf(%v, %d, %d) = %v, %v, %v, not nothing", s, a, b, whole, both, ok)
	}
}

// checkMerge fails if two factors of an index sum are put together otherwise than by the words of the document. It reports whether they can be.
func checkMerge(t *testing.T, s impl.IndexSum, a, b int) bool {
	t.Helper()
	then, ok := joinByRule(s.Factors, s.Out, a, b)
	if !ok {
		checkNoMerge(t, s, a, b)
		return false
	}
	wantWhole := ownByRule(s.Sizes, then, s.Out)
	wantBoth := ownByRule(s.Sizes, [][]int{s.Factors[a], s.Factors[b]}, then[len(then)-1])
	whole, both, ok := impl.MergeOf(s, a, b)
	if !ok || !sameSum(whole, wantWhole) || !sameSum(both, wantBoth) {
		t.Errorf("MergeOf(%v, %d, %d) = %v, %v, %v, not %v, %v", s, a, b, whole, both, ok, wantWhole, wantBoth)
	}
	if !sumOkByRule(whole) || !sumOkByRule(both) {
		t.Errorf("MergeOf(%v, %d, %d) = %v, %v, which are not both index sums", s, a, b, whole, both)
	}
	return true
}

// checkMergeValue fails if an index sum has another value than that in which the tensor of two factors is one of them. It reports whether that is a factor.
func checkMergeValue(t *testing.T, s impl.IndexSum, tensors []impl.Tensor, a, b int) bool {
	t.Helper()
	whole, both, ok := impl.MergeOf(s, a, b)
	if !ok {
		return false
	}
	merged, ok := impl.SumValue(both, []impl.Tensor{tensors[a], tensors[b]})
	if !ok || slices.Max(merged.Nums) > 1000 || slices.Min(merged.Nums) < -1000 {
		return false
	}
	var then []impl.Tensor
	for i, x := range tensors {
		if i != a && i != b {
			then = append(then, x)
		}
	}
	want, wantOk := impl.SumValue(s, tensors)
	got, ok := impl.SumValue(whole, append(then, merged))
	checkSame(t, fmt.Sprintf("%v of %v, and with %d and %d put together", s, tensors, a, b), want, wantOk, got, ok)
	return true
}

func checkNoValueBy(t *testing.T, s impl.IndexSum, tensors []impl.Tensor, order [][]int) {
	t.Helper()
	value, ok := impl.ValueBy(s, tensors, order)
	checkNone(t, fmt.Sprintf("ValueBy(%v, %v, %v)", s, tensors, order), value, ok)
}

// checkValuesBy fails if any order leads to anything else than the value of the index sum. It reports whether there is one.
func checkValuesBy(t *testing.T, s impl.IndexSum, tensors []impl.Tensor, orders [][][]int) bool {
	t.Helper()
	want, wantOk := sumByRule(s, tensors)
	plain, plainOk := impl.SumValue(s, tensors)
	for _, order := range orders {
		name := fmt.Sprintf("ValueBy(%v, %v, %v)", s, tensors, order)
		got, ok := impl.ValueBy(s, tensors, order)
		checkSame(t, name, got, ok, plain, plainOk)
		if wantOk {
			checkTensor(t, name, got, ok, want)
		} else {
			checkNone(t, name, got, ok)
		}
	}
	return wantOk
}

// checkNoOrder fails if any function takes pairs as an order of an index sum.
func checkNoOrder(t *testing.T, s impl.IndexSum, order [][]int) {
	t.Helper()
	if impl.OrderOk(s, order) || impl.OrderCost(s, order) != -1 {
		t.Errorf("%.99v is an order of %v: %v, cost %d", order, s, impl.OrderOk(s, order), impl.OrderCost(s, order))
	}
	if sumOkByRule(s) {
		checkNoValueBy(t, s, factorsFilled(s, 1), order)
	}
}

// checkOrder fails if anything else is told of pairs, be they an order of an index sum or none, than the words of the document. It reports whether they are one.
func checkOrder(t *testing.T, s impl.IndexSum, order [][]int) bool {
	t.Helper()
	want := costByRule(s, order)
	if want < 0 {
		checkNoOrder(t, s, order)
		return false
	}
	if !impl.OrderOk(s, order) || impl.OrderCost(s, order) != want {
		t.Errorf("%v is an order of %v: %v, cost %d, not %d", order, s, impl.OrderOk(s, order), impl.OrderCost(s, order), want)
	}
	return true
}

func checkBest(t *testing.T, s impl.IndexSum, want [][]int, wantOk bool) {
	t.Helper()
	if got, ok := impl.BestOrder(s); ok != wantOk || !sameLists(got, want) {
		t.Errorf("BestOrder(%v) = %v, %v, not %v, %v", s, got, ok, want, wantOk)
	}
}

func checkGreedy(t *testing.T, s impl.IndexSum, want [][]int, wantOk bool) {
	t.Helper()
	if got, ok := impl.GreedyOrder(s); ok != wantOk || !sameLists(got, want) {
		t.Errorf("GreedyOrder(%v) = %v, %v, not %v, %v", s, got, ok, want, wantOk)
	}
}

func checkOrdersOf(t *testing.T, s impl.IndexSum, want [][][]int) {
	t.Helper()
	if got := impl.OrdersOf(s); !sameOrders(got, want) {
		t.Errorf("OrdersOf(%v) = %v, not %v", s, got, want)
	}
}

// checkOrders fails if any function tells anything else of the orders of an index sum than the words of the document. It returns all orders.
func checkOrders(t *testing.T, s impl.IndexSum) [][][]int {
	t.Helper()
	for a := -1; a <= len(s.Factors); a++ {
		for b := -1; b <= len(s.Factors); b++ {
			checkMerge(t, s, a, b)
		}
	}
	orders := ordersByRule(s)
	checkOrdersOf(t, s, orders)
	for _, order := range orders {
		if !checkOrder(t, s, order) {
			t.Errorf("%v is no order of %v", order, s)
		}
	}
	best, ok := bestByRule(s, orders)
	checkBest(t, s, best, ok)
	greedy, ok := greedyByRule(s)
	checkGreedy(t, s, greedy, ok)
	return orders
}

// checkNoSumOrders fails if any function takes letters as an index sum.
func checkNoSumOrders(t *testing.T, s impl.IndexSum) {
	t.Helper()
	checkOrdersOf(t, s, nil)
	checkBest(t, s, nil, false)
	checkGreedy(t, s, nil, false)
	for _, pair := range [][]int{{0, 0}, {0, 1}, {1, 0}, {0, 2}, {1, 2}, {-1, 0}, {0, farUp}, {farDown, farUp}} {
		checkNoMerge(t, s, pair[0], pair[1])
	}
	var tensors []impl.Tensor
	for range s.Factors {
		tensors = append(tensors, tensorOf(nil, 1))
	}
	for _, order := range [][][]int{nil, pairs(0, 1), pairs(0, 1, 0, 1), pairs(0, 1, 0, 1, 0, 1), pairs(1, 2, 0, 1), pairs(2, 3, 0, 1, 0, 1), {nil}, {{}, {}}} {
		checkNoOrder(t, s, order)
		checkNoValueBy(t, s, nil, order)
		checkNoValueBy(t, s, tensors, order)
		if inner := innerSum(s); sumOkByRule(inner) {
			checkNoValueBy(t, s, factorsFilled(inner, 1), order)
		}
	}
}

// Two factors put together by hand: the index sum that there is then, and that of both; nothing where they cannot be.
func TestMergesByHand(t *testing.T) {
	for _, c := range []struct {
		text        string
		a, b        int
		whole, both string
	}{
		{"ab,bc,cd>ad:2133", 0, 1, "bc,ab>ac:233", "ab,bc>ac:213"},
		{"ab,bc,cd>ad:2133", 1, 2, "ab,bc>ac:213", "ab,bc>ac:133"},
		{"ab,bc,cd>ad:2133", 0, 2, "", ""},
		// The letters of what is put together are ascending, all others stand as they stood.
		{"ab,bc,cd>da:2133", 0, 1, "bc,ab>ca:233", "ab,bc>ac:213"},
		{"ba,cb>ca:123", 0, 1, "ab>ba:13", "ba,cb>ac:123"},
		{"cb,a,dc>bd:1232", 0, 2, "a,bc>bc:122", "ba,cb>ac:232"},
		{"dc,b,a,dbc>dcb:1232", 0, 3, "b,a,bcd>dcb:1232", "cb,cab>abc:232"},
		// Letters that are summed early: of both factors, or of one of them alone.
		{"ab,b,c>ac:231", 0, 1, "b,a>ab:21", "ab,b>a:23"},
		{"ab,b,c>ac:231", 0, 2, "b,abc>ac:231", "ab,c>abc:231"},
		{"ab,b,c>ac:231", 1, 2, "ab,bc>ac:231", "a,b>ab:31"},
		{"ab,c>:231", 0, 1, ">:", "ab,c>:231"},
		{"abc,cd,e>a:12321", 0, 1, "b,a>a:11", "abc,cd>a:1232"},
		{"abc,cd,e>a:12321", 0, 2, "bc,ab>a:132", "abc,d>ac:1231"},
		{"abc,cd,e>a:12321", 1, 2, "abc,c>a:123", "ab,c>a:321"},
		// Factors without letters in common, or without letters.
		{"a,b,c>abc:123", 0, 1, "c,ab>abc:123", "a,b>ab:12"},
		{"a,b,c>abc:123", 0, 2, "b,ac>abc:123", "a,b>ab:13"},
		{"a,b,c>abc:123", 1, 2, "a,bc>abc:123", "a,b>ab:23"},
		{"a,b,c>:123", 0, 1, "a,>:3", "a,b>:12"},
		{",>:", 0, 1, ">:", ",>:"},
		{",a>a:3", 0, 1, "a>a:3", ",a>a:3"},
		{",a,>a:3", 0, 2, "a,>a:3", ",>:"},
		// Factors of the same letters: those that others have are not over.
		{"a,a>:2", 0, 1, ">:", "a,a>:2"},
		{"a,a,a>:2", 0, 2, "a,a>:2", "a,a>a:2"},
		{"ab,ba,b>:23", 0, 1, "a,a>:3", "ab,ba>b:23"},
		// As many letters as a tensor has axes, or one more, where both are joined with another factor or with what comes.
		{"abc,cde,ae>d:22222", 0, 1, "ac,abc>b:222", "abc,cde>ade:22222"},
		{"abc,cde,ae>db:22222", 0, 1, "", ""},
		{"abc,cde,abe>d:22222", 0, 1, "", ""},
		{"abc,cde>ead:12312", 0, 1, "abc>cab:112", "abc,cde>ade:12312"},
		{"ab,cd,a,c>bd:1111", 0, 1, "", ""},
		{"ab,cd,a,c>b:1111", 0, 1, "a,c,abc>b:111", "ab,cd>abc:1111"},
	} {
		s := sumOfText(t, c.text)
		whole, both, ok := impl.MergeOf(s, c.a, c.b)
		if ok != (c.whole != "") || impl.SumText(whole) != c.whole || impl.SumText(both) != c.both {
			t.Errorf("MergeOf(%q, %d, %d) = %q, %q, %v, not %q, %q", c.text, c.a, c.b, impl.SumText(whole), impl.SumText(both), ok, c.whole, c.both)
		}
		checkMerge(t, s, c.a, c.b)
		checkOrders(t, s)
	}
}

// Orders by hand, with what they cost, and which of them are the best one and the greedy one.
func TestOrdersByHand(t *testing.T) {
	for _, c := range []struct {
		text         string
		orders       [][][]int
		costs        []int
		best, greedy int
	}{
		{"ab,bc,cd>ad:2133", [][][]int{pairs(0, 1, 0, 1), pairs(1, 2, 0, 1)}, []int{24, 15}, 1, 0},
		// One factor alone has an order, that without pairs.
		{">:", [][][]int{nil}, []int{0}, 0, 0},
		{"ab>a:23", [][][]int{nil}, []int{0}, 0, 0},
		{"abc>cab:333", [][][]int{nil}, []int{0}, 0, 0},
		{"ab,bc>ac:222", [][][]int{pairs(0, 1)}, []int{8}, 0, 0},
		{"abc,cde>:33333", [][][]int{pairs(0, 1)}, []int{243}, 0, 0},
		// Factors without letters in common: what is least first leaves more for later.
		{"a,b,c>abc:123", [][][]int{pairs(0, 1, 0, 1), pairs(0, 2, 0, 1), pairs(1, 2, 0, 1)}, []int{8, 9, 12}, 0, 0},
		{"a,b,c>cba:321", [][][]int{pairs(0, 1, 0, 1), pairs(0, 2, 0, 1), pairs(1, 2, 0, 1)}, []int{12, 9, 8}, 2, 2},
		// What is the best one twice is the first one, which is not the greedy one.
		{"a,b,c>:321", [][][]int{pairs(0, 1, 0, 1), pairs(0, 2, 0, 1), pairs(1, 2, 0, 1)}, []int{7, 5, 5}, 1, 2},
		// Letters that are summed early.
		{"ab,b,c>ac:231", [][][]int{pairs(0, 1, 0, 1), pairs(0, 2, 0, 1), pairs(1, 2, 0, 1)}, []int{8, 12, 9}, 0, 2},
		{"ab,c,d>:2313", [][][]int{pairs(0, 1, 0, 1), pairs(0, 2, 0, 1), pairs(1, 2, 0, 1)}, []int{9, 19, 9}, 0, 2},
		// Factors without letters: all orders that there are.
		{",,>:", [][][]int{pairs(0, 1, 0, 1), pairs(0, 2, 0, 1), pairs(1, 2, 0, 1)}, []int{2, 2, 2}, 0, 0},
		{",,,>:", [][][]int{
			pairs(0, 1, 0, 1, 0, 1), pairs(0, 1, 0, 2, 0, 1), pairs(0, 1, 1, 2, 0, 1),
			pairs(0, 2, 0, 1, 0, 1), pairs(0, 2, 0, 2, 0, 1), pairs(0, 2, 1, 2, 0, 1),
			pairs(0, 3, 0, 1, 0, 1), pairs(0, 3, 0, 2, 0, 1), pairs(0, 3, 1, 2, 0, 1),
			pairs(1, 2, 0, 1, 0, 1), pairs(1, 2, 0, 2, 0, 1), pairs(1, 2, 1, 2, 0, 1),
			pairs(1, 3, 0, 1, 0, 1), pairs(1, 3, 0, 2, 0, 1), pairs(1, 3, 1, 2, 0, 1),
			pairs(2, 3, 0, 1, 0, 1), pairs(2, 3, 0, 2, 0, 1), pairs(2, 3, 1, 2, 0, 1),
		}, []int{3, 3, 3, 3, 3, 3, 3, 3, 3, 3, 3, 3, 3, 3, 3, 3, 3, 3}, 0, 0},
		// No two factors can be put together, of three or of four.
		{"acb,dcb,dca>dab:2212", nil, nil, -1, -1},
		{"bca,dcb,bed,dac>dea:11231", nil, nil, -1, -1},
		// There is an order, but what is least at first, 12 with 1 and 2 ahead of 12 with 1 and 3, leaves three factors of which no two can be put together.
		{"cda,ed,bae,ecd>eca:13322", [][][]int{pairs(1, 3, 0, 2, 0, 1)}, []int{42}, 0, -1},
	} {
		s := sumOfText(t, c.text)
		checkOrdersOf(t, s, c.orders)
		for i, order := range c.orders {
			if got := impl.OrderCost(s, order); !impl.OrderOk(s, order) || got != c.costs[i] {
				t.Errorf("OrderCost(%q, %v) = %d, not %d", c.text, order, got, c.costs[i])
			}
		}
		pick := func(at int) ([][]int, bool) {
			if at < 0 {
				return nil, false
			}
			return c.orders[at], true
		}
		best, ok := pick(c.best)
		checkBest(t, s, best, ok)
		greedy, ok := pick(c.greedy)
		checkGreedy(t, s, greedy, ok)
		checkOrders(t, s)
		for _, tensors := range factorsFor(s) {
			checkValuesBy(t, s, tensors, c.orders)
		}
	}
}

// Values by hand, the same ones by all orders.
func TestValuesByOrdersByHand(t *testing.T) {
	two := tensorOf([]int{2, 2}, 1, 2, 3, 4)
	long := tensorOf([]int{2, 3}, 1, 2, 3, 4, 5, 6)
	row := tensorOf([]int{3}, 1, 10, 100)
	for _, c := range []struct {
		text    string
		tensors []impl.Tensor
		want    impl.Tensor
	}{
		// One factor alone is summed over what does not come, with the axes of what comes.
		{">:", []impl.Tensor{tensorOf(nil, -5)}, tensorOf(nil, -5)},
		{"ab>ab:23", []impl.Tensor{long}, long},
		{"ab>ba:23", []impl.Tensor{long}, tensorOf([]int{3, 2}, 1, 4, 2, 5, 3, 6)},
		{"ab>b:23", []impl.Tensor{long}, tensorOf([]int{3}, 5, 7, 9)},
		{"ab>:23", []impl.Tensor{long}, tensorOf(nil, 21)},
		// So is what all factors are put together into.
		{"ab,bc>ac:222", []impl.Tensor{two, two}, tensorOf([]int{2, 2}, 7, 10, 15, 22)},
		{"ab,bc>ca:222", []impl.Tensor{two, two}, tensorOf([]int{2, 2}, 7, 15, 10, 22)},
		{"ab,bc,cd>ad:2222", []impl.Tensor{two, two, two}, tensorOf([]int{2, 2}, 37, 54, 81, 118)},
		{"ab,bc,cd>da:2222", []impl.Tensor{two, two, two}, tensorOf([]int{2, 2}, 37, 81, 54, 118)},
		{"ab,bc,ca>:222", []impl.Tensor{two, two, two}, tensorOf(nil, 155)},
		{"ab,bc,cd,de>ae:22222", []impl.Tensor{two, two, two, two}, tensorOf([]int{2, 2}, 199, 290, 435, 634)},
		// Factors without letters in common.
		{"a,b>ba:32", []impl.Tensor{row, tensorOf([]int{2}, 2, 3)}, tensorOf([]int{2, 3}, 2, 20, 200, 3, 30, 300)},
		{"a,b,c>cab:322", []impl.Tensor{row, tensorOf([]int{2}, 2, 3), tensorOf([]int{2}, 1, -1)},
			tensorOf([]int{2, 3, 2}, 2, 3, 20, 30, 200, 300, -2, -3, -20, -30, -200, -300)},
		{"a,b,,c>b:322", []impl.Tensor{row, tensorOf([]int{2}, 2, 3), tensorOf(nil, 2), tensorOf([]int{2}, 4, 1)}, tensorOf([]int{2}, 2220, 3330)},
		// Letters that are summed early.
		{"ab,b,c>ca:231", []impl.Tensor{long, row, tensorOf([]int{1}, 7)}, tensorOf([]int{1, 2}, 2247, 4578)},
		{"ab,c,d>:2313", []impl.Tensor{long, tensorOf([]int{1}, -2), row}, tensorOf(nil, -4662)},
		{"b,ab,ab>b:23", []impl.Tensor{row, long, long}, tensorOf([]int{3}, 17, 290, 4500)},
	} {
		s := sumOfText(t, c.text)
		orders := checkOrders(t, s)
		if len(orders) == 0 {
			t.Errorf("%q has no orders", c.text)
		}
		for _, order := range orders {
			got, ok := impl.ValueBy(s, c.tensors, order)
			checkTensor(t, fmt.Sprintf("ValueBy(%q, %v, %v)", c.text, c.tensors, order), got, ok, c.want)
		}
		checkValuesBy(t, s, c.tensors, orders)
	}
}

// Promise 5: whatever the order, the value is the same, and where the index sum has none, no order leads to one.
func TestWhateverTheOrderTheValueIsTheSame(t *testing.T) {
	d := &dice{state: 9}
	valued, tooGreat, merged, partly := 0, 0, 0, 0
	for factors := 1; factors <= 4; factors++ {
		for range 200 {
			s := d.sum(factors)
			orders := checkOrders(t, s)
			if factors == 4 && len(orders) < 18 {
				partly++
			}
			for _, tensors := range factorsFor(s) {
				if checkValuesBy(t, s, tensors, orders) {
					valued += len(orders)
				} else {
					tooGreat += len(orders)
				}
				for a := range tensors {
					for b := range tensors {
						if checkMergeValue(t, s, tensors, a, b) {
							merged++
						}
					}
				}
			}
		}
	}
	if valued < 10000 || tooGreat < 1000 || merged < 2000 || partly < 20 {
		t.Errorf("%d values, %d that grow too great, %d with two factors put together, %d index sums of which not all orders are ones", valued, tooGreat, merged, partly)
	}
}

// The best order and the greedy one are held against all orders; each of them is there or not, and they differ or not.
func TestBestAndGreedyOrders(t *testing.T) {
	d := &dice{state: 10}
	none, stuck, worse, other, same := 0, 0, 0, 0, 0
	for range 8000 {
		// Factors with many letters, of which only some can be put together.
		s := d.sum(3 + d.below(2))
		for range 12 {
			i := d.below(len(s.Factors))
			if len(s.Sizes) > 0 && d.below(3) > 0 {
				s.Factors[i] = d.put(s.Factors[i], d.below(len(s.Sizes)))
			}
		}
		orders := impl.OrdersOf(s)
		best, bestOk := bestByRule(s, orders)
		checkBest(t, s, best, bestOk)
		greedy, ok := greedyByRule(s)
		checkGreedy(t, s, greedy, ok)
		switch {
		case !bestOk:
			none++
		case !ok:
			stuck++
		case costByRule(s, greedy) > costByRule(s, best):
			worse++
		case !sameLists(greedy, best):
			other++
		default:
			same++
		}
	}
	if none < 30 || stuck < 3 || worse < 100 || other < 100 || same < 1000 {
		t.Errorf("%d without orders, %d without a greedy one, %d in which it is worse, %d another one that is as good, %d the same", none, stuck, worse, other, same)
	}
}

// What comes is limited, and what is put together on the way is not: neither by what factors may have, nor by what tensors may have.
func TestValuesByOrdersAtTheLimit(t *testing.T) {
	one, most := tensorOf(nil, 1), tensorOf(nil, 1000)
	up, down := tensorOf([]int{2}, 1000, 1000), tensorOf([]int{2}, 1000, -1000)
	for _, c := range []struct {
		text    string
		tensors []impl.Tensor
		want    impl.Tensor
		ok      bool
	}{
		{",>:", []impl.Tensor{most, tensorOf(nil, -1000)}, tensorOf(nil, -1000000), true},
		{",,>:", []impl.Tensor{most, most, most}, tensorOf(nil, 1000000000), true},
		{",,,>:", []impl.Tensor{most, most, most, one}, tensorOf(nil, 1000000000), true},
		{",,,>:", []impl.Tensor{most, most, tensorOf(nil, -1), most}, tensorOf(nil, -1000000000), true},
		{",,,>:", []impl.Tensor{most, most, tensorOf(nil, 2), most}, impl.Tensor{}, false},
		{",,,>:", []impl.Tensor{most, tensorOf(nil, -2), most, most}, impl.Tensor{}, false},
		{",,,>:", []impl.Tensor{most, most, most, most}, impl.Tensor{}, false},
		{",,a>:2", []impl.Tensor{most, most, tensorOf([]int{2}, 999, 1)}, tensorOf(nil, 1000000000), true},
		{",,a>:2", []impl.Tensor{most, most, tensorOf([]int{2}, 1000, 1)}, impl.Tensor{}, false},
		{",,a>a:2", []impl.Tensor{most, most, down}, tensorOf([]int{2}, 1000000000, -1000000000), true},
		// Three of them together are beyond the limit, or each product is, and all four are not.
		{"a,a,a,>:2", []impl.Tensor{up, up, up, tensorOf(nil, 0)}, tensorOf(nil, 0), true},
		{"a,a,a,>:2", []impl.Tensor{up, up, up, one}, impl.Tensor{}, false},
		{"a,a,ab,b>b:22", []impl.Tensor{up, up, tensorOf([]int{2, 2}, 1000, 3, 1000, 4), tensorOf([]int{2}, 0, 1)}, tensorOf([]int{2}, 0, 7000000), true},
		{"a,a,ab,b>b:22", []impl.Tensor{up, up, tensorOf([]int{2, 2}, 1000, 3, 1000, 4), tensorOf([]int{2}, 1, 1)}, impl.Tensor{}, false},
		{"a,a,ab,b>:22", []impl.Tensor{up, up, tensorOf([]int{2, 2}, 1000, 1000, 1000, 1000), down}, tensorOf(nil, 0), true},
		{"a,,,>:2", []impl.Tensor{down, most, most, most}, tensorOf(nil, 0), true},
		{"a,a,b,b>:22", []impl.Tensor{up, up, up, down}, tensorOf(nil, 0), true},
		{"a,a,b,b>:22", []impl.Tensor{up, up, up, up}, impl.Tensor{}, false},
		{"a,b,,>ab:22", []impl.Tensor{up, tensorOf([]int{2}, 0, 1), most, most}, tensorOf([]int{2, 2}, 0, 1000000000, 0, 1000000000), true},
		{"a,b,,>ab:22", []impl.Tensor{up, tensorOf([]int{2}, 0, -2), most, most}, impl.Tensor{}, false},
	} {
		s := sumOfText(t, c.text)
		orders := checkOrders(t, s)
		if len(s.Factors) == 4 && len(orders) != 18 {
			t.Errorf("%q has %d orders", c.text, len(orders))
		}
		for _, order := range orders {
			got, ok := impl.ValueBy(s, c.tensors, order)
			if c.ok {
				checkTensor(t, fmt.Sprintf("ValueBy(%q, %v, %v)", c.text, c.tensors, order), got, ok, c.want)
			} else {
				checkNone(t, fmt.Sprintf("ValueBy(%q, %v, %v)", c.text, c.tensors, order), got, ok)
			}
		}
		checkValuesBy(t, s, c.tensors, orders)
	}
	// The greatest sums that there are on the way.
	s := sumOfText(t, "abc,bcd,cde,ea>:33333")
	orders := checkOrders(t, s)
	if len(orders) < 3 {
		t.Errorf("%v has %d orders", s, len(orders))
	}
	for _, num := range []int{1000, -1000} {
		if checkValuesBy(t, s, factorsFilled(s, num), orders) {
			t.Errorf("%v of %d everywhere has a value", s, num)
		}
	}
	checkValuesBy(t, s, factorsFor(s)[5], orders)
}

// All pairs of numbers, as many as there must be, fewer or more, are an order just if they are one by the words of the document.
func TestAllPairs(t *testing.T) {
	for _, c := range []struct {
		text   string
		orders int
	}{
		{"ab>a:23", 1}, {"ab,bc>ac:123", 1}, {"a,,ba>:22", 3}, {"ab,bc,cd>ad:2133", 2}, {"acb,dcb,dca>dab:2212", 0},
	} {
		s := sumOfText(t, c.text)
		some := 0
		for many := range 4 {
			for _, nums := range listsOf(2*many, -1, 3) {
				if checkOrder(t, s, pairs(nums...)) {
					some++
				}
			}
		}
		if some != c.orders {
			t.Errorf("%q has %d orders, not %d", c.text, some, c.orders)
		}
	}
	for _, text := range []string{",a,b,>ab:12", "db,dac,bc,db>ab:1321", "cda,ed,bae,ecd>eca:13322"} {
		s := sumOfText(t, text)
		for _, nums := range listsOf(6, 0, 3) {
			checkOrder(t, s, pairs(nums...))
		}
	}
}

func TestPairsThatAreNoOrder(t *testing.T) {
	for _, text := range []string{">:", "ab>a:23", ",>:", "ab,bc>ac:222", ",,>:", "ab,b,c>ac:231", ",,,>:", "ab,bc,cd,de>ae:22222"} {
		s := sumOfText(t, text)
		for _, good := range checkOrders(t, s) {
			order := copyLists(good)
			// A pair too many, or too few.
			for _, pair := range [][]int{{0, 1}, {0, 0}, {}, {1, 2}} {
				checkNoOrder(t, s, append(copyLists(good), pair))
				checkNoOrder(t, s, append([][]int{pair}, copyLists(good)...))
			}
			if len(good) > 0 {
				checkNoOrder(t, s, order[1:])
				checkNoOrder(t, s, order[:len(order)-1])
				checkNoOrder(t, s, nil)
			}
			for at, pair := range good {
				// A factor twice, the wrong order, a factor that is not there then, and more or fewer than two numbers.
				then := len(s.Factors) - at
				for _, bad := range [][]int{
					{pair[0], pair[0]}, {pair[1], pair[1]}, {pair[1], pair[0]}, {pair[0], then}, {then, pair[1]}, {0, then}, {then - 1, then}, {-1, pair[1]}, {-1, 0}, {-then, 0}, {0, -1},
					{pair[0], farUp}, {farDown, pair[1]}, {farDown, farUp}, {farUp, farDown}, {farUp, farUp},
					nil, {pair[0]}, {pair[1]}, {pair[0], pair[1], 0}, {pair[0], pair[1], pair[1]}, {0, pair[0], pair[1]}, {0, 1, 2}, {0, 1, 0, 1}, make([]int, 1000),
				} {
					order := copyLists(good)
					order[at] = bad
					if checkOrder(t, s, order) {
						t.Errorf("%v is an order of %v", order, s)
					}
				}
			}
		}
		for _, many := range []int{5, 1000, 1000000} {
			checkNoOrder(t, s, make([][]int, many))
		}
		long := pairs(0, 1)
		for range 1000 {
			long = append(long, []int{0, 1})
		}
		checkNoOrder(t, s, long)
	}
}

func TestFactorsThatAreNotThere(t *testing.T) {
	odd := []int{-5, -1, 0, 1, 2, 3, 4, 5, 97, farUp, farDown}
	for _, text := range []string{">:", "ab>a:23", "ab,bc>ac:222", "ab,b,c>ac:231", ",a,b,>ab:12"} {
		s := sumOfText(t, text)
		some := 0
		for _, a := range odd {
			for _, b := range odd {
				if checkMerge(t, s, a, b) {
					some++
				}
			}
		}
		if many := len(s.Factors); some != many*(many-1)/2 {
			t.Errorf("%d pairs of factors of %q can be put together", some, text)
		}
	}
}

func TestOrdersOfSumsThatAreNone(t *testing.T) {
	for _, s := range noSums() {
		checkNoSumOrders(t, s)
	}
	full := []int{0, 1, 2}
	for _, s := range []impl.IndexSum{
		sumOf([]int{2, 2, 2}, nil, full, full, full, full, full), sumOf([]int{2, 2, 4}, nil, full, full), sumOf([]int{2, 0, 2}, nil, full, full, full),
		sumOf([]int{2, 2, 2, 2}, nil, full, full), sumOf([]int{2, 2, 2}, []int{0, 1, 2, 0}, full, full, full, full), sumOf([]int{2, 2, 2, 2}, nil, []int{0, 1, 2, 3}, full),
		sumOf([]int{1, 1, 1, 1, 1, 1}, nil, full, []int{3, 4, 5}), sumOf([]int{2, 2, 2}, []int{3}, full, full), sumOf([]int{2, 2, 2}, nil, full, []int{-1}),
	} {
		checkNoSum(t, s)
		checkNoSumOrders(t, s)
	}
}

// Tensors that are too few or too many, of other shapes, none, or with numbers that factors do not have.
func TestTensorsThatAreNoFactorsByAnyOrder(t *testing.T) {
	for _, text := range []string{"ab>b:23", "ab,b>a:23", "ab,,b,ca>c:231"} {
		s := sumOfText(t, text)
		orders := checkOrders(t, s)
		good := factorsFor(s)[1]
		check := func(tensors []impl.Tensor) {
			t.Helper()
			for _, order := range orders {
				checkNoValueBy(t, s, tensors, order)
			}
		}
		if len(orders) == 0 || !checkValuesBy(t, s, good, orders) {
			t.Fatalf("%q has no orders, or no value", text)
		}
		for many := range good {
			check(good[:many])
			check(append(slices.Clone(good[:many]), good[many+1:]...))
		}
		check(append(slices.Clone(good), tensorOf(nil, 1)))
		check(append([]impl.Tensor{tensorOf(nil, 1)}, good...))
		check(make([]impl.Tensor, len(good)))
		check(make([]impl.Tensor, 1000))
		for at, x := range good {
			bad := append(noTensors(), filled(append(copyInts(x.Shape), 1), 1))
			if len(x.Shape) > 0 {
				bad = append(bad, tensorOf(with(x.Shape, 0, x.Shape[0]+1), x.Nums...), filled(x.Shape[1:], 1), filled(with(x.Shape, 0, 4), 1))
			}
			if len(x.Shape) == 2 {
				bad = append(bad, tensorOf([]int{x.Shape[1], x.Shape[0]}, x.Nums...))
			}
			for _, num := range []int{1001, -1001, impl.MaxNum, impl.MaxNum + 1, farUp, farDown} {
				bad = append(bad, tensorOf(x.Shape, with(x.Nums, len(x.Nums)-1, num)...))
			}
			for _, no := range bad {
				if sameInts(no.Shape, x.Shape) && impl.TensorOk(no) && no.Nums[len(no.Nums)-1] <= 1000 && no.Nums[len(no.Nums)-1] >= -1000 {
					continue
				}
				tensors := slices.Clone(good)
				tensors[at] = no
				check(tensors)
				tensors = factorsFilled(s, 0)
				tensors[at] = no
				check(tensors)
			}
		}
	}
}

// Whatever pairs are told, good or bad, there is an answer, and it is that of the words of the document.
func TestAnyOrders(t *testing.T) {
	d := &dice{state: 11}
	odd := []int{-1, 0, 0, 1, 1, 2, 2, 3, 4, farUp, farDown}
	some, more := 0, 0
	for range 1500 {
		s := d.sum(1 + d.below(4))
		orders := impl.OrdersOf(s)
		order := pairs()
		if len(orders) > 0 {
			order = copyLists(orders[d.below(len(orders))])
		}
		for range d.below(3) {
			num, other := odd[d.below(len(odd))], odd[d.below(len(odd))]
			if len(order) == 0 || d.below(6) == 0 {
				order = append(order, []int{num, other})
				continue
			}
			at := d.below(len(order))
			pair := order[at]
			switch d.below(5) {
			case 0:
				order = append(copyLists(order[:at]), order[at+1:]...)
			case 1:
				order[at] = append(pair, num)
			case 2:
				order[at] = pair[min(1, len(pair)):]
			case 3:
				if len(pair) > 0 {
					order[at] = with(pair, d.below(len(pair)), num)
				}
			case 4:
				last := len(order) - 1
				order[at], order[last] = order[last], order[at]
			}
		}
		if checkOrder(t, s, order) {
			some++
			checkValuesBy(t, s, factorsFor(s)[1], [][][]int{order})
		} else {
			more++
		}
		checkMerge(t, s, odd[d.below(len(odd))], odd[d.below(len(odd))])
	}
	if some < 200 || more < 200 {
		t.Errorf("%d of 1500 are orders, %d are none", some, more)
	}
}

// guardedOrder returns an order all of whose lists have unused capacity, filled with a mark.
func guardedOrder(order [][]int) [][]int {
	g := [][]int{}
	for _, pair := range order {
		g = append(g, guarded(pair))
	}
	return append(g, []int{spare}, []int{spare})[:len(order)]
}

func checkGuardedOrder(t *testing.T, name string, order, was [][]int) {
	t.Helper()
	for i, pair := range order {
		checkGuarded(t, name, pair, was[i])
	}
	if !sameLists(order[len(order):len(order)+2], [][]int{{spare}, {spare}}) {
		t.Errorf("%s wrote behind the pairs of an argument", name)
	}
}

// scribbleOrders writes over all that orders have, and fails if writing over one of them changes another one.
func scribbleOrders(t *testing.T, name string, orders [][][]int) {
	t.Helper()
	for i, order := range orders {
		later := [][][]int{}
		for _, other := range orders[i+1:] {
			later = append(later, copyLists(other))
		}
		scribbleLists(t, name, order)
		order = order[:cap(order)]
		for at := range order {
			order[at] = []int{-spare}
		}
		if !sameOrders(later, orders[i+1:]) {
			t.Errorf("%s shares its order %d with another one", name, i)
		}
	}
}

// Nothing that is returned is part of an argument, or of anything else that is returned, and nothing is kept.
func TestOrdersShareNoMemory(t *testing.T) {
	d := &dice{state: 12}
	list := []impl.IndexSum{sumOfText(t, ">:"), sumOfText(t, ",,,>:"), sumOfText(t, "a,a,a,a>a:3"), sumOfText(t, "ab>ab:22"), sumOfText(t, "acb,dcb,dca>dab:2212")}
	for range 60 {
		list = append(list, d.sum(1+d.below(4)))
	}
	for _, was := range list {
		s := guardedSum(was)
		wasTensors := factorsFor(was)[1]
		var tensors []impl.Tensor
		for _, x := range wasTensors {
			tensors = append(tensors, guardedTensor(x))
		}
		tensors = append(tensors, tensorOf(nil, spare), tensorOf(nil, spare))[:len(wasTensors)]
		// Twice, as what is written over the first time might be kept for the second one.
		for range 2 {
			for _, wasOrder := range checkOrders(t, s) {
				order := guardedOrder(wasOrder)
				checkOrder(t, s, order)
				checkValuesBy(t, s, tensors, [][][]int{order})
				value, _ := impl.ValueBy(s, tensors, order)
				scribbleTensor(t, "ValueBy", value)
				checkGuardedOrder(t, "a function of chapter 5", order, wasOrder)
			}
			for b := range s.Factors {
				for a := range b {
					whole, both, _ := impl.MergeOf(s, a, b)
					wasBoth := copySum(both)
					scribbleSum(t, "MergeOf", whole)
					if !sameSum(both, wasBoth) {
						t.Errorf("MergeOf(%v, %d, %d) returns two index sums that share memory", s, a, b)
					}
					scribbleSum(t, "MergeOf", both)
				}
			}
			scribbleOrders(t, "OrdersOf", impl.OrdersOf(s))
			best, _ := impl.BestOrder(s)
			scribbleOrders(t, "BestOrder", [][][]int{best})
			greedy, _ := impl.GreedyOrder(s)
			scribbleOrders(t, "GreedyOrder", [][][]int{greedy})
			checkGuardedSum(t, "a function of chapter 5", s, was)
			for i, x := range tensors {
				checkGuardedTensor(t, "ValueBy", x, wasTensors[i])
			}
			for _, x := range tensors[len(tensors) : len(tensors)+2] {
				checkTensor(t, "what stands behind the factors", x, true, tensorOf(nil, spare))
			}
		}
	}
	for _, was := range noSums() {
		s := guardedSum(was)
		checkNoSumOrders(t, s)
		checkGuardedSum(t, "a function of chapter 5", s, was)
	}
}
