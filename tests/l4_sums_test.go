package tests

import (
	"fmt"
	"regexp"
	"strings"
	"testing"

	"loop.example/wholetensors/impl"
)

func sumOf(sizes []int, out []int, factors ...[]int) impl.IndexSum {
	return impl.IndexSum{Sizes: sizes, Factors: factors, Out: out}
}

func copySum(s impl.IndexSum) impl.IndexSum {
	c := impl.IndexSum{Sizes: copyInts(s.Sizes), Out: copyInts(s.Out)}
	for _, letters := range s.Factors {
		c.Factors = append(c.Factors, copyInts(letters))
	}
	return c
}

func sameSum(a, b impl.IndexSum) bool {
	return sameInts(a.Sizes, b.Sizes) && sameLists(a.Factors, b.Factors) && sameInts(a.Out, b.Out)
}

// sumOfText returns the index sum of a text that has one.
func sumOfText(t *testing.T, text string) impl.IndexSum {
	t.Helper()
	s, ok := impl.ReadSum(text)
	if !ok {
		t.Fatalf("ReadSum(%q) is none", text)
	}
	return s
}

// timesOf returns how often a number is in a list.
func timesOf(list []int, num int) int {
	times := 0
	for _, other := range list {
		if other == num {
			times++
		}
	}
	return times
}

// lettersByRule reports whether numbers are at most 3 different letters of so many.
func lettersByRule(letters []int, many int) bool {
	for _, letter := range letters {
		if letter < 0 || letter >= many || timesOf(letters, letter) > 1 {
			return false
		}
	}
	return len(letters) <= 3
}

// sumOkByRule tells by the words of the document whether letters are an index sum.
func sumOkByRule(s impl.IndexSum) bool {
	many := len(s.Sizes)
	if many > 5 || len(s.Factors) < 1 || len(s.Factors) > 4 || !lettersByRule(s.Out, many) {
		return false
	}
	var all []int
	for _, letters := range s.Factors {
		if !lettersByRule(letters, many) {
			return false
		}
		all = append(all, letters...)
	}
	for letter, size := range s.Sizes {
		if size < 1 || size > 3 || timesOf(all, letter) == 0 {
			return false
		}
	}
	return true
}

// sizesByRule returns the sizes of letters.
func sizesByRule(s impl.IndexSum, letters []int) []int {
	var sizes []int
	for _, letter := range letters {
		sizes = append(sizes, s.Sizes[letter])
	}
	return sizes
}

// numbersOf returns all numbers of letters of sizes.
func numbersOf(sizes []int) [][]int {
	var all [][]int
	for _, nums := range listsOf(len(sizes), 0, impl.MaxSize-1) {
		fits := true
		for letter, num := range nums {
			fits = fits && num < sizes[letter]
		}
		if fits {
			all = append(all, nums)
		}
	}
	return all
}

// indexByRule returns the index of the place of letters at their numbers.
func indexByRule(s impl.IndexSum, letters, nums []int) int {
	index, stride := 0, 1
	for i := len(letters) - 1; i >= 0; i-- {
		index += nums[letters[i]] * stride
		stride *= s.Sizes[letters[i]]
	}
	return index
}

// sumByRule tells by the words of the document what comes of an index sum of tensors that are its factors: place by place, the sum over all numbers that are those of the place.
func sumByRule(s impl.IndexSum, tensors []impl.Tensor) (impl.Tensor, bool) {
	value := filled(sizesByRule(s, s.Out), 0)
	all := numbersOf(s.Sizes)
	for index := range value.Nums {
		for _, nums := range all {
			if indexByRule(s, s.Out, nums) != index {
				continue
			}
			product := 1
			for i, letters := range s.Factors {
				product *= tensors[i].Nums[indexByRule(s, letters, nums)]
			}
			value.Nums[index] += product
		}
	}
	for _, num := range value.Nums {
		if num < -1000000000 || num > 1000000000 {
			return impl.Tensor{}, false
		}
	}
	return value, true
}

// letterNames returns the names of letters, by the words of the document.
func letterNames(letters []int) string {
	text := ""
	for _, letter := range letters {
		text += string("abcde"[letter])
	}
	return text
}

func textByRule(s impl.IndexSum) string {
	var factors []string
	for _, letters := range s.Factors {
		factors = append(factors, letterNames(letters))
	}
	text := strings.Join(factors, ",") + ">" + letterNames(s.Out) + ":"
	for _, size := range s.Sizes {
		text += fmt.Sprint(size)
	}
	return text
}

// readByRule returns the index sum of a text by a pattern of all texts, without reading sign by sign.
func readByRule(pattern *regexp.Regexp, text string) (impl.IndexSum, bool) {
	found := pattern.FindStringSubmatch(text)
	if found == nil {
		return impl.IndexSum{}, false
	}
	var s impl.IndexSum
	for _, letters := range strings.Split(found[1], ",") {
		s.Factors = append(s.Factors, lettersNamed(letters))
	}
	s.Out = lettersNamed(found[2])
	for _, figure := range found[3] {
		s.Sizes = append(s.Sizes, strings.IndexRune("0123", figure))
	}
	return s, sumOkByRule(s)
}

func lettersNamed(names string) []int {
	letters := []int{}
	for _, name := range names {
		letters = append(letters, strings.IndexRune("abcde", name))
	}
	return letters
}

func sumPattern() *regexp.Regexp {
	return regexp.MustCompile(`\A([a-e]{0,3}(?:,[a-e]{0,3}){0,3})>([a-e]{0,3}):([1-3]{0,5})\z`)
}

// factorOrders returns all orders of so many factors.
func factorOrders(many int) [][]int {
	var orders [][]int
	for _, list := range listsOf(many, 0, many-1) {
		if isFactorOrder(list, many) {
			orders = append(orders, list)
		}
	}
	return orders
}

func isFactorOrder(list []int, many int) bool {
	for at := range many {
		if timesOf(list, at) != 1 {
			return false
		}
	}
	return len(list) == many
}

// inOrder returns tensors in an order.
func inOrder(tensors []impl.Tensor, order []int) []impl.Tensor {
	var list []impl.Tensor
	for _, at := range order {
		list = append(list, tensors[at])
	}
	return list
}

// factorsFilled returns factors of an index sum that have one number at all places.
func factorsFilled(s impl.IndexSum, num int) []impl.Tensor {
	var tensors []impl.Tensor
	for _, letters := range s.Factors {
		tensors = append(tensors, filled(sizesByRule(s, letters), num))
	}
	return tensors
}

// factorsFor returns factors of an index sum: noughts, small numbers, such as differ all, large ones, and the largest ones of either sign.
func factorsFor(s impl.IndexSum) [][]impl.Tensor {
	list := [][]impl.Tensor{factorsFilled(s, 0), nil, nil, nil, factorsFilled(s, 1000), nil}
	for i, letters := range s.Factors {
		shape := sizesByRule(s, letters)
		list[1] = append(list[1], mixed(shape, i))
		list[2] = append(list[2], numbered(shape, 1+30*i))
		large, largest := mixed(shape, i+2), filled(shape, 1000)
		for at := range large.Nums {
			large.Nums[at] *= 90
			if (at+i)%2 == 0 {
				largest.Nums[at] = -1000
			}
		}
		list[3] = append(list[3], large)
		list[5] = append(list[5], largest)
	}
	return list
}

func checkNoSumValue(t *testing.T, s impl.IndexSum, tensors []impl.Tensor) {
	t.Helper()
	value, ok := impl.SumValue(s, tensors)
	checkNone(t, fmt.Sprintf("SumValue(%v, %v)", s, tensors), value, ok)
}

func checkNoFactorOrder(t *testing.T, s impl.IndexSum, turn []int) {
	t.Helper()
	if got, ok := impl.WithOrder(s, turn); ok || !sameSum(got, impl.IndexSum{}) {
		t.Errorf("WithOrder(%v, %v) = %v, %v, not nothing", s, turn, got, ok)
	}
}

func checkNoSumText(t *testing.T, text string) {
	t.Helper()
	if got, ok := impl.ReadSum(text); ok || !sameSum(got, impl.IndexSum{}) {
		t.Errorf("ReadSum(%.99q) = %v, %v, not nothing", text, got, ok)
	}
}

// checkNoFactor fails if there is a factor where there is none.
func checkNoFactor(t *testing.T, s impl.IndexSum, at int) {
	t.Helper()
	if shape, ok := impl.FactorShape(s, at); ok || len(shape) != 0 {
		t.Errorf("FactorShape(%v, %d) = %v, %v, not nothing", s, at, shape, ok)
	}
}

// checkNoSum fails if any function takes letters as an index sum.
func checkNoSum(t *testing.T, s impl.IndexSum) {
	t.Helper()
	if impl.SumOk(s) || impl.SumCost(s) != -1 || impl.SumText(s) != "" {
		t.Errorf("%v is an index sum: %v, cost %d, text %q", s, impl.SumOk(s), impl.SumCost(s), impl.SumText(s))
	}
	for at := -1; at <= len(s.Factors); at++ {
		checkNoFactor(t, s, at)
	}
	var order []int
	var tensors []impl.Tensor
	for at := range s.Factors {
		order = append(order, at)
		tensors = append(tensors, tensorOf(nil, 1))
	}
	checkNoFactorOrder(t, s, nil)
	checkNoFactorOrder(t, s, order)
	checkNoSumValue(t, s, nil)
	checkNoSumValue(t, s, tensors)
	if inner := innerSum(s); sumOkByRule(inner) {
		checkNoSumValue(t, s, factorsFilled(inner, 1))
	}
}

// innerSum returns what is left of letters that are no index sum without what has no size.
func innerSum(s impl.IndexSum) impl.IndexSum {
	s = copySum(s)
	for i, letters := range s.Factors {
		s.Factors[i] = nil
		for _, letter := range letters {
			if letter >= 0 && letter < len(s.Sizes) {
				s.Factors[i] = append(s.Factors[i], letter)
			}
		}
	}
	s.Out = nil
	return s
}

// checkSum fails if any function tells anything else of letters, be they an index sum or none, than the words of the document. It reports whether they are one.
func checkSum(t *testing.T, s impl.IndexSum) bool {
	t.Helper()
	if !sumOkByRule(s) {
		checkNoSum(t, s)
		return false
	}
	if !impl.SumOk(s) {
		t.Errorf("%v is no index sum", s)
	}
	if got, want := impl.SumCost(s), len(numbersOf(s.Sizes)); got != want {
		t.Errorf("SumCost(%v) = %d, not %d", s, got, want)
	}
	for at, letters := range s.Factors {
		got, ok := impl.FactorShape(s, at)
		if want := sizesByRule(s, letters); !ok || !sameInts(got, want) {
			t.Errorf("FactorShape(%v, %d) = %v, %v, not %v", s, at, got, ok, want)
		}
	}
	for _, at := range []int{-1, -len(s.Factors), len(s.Factors), len(s.Factors) + 1, farUp, farDown} {
		checkNoFactor(t, s, at)
	}
	text := impl.SumText(s)
	if want := textByRule(s); text != want {
		t.Errorf("SumText(%v) = %q, not %q", s, text, want)
	}
	if back, ok := impl.ReadSum(text); !ok || !sameSum(back, s) {
		t.Errorf("ReadSum(%q) = %v, %v, not %v", text, back, ok, s)
	}
	return true
}

// checkSumValue fails if an index sum of tensors that are its factors is another one than the words of the document tell. It reports whether it is a tensor.
func checkSumValue(t *testing.T, s impl.IndexSum, tensors []impl.Tensor) bool {
	t.Helper()
	want, ok := sumByRule(s, tensors)
	if !ok {
		checkNoSumValue(t, s, tensors)
		return false
	}
	got, ok := impl.SumValue(s, tensors)
	checkTensor(t, fmt.Sprintf("SumValue(%v, %v)", s, tensors), got, ok, want)
	return true
}

// checkFactorOrders fails if an index sum is not the same whatever the order of its factors, which come in the same order.
func checkFactorOrders(t *testing.T, s impl.IndexSum, sets [][]impl.Tensor) {
	t.Helper()
	for _, order := range factorOrders(len(s.Factors)) {
		turned, ok := impl.WithOrder(s, order)
		want := copySum(s)
		for i, at := range order {
			want.Factors[i] = s.Factors[at]
		}
		if !ok || !sameSum(turned, want) {
			t.Fatalf("WithOrder(%v, %v) = %v, %v, not %v", s, order, turned, ok, want)
		}
		checkSum(t, turned)
		if impl.SumCost(turned) != impl.SumCost(s) {
			t.Errorf("%v costs %d, and in the order %v %d", s, impl.SumCost(s), order, impl.SumCost(turned))
		}
		for _, tensors := range sets {
			a, okA := impl.SumValue(s, tensors)
			b, okB := impl.SumValue(turned, inOrder(tensors, order))
			checkSame(t, fmt.Sprintf("%v of %v, and in the order %v", s, tensors, order), a, okA, b, okB)
		}
		back := copyInts(order)
		for i, at := range order {
			back[at] = i
		}
		if again, ok := impl.WithOrder(turned, back); !ok || !sameSum(again, s) {
			t.Errorf("%v in the order %v, and back, is %v, %v", s, order, again, ok)
		}
	}
}

func TestLimitsOfSums(t *testing.T) {
	if impl.MaxLetters != 5 || impl.MaxSize != 3 || impl.MaxFactors != 4 || impl.MaxFactor != 1000 {
		t.Errorf("MaxLetters = %d, MaxSize = %d, MaxFactors = %d, MaxFactor = %d", impl.MaxLetters, impl.MaxSize, impl.MaxFactors, impl.MaxFactor)
	}
}

// Index sums by hand, with their letters, what they cost, and what comes.
func TestSumsByHand(t *testing.T) {
	two := tensorOf([]int{2, 2}, 1, 2, 3, 4)
	long := tensorOf([]int{2, 3}, 1, 2, 3, 4, 5, 6)
	row := tensorOf([]int{3}, 1, 10, 100)
	five := tensorOf(nil, 5)
	for _, c := range []struct {
		text    string
		s       impl.IndexSum
		cost    int
		tensors []impl.Tensor
		want    impl.Tensor
	}{
		{"ab,bc>ac:222", sumOf([]int{2, 2, 2}, []int{0, 2}, []int{0, 1}, []int{1, 2}), 8, []impl.Tensor{two, two}, tensorOf([]int{2, 2}, 7, 10, 15, 22)},
		{"ab,bc>ca:222", sumOf([]int{2, 2, 2}, []int{2, 0}, []int{0, 1}, []int{1, 2}), 8, []impl.Tensor{two, two}, tensorOf([]int{2, 2}, 7, 15, 10, 22)},
		{"ab>:22", sumOf([]int{2, 2}, nil, []int{0, 1}), 4, []impl.Tensor{two}, tensorOf(nil, 10)},
		{"ab>ab:23", sumOf([]int{2, 3}, []int{0, 1}, []int{0, 1}), 6, []impl.Tensor{long}, long},
		{"ab>ba:23", sumOf([]int{2, 3}, []int{1, 0}, []int{0, 1}), 6, []impl.Tensor{long}, tensorOf([]int{3, 2}, 1, 4, 2, 5, 3, 6)},
		{"ba>ab:32", sumOf([]int{3, 2}, []int{0, 1}, []int{1, 0}), 6, []impl.Tensor{long}, tensorOf([]int{3, 2}, 1, 4, 2, 5, 3, 6)},
		{"ab>a:23", sumOf([]int{2, 3}, []int{0}, []int{0, 1}), 6, []impl.Tensor{long}, tensorOf([]int{2}, 6, 15)},
		{"ab>b:23", sumOf([]int{2, 3}, []int{1}, []int{0, 1}), 6, []impl.Tensor{long}, tensorOf([]int{3}, 5, 7, 9)},
		{"ab,b>a:23", sumOf([]int{2, 3}, []int{0}, []int{0, 1}, []int{1}), 6, []impl.Tensor{long, row}, tensorOf([]int{2}, 321, 654)},
		{"ab,b>ab:23", sumOf([]int{2, 3}, []int{0, 1}, []int{0, 1}, []int{1}), 6, []impl.Tensor{long, row}, tensorOf([]int{2, 3}, 1, 20, 300, 4, 50, 600)},
		{"a,a>:3", sumOf([]int{3}, nil, []int{0}, []int{0}), 3, []impl.Tensor{row, row}, tensorOf(nil, 10101)},
		{"a,a>a:3", sumOf([]int{3}, []int{0}, []int{0}, []int{0}), 3, []impl.Tensor{row, row}, tensorOf([]int{3}, 1, 100, 10000)},
		{"a,b>ba:32", sumOf([]int{3, 2}, []int{1, 0}, []int{0}, []int{1}), 6, []impl.Tensor{row, tensorOf([]int{2}, 2, 3)}, tensorOf([]int{2, 3}, 2, 20, 200, 3, 30, 300)},
		// Factors without letters, with others or alone.
		{">:", sumOf(nil, nil, []int{}), 1, []impl.Tensor{five}, five},
		{",>:", sumOf(nil, nil, []int{}, []int{}), 1, []impl.Tensor{five, tensorOf(nil, -7)}, tensorOf(nil, -35)},
		{",,,>:", sumOf(nil, nil, []int{}, []int{}, []int{}, []int{}), 1, []impl.Tensor{five, five, five, tensorOf(nil, 2)}, tensorOf(nil, 250)},
		{",a>a:3", sumOf([]int{3}, []int{0}, []int{}, []int{0}), 3, []impl.Tensor{five, row}, tensorOf([]int{3}, 5, 50, 500)},
		{"a,>:3", sumOf([]int{3}, nil, []int{0}, []int{}), 3, []impl.Tensor{row, five}, tensorOf(nil, 555)},
		{"a,,b>ab:12", sumOf([]int{1, 2}, []int{0, 1}, []int{0}, []int{}, []int{1}), 2, []impl.Tensor{tensorOf([]int{1}, 3), five, tensorOf([]int{2}, 1, -1)}, tensorOf([]int{1, 2}, 15, -15)},
		// Letters that are in one factor alone are summed as all others are, if they are not in Out.
		{"ab,c>:222", sumOf([]int{2, 2, 2}, nil, []int{0, 1}, []int{2}), 8, []impl.Tensor{two, tensorOf([]int{2}, 1, 2)}, tensorOf(nil, 30)},
		{"ab,c>a:222", sumOf([]int{2, 2, 2}, []int{0}, []int{0, 1}, []int{2}), 8, []impl.Tensor{two, tensorOf([]int{2}, 1, 2)}, tensorOf([]int{2}, 9, 21)},
		{"a,b>a:32", sumOf([]int{3, 2}, []int{0}, []int{0}, []int{1}), 6, []impl.Tensor{row, tensorOf([]int{2}, 5, -5)}, tensorOf([]int{3}, 0, 0, 0)},
		{"abc>c:222", sumOf([]int{2, 2, 2}, []int{2}, []int{0, 1, 2}), 8, []impl.Tensor{numbered([]int{2, 2, 2}, 1)}, tensorOf([]int{2}, 16, 20)},
		{"b,a>a:13", sumOf([]int{1, 3}, []int{0}, []int{1}, []int{0}), 3, []impl.Tensor{row, tensorOf([]int{1}, 2)}, tensorOf([]int{1}, 222)},
		// As many letters and factors as there may be.
		{"abc,cde,ea,d>bde:12321", sumOf([]int{1, 2, 3, 2, 1}, []int{1, 3, 4}, []int{0, 1, 2}, []int{2, 3, 4}, []int{4, 0}, []int{3}), 12,
			[]impl.Tensor{numbered([]int{1, 2, 3}, 1), numbered([]int{3, 2, 1}, 1), tensorOf([]int{1, 1}, 10), tensorOf([]int{2}, 1, -1)},
			tensorOf([]int{2, 2, 1}, 220, -280, 490, -640)},
		{"abc,cde>:33333", sumOf([]int{3, 3, 3, 3, 3}, nil, []int{0, 1, 2}, []int{2, 3, 4}), 243,
			[]impl.Tensor{filled([]int{3, 3, 3}, 1), filled([]int{3, 3, 3}, -1)}, tensorOf(nil, -243)},
	} {
		if !checkSum(t, c.s) {
			t.Errorf("%v is no index sum", c.s)
		}
		if got := impl.SumText(c.s); got != c.text {
			t.Errorf("SumText(%v) = %q, not %q", c.s, got, c.text)
		}
		if got, ok := impl.ReadSum(c.text); !ok || !sameSum(got, c.s) {
			t.Errorf("ReadSum(%q) = %v, %v, not %v", c.text, got, ok, c.s)
		}
		if got := impl.SumCost(c.s); got != c.cost {
			t.Errorf("SumCost(%v) = %d, not %d", c.s, got, c.cost)
		}
		got, ok := impl.SumValue(c.s, c.tensors)
		checkTensor(t, fmt.Sprintf("SumValue(%q, %v)", c.text, c.tensors), got, ok, c.want)
		checkSumValue(t, c.s, c.tensors)
		checkFactorOrders(t, c.s, [][]impl.Tensor{c.tensors})
	}
}

// Index sums that are what chapter 2 does to tensors, of all shapes that factors may have.
func TestSumsThatChapterTwoHas(t *testing.T) {
	names := "abc"
	for _, shape := range allShapes() {
		if timesOf(shape, 4) > 0 {
			continue
		}
		x := mixed(shape, 4)
		letters, sizes := names[:len(shape)], ""
		for _, size := range shape {
			sizes += fmt.Sprint(size)
		}
		checkBoth := func(name string, want impl.Tensor, wantOk bool, text string, tensors ...impl.Tensor) {
			t.Helper()
			got, ok := impl.SumValue(sumOfText(t, text), tensors)
			if !wantOk {
				t.Errorf("%s of %v is none", name, x)
			}
			checkTensor(t, fmt.Sprintf("%q of %v", text, tensors), got, ok, want)
		}
		y := numbered(shape, -9)
		two, ok := impl.TwoOf(impl.OpMul, x, y)
		checkBoth("TwoOf", two, ok, letters+","+letters+">"+letters+":"+sizes, x, y)
		two, ok = impl.TwoOf(impl.OpMul, tensorOf(nil, -3), x)
		checkBoth("TwoOf", two, ok, ","+letters+">"+letters+":"+sizes, tensorOf(nil, -3), x)
		for axis := range shape {
			sum, ok := impl.SumAlong(x, axis)
			checkBoth("SumAlong", sum, ok, letters+">"+letters[:axis]+letters[axis+1:]+":"+sizes, x)
		}
		for _, turn := range allTurns() {
			if len(turn) == len(shape) {
				turned, ok := impl.TurnOf(x, turn)
				checkBoth("TurnOf", turned, ok, letters+">"+letterNames(turn)+":"+sizes, x)
			}
		}
		if len(shape) != 2 {
			continue
		}
		for columns := 1; columns <= impl.MaxSize; columns++ {
			b := numbered([]int{shape[1], columns}, -2)
			product, ok := impl.ProductOf(x, b)
			checkBoth("ProductOf", product, ok, "ab,bc>ac:"+sizes+fmt.Sprint(columns), x, b)
		}
	}
}

func TestNumbersOfLettersAndFactors(t *testing.T) {
	for many := 0; many <= 8; many++ {
		var s impl.IndexSum
		for letter := range many {
			s.Sizes = append(s.Sizes, 1+letter%3)
			if letter%3 == 0 {
				s.Factors = append(s.Factors, nil)
			}
			last := len(s.Factors) - 1
			s.Factors[last] = append(s.Factors[last], letter)
		}
		if many == 0 {
			s.Factors = [][]int{{}}
		}
		if got := checkSum(t, s); got != (many <= 5) {
			t.Errorf("%d letters are those of an index sum: %v", many, got)
		}
	}
	for many := 0; many <= 8; many++ {
		for _, letters := range [][]int{nil, {0}} {
			s := impl.IndexSum{Sizes: copyInts([]int{2}[:len(letters)])}
			for range many {
				s.Factors = append(s.Factors, letters)
			}
			if got := checkSum(t, s); got != (many >= 1 && many <= 4) {
				t.Errorf("%d factors are those of an index sum: %v", many, got)
			}
		}
	}
	for many := 0; many <= 5; many++ {
		sizes, letters := []int{2, 1, 2, 3, 1}, []int{4, 3, 2, 1, 0}
		s := sumOf(sizes, letters[:many], []int{0, 1, 2}, []int{3, 4})
		if got := checkSum(t, s); got != (many <= 3) {
			t.Errorf("%d letters are those of what comes: %v", many, got)
		}
		s = sumOf(sizes, nil, letters[:many], []int{0, 1, 2}, []int{3, 4})
		if got := checkSum(t, s); got != (many <= 3) {
			t.Errorf("%d letters are those of a factor: %v", many, got)
		}
	}
}

func TestSizesOfLetters(t *testing.T) {
	for _, size := range []int{-3, -1, 0, 1, 2, 3, 4, 5, 1000, farUp, farDown} {
		for letter := range 3 {
			for _, out := range [][]int{nil, {letter}} {
				s := sumOf(with([]int{2, 2, 2}, letter, size), out, []int{0, 1}, []int{1, 2})
				if got := checkSum(t, s); got != (size >= 1 && size <= 3) {
					t.Errorf("the size %d is that of a letter: %v", size, got)
				}
			}
		}
	}
}

// noSumLetters returns what are no letters of three ones: such as are none, or the same ones twice.
func noSumLetters() [][]int {
	list := [][]int{{0, 0}, {2, 2}, {0, 1, 0}, {1, 2, 2}, {1, 1, 1}, {0, 1, 2, 0}, {0, 1, 2, 3}, make([]int, 1000)}
	for _, letter := range []int{-1, -3, 3, 4, 5, 97, farUp, farDown} {
		list = append(list, []int{letter}, []int{0, letter}, []int{letter, 1}, []int{0, 1, letter}, []int{letter, 1, 2}, []int{letter, letter})
	}
	return list
}

func noSums() []impl.IndexSum {
	full := []int{0, 1, 2}
	list := []impl.IndexSum{
		{},
		sumOf(nil, nil), sumOf([]int{2}, nil), sumOf([]int{2}, []int{0}), sumOf(nil, []int{0}, []int{}), sumOf(nil, nil, []int{0}),
		// A letter that no factor has, whether it comes or not.
		sumOf([]int{2}, nil, []int{}), sumOf([]int{2}, []int{0}, []int{}), sumOf([]int{2, 2}, nil, []int{0}), sumOf([]int{2, 2}, nil, []int{1}),
		sumOf([]int{2, 2}, []int{1}, []int{0}), sumOf([]int{2, 2, 2}, []int{0, 2}, []int{0}, []int{2}, []int{2, 0}),
		sumOf([]int{1, 1, 1, 1, 1}, nil, full, []int{3}), sumOf([]int{1, 1, 1, 1, 1}, []int{4}, full, []int{3}),
		{Sizes: make([]int, 1000), Factors: [][]int{full}}, {Sizes: []int{2, 2, 2}, Factors: make([][]int, 1000)},
	}
	for _, letters := range noSumLetters() {
		sizes := []int{2, 3, 1}
		list = append(list, sumOf(sizes, letters, full), sumOf(sizes, nil, letters), sumOf(sizes, nil, full, letters), sumOf(sizes, nil, letters, full))
		list = append(list, sumOf(sizes, full, full, full, full, letters), sumOf(sizes, letters, letters))
	}
	return list
}

func TestSumsThatAreNone(t *testing.T) {
	for _, s := range noSums() {
		checkNoSum(t, s)
		if sumOkByRule(s) {
			t.Errorf("%v is an index sum by the rule", s)
		}
	}
}

// All letters of up to two factors, good ones and bad ones, with up to two sizes.
func TestAllSmallSums(t *testing.T) {
	var lists, sizes [][]int
	for many := range 3 {
		lists = append(lists, listsOf(many, -1, 2)...)
		sizes = append(sizes, listsOf(many, 0, 4)...)
	}
	some := 0
	for _, sizes := range sizes {
		for _, a := range lists {
			for _, out := range lists {
				if checkSum(t, sumOf(sizes, out, a)) {
					some++
				}
			}
			for _, b := range lists {
				if checkSum(t, sumOf(sizes, nil, a, b)) {
					some++
				}
			}
		}
	}
	if some < 100 {
		t.Errorf("only %d are index sums", some)
	}
}

func TestFactorShape(t *testing.T) {
	s := sumOfText(t, "abc,,ca,b>ab:123")
	for at, want := range [][]int{{1, 2, 3}, {}, {3, 1}, {2}} {
		if got, ok := impl.FactorShape(s, at); !ok || !sameInts(got, want) {
			t.Errorf("FactorShape(%v, %d) = %v, %v, not %v", s, at, got, ok, want)
		}
	}
	for _, at := range []int{-1, -4, 4, 5, 97, farUp, farDown} {
		checkNoFactor(t, s, at)
	}
}

// Tensors that are too few or too many, of other shapes, none, or with numbers that factors do not have.
func TestTensorsThatAreNoFactors(t *testing.T) {
	s := sumOfText(t, "ab,,b,ca>c:231")
	good := factorsFor(s)[1]
	if !checkSumValue(t, s, good) {
		t.Fatalf("%v are no factors of %v", good, s)
	}
	for many := range good {
		checkNoSumValue(t, s, good[:many])
		checkNoSumValue(t, s, append(append([]impl.Tensor{}, good[:many]...), good[many+1:]...))
	}
	checkNoSumValue(t, s, append(append([]impl.Tensor{}, good...), tensorOf(nil, 1)))
	checkNoSumValue(t, s, append(append([]impl.Tensor{}, good...), impl.Tensor{}))
	checkNoSumValue(t, s, make([]impl.Tensor, 4))
	checkNoSumValue(t, s, make([]impl.Tensor, 1000))
	for at := range good {
		bad := noTensors()
		for _, shape := range allShapes() {
			if !sameInts(shape, good[at].Shape) {
				bad = append(bad, filled(shape, 1))
			}
		}
		for index := range good[at].Nums {
			for _, num := range []int{1001, -1001, 1000000, impl.MaxNum, -impl.MaxNum, impl.MaxNum + 1, farUp, farDown} {
				bad = append(bad, tensorOf(good[at].Shape, with(good[at].Nums, index, num)...))
			}
		}
		for _, x := range bad {
			tensors := factorsFor(s)[1]
			tensors[at] = x
			checkNoSumValue(t, s, tensors)
			// A number too great is one also where all others are noughts.
			tensors = factorsFilled(s, 0)
			tensors[at] = x
			checkNoSumValue(t, s, tensors)
		}
		for index := range good[at].Nums {
			for _, num := range []int{1000, -1000} {
				tensors := factorsFor(s)[1]
				tensors[at].Nums[index] = num
				if !checkSumValue(t, s, tensors) {
					t.Errorf("%v are no factors of %v", tensors, s)
				}
			}
		}
	}
}

// What comes is limited, and what is multiplied and added on the way is not.
func TestSumsAtTheLimit(t *testing.T) {
	one, most := tensorOf(nil, 1), tensorOf(nil, 1000)
	for _, c := range []struct {
		text    string
		tensors []impl.Tensor
		want    impl.Tensor
		ok      bool
	}{
		{",,,>:", []impl.Tensor{most, most, most, one}, tensorOf(nil, 1000000000), true},
		{",,,>:", []impl.Tensor{most, most, most, tensorOf(nil, -1)}, tensorOf(nil, -1000000000), true},
		{",,,>:", []impl.Tensor{most, most, most, tensorOf(nil, 0)}, tensorOf(nil, 0), true},
		{",,,>:", []impl.Tensor{most, most, most, tensorOf(nil, 2)}, impl.Tensor{}, false},
		{",,,>:", []impl.Tensor{tensorOf(nil, 2), most, most, most}, impl.Tensor{}, false},
		{",,,>:", []impl.Tensor{most, most, most, tensorOf(nil, -2)}, impl.Tensor{}, false},
		{",,,>:", []impl.Tensor{most, most, most, most}, impl.Tensor{}, false},
		{",,a>:2", []impl.Tensor{most, most, tensorOf([]int{2}, 999, 1)}, tensorOf(nil, 1000000000), true},
		{",,a>:2", []impl.Tensor{most, most, tensorOf([]int{2}, 1000, 1)}, impl.Tensor{}, false},
		{",a,a>:2", []impl.Tensor{most, tensorOf([]int{2}, 1000, 1), tensorOf([]int{2}, 1000, 0)}, tensorOf(nil, 1000000000), true},
		{"a,a,a>:2", []impl.Tensor{tensorOf([]int{2}, 1000, 1), tensorOf([]int{2}, 1000, 1), tensorOf([]int{2}, 1000, 1)}, impl.Tensor{}, false},
		{"a,a,a>:2", []impl.Tensor{tensorOf([]int{2}, 1000, 1), tensorOf([]int{2}, 1000, 1), tensorOf([]int{2}, 1000, -1)}, tensorOf(nil, 999999999), true},
		{"a,a,a>:2", []impl.Tensor{tensorOf([]int{2}, -1000, 1), tensorOf([]int{2}, 1000, 1), tensorOf([]int{2}, 1000, -1)}, impl.Tensor{}, false},
		{"a,a,a>a:2", []impl.Tensor{tensorOf([]int{2}, 1000, 1), tensorOf([]int{2}, 1000, 1), tensorOf([]int{2}, 1000, 1)}, tensorOf([]int{2}, 1000000000, 1), true},
		// Two products far beyond the limit are 0 together, and each one alone is none.
		{"a,,,>:2", []impl.Tensor{tensorOf([]int{2}, 1000, -1000), most, most, most}, tensorOf(nil, 0), true},
		{"a,,,>:3", []impl.Tensor{tensorOf([]int{3}, 1000, -999, -1), most, most, one}, tensorOf(nil, 0), true},
		{"a,,,>a:2", []impl.Tensor{tensorOf([]int{2}, 1000, -1000), most, most, most}, impl.Tensor{}, false},
		{"a,,,>a:2", []impl.Tensor{tensorOf([]int{2}, 0, -1000), most, most, tensorOf(nil, 2)}, impl.Tensor{}, false},
	} {
		s := sumOfText(t, c.text)
		got, ok := impl.SumValue(s, c.tensors)
		if c.ok {
			checkTensor(t, fmt.Sprintf("SumValue(%q, %v)", c.text, c.tensors), got, ok, c.want)
		} else {
			checkNone(t, fmt.Sprintf("SumValue(%q, %v)", c.text, c.tensors), got, ok)
		}
		checkSumValue(t, s, c.tensors)
		checkFactorOrders(t, s, [][]impl.Tensor{c.tensors})
	}
	// The greatest sums that there are on the way.
	s := sumOfText(t, "abc,cde,abd,eab>:33333")
	checkNoSumValue(t, s, factorsFilled(s, 1000))
	checkNoSumValue(t, s, factorsFilled(s, -1000))
	checkSumValue(t, s, factorsFor(s)[5])
}

func TestSumCost(t *testing.T) {
	for many := range 6 {
		for _, sizes := range listsOf(many, 1, 3) {
			s := impl.IndexSum{Sizes: sizes, Factors: [][]int{{}, {}}}
			want := 1
			for letter, size := range sizes {
				s.Factors[letter/3] = append(s.Factors[letter/3], letter)
				want *= size
			}
			if got := impl.SumCost(s); got != want {
				t.Errorf("SumCost(%v) = %d, not %d", s, got, want)
			}
		}
	}
}

// All numbers, as many as there are factors, fewer or more, are an order just if each factor is told once.
func TestWithOrder(t *testing.T) {
	for _, text := range []string{">:", "ab,bc>ac:123", "ab,,ba>:22", "ab,c,a,bc>b:321", "a,a,a,a>a:3"} {
		s := sumOfText(t, text)
		many := len(s.Factors)
		for length := range 6 {
			for _, turn := range listsOf(length, -1, 4) {
				if !isFactorOrder(turn, many) {
					checkNoFactorOrder(t, s, turn)
					continue
				}
				want := copySum(s)
				for i, at := range turn {
					want.Factors[i] = s.Factors[at]
				}
				if got, ok := impl.WithOrder(s, turn); !ok || !sameSum(got, want) {
					t.Errorf("WithOrder(%q, %v) = %v, %v, not %v", text, turn, got, ok, want)
				}
			}
		}
		for _, num := range []int{farUp, farDown, 97} {
			for _, turn := range factorOrders(many) {
				checkNoFactorOrder(t, s, with(turn, many-1, num))
				checkNoFactorOrder(t, s, append(turn, num))
			}
		}
		checkNoFactorOrder(t, s, make([]int, 1000))
	}
	s := sumOfText(t, "ab,c,a,bc>b:321")
	if got, ok := impl.WithOrder(s, []int{3, 1, 0, 2}); !ok || impl.SumText(got) != "bc,c,ab,a>b:321" {
		t.Errorf("WithOrder = %v, %v", got, ok)
	}
}

// put returns letters with another one somewhere among them, or as they are if they are 3 or have it.
func (d *dice) put(letters []int, letter int) []int {
	if len(letters) == 3 || timesOf(letters, letter) > 0 {
		return letters
	}
	at := d.below(len(letters) + 1)
	return append(append(copyInts(letters[:at]), letter), letters[at:]...)
}

// sum returns an index sum of so many factors: each letter is dealt out to one that has room, and then to some more.
func (d *dice) sum(factors int) impl.IndexSum {
	s := impl.IndexSum{Factors: make([][]int, factors)}
	many := d.below(min(5, 3*factors) + 1)
	for letter := range many {
		s.Sizes = append(s.Sizes, 1+d.below(3))
		i := d.below(factors)
		for len(s.Factors[i]) == 3 {
			i = (i + 1) % factors
		}
		s.Factors[i] = d.put(s.Factors[i], letter)
	}
	for range d.below(2*many + 1) {
		i := d.below(factors)
		s.Factors[i] = d.put(s.Factors[i], d.below(many))
	}
	for range d.below(many + 1) {
		s.Out = d.put(s.Out, d.below(many))
	}
	return s
}

// Promise 4: sums do not change with the order of factors, nor does what they cost, and where one is no tensor, none is.
func TestSumsDoNotChangeWithTheOrderOfFactors(t *testing.T) {
	d := &dice{state: 6}
	valued, tooGreat, letterless, alone := 0, 0, 0, 0
	letters := make([]int, 6)
	for factors := 1; factors <= 4; factors++ {
		for range 200 {
			s := d.sum(factors)
			if !checkSum(t, s) {
				t.Fatalf("%v is no index sum", s)
			}
			letters[len(s.Sizes)]++
			var all []int
			for _, list := range s.Factors {
				all = append(all, list...)
				if len(list) == 0 {
					letterless++
				}
			}
			for letter := range s.Sizes {
				if timesOf(all, letter) == 1 && timesOf(s.Out, letter) == 0 {
					alone++
				}
			}
			sets := factorsFor(s)
			for _, tensors := range sets {
				if checkSumValue(t, s, tensors) {
					valued++
				} else {
					tooGreat++
				}
			}
			checkFactorOrders(t, s, sets)
		}
	}
	for many, times := range letters {
		if times < 30 {
			t.Errorf("only %d index sums of %d letters", times, many)
		}
	}
	if valued < 2000 || tooGreat < 200 || letterless < 100 || alone < 100 {
		t.Errorf("%d values, %d that grow too great, %d factors without letters, %d letters of one factor alone", valued, tooGreat, letterless, alone)
	}
}

// Whatever letters are told, good or bad, there is an answer, and it is that of the words of the document.
func TestAnySums(t *testing.T) {
	d := &dice{state: 7}
	odd := []int{-1, 0, 1, 2, 3, 4, 5, farUp, farDown}
	some := 0
	for range 5000 {
		s := d.sum(1 + d.below(4))
		for range 1 + d.below(2) {
			num := odd[d.below(len(odd))]
			list := &s.Factors[d.below(len(s.Factors))]
			switch d.below(4) {
			case 0:
				list = &s.Sizes
			case 1:
				list = &s.Out
			}
			switch d.below(4) {
			case 0:
				*list = append(*list, num)
			case 1:
				*list = (*list)[min(1, len(*list)):]
			case 2:
				s.Factors = append(s.Factors, []int{num})
			case 3:
				if len(*list) > 0 {
					*list = with(*list, d.below(len(*list)), num)
				}
			}
		}
		if checkSum(t, s) {
			some++
			checkSumValue(t, s, factorsFor(s)[1])
		}
	}
	if some < 500 || some > 4500 {
		t.Errorf("%d of 5000 are index sums", some)
	}
}

// checkSumText fails if a text is read as another index sum than the words of the document tell. It reports whether it is one of an index sum.
func checkSumText(t *testing.T, pattern *regexp.Regexp, text string) bool {
	t.Helper()
	want, ok := readByRule(pattern, text)
	if !ok {
		checkNoSumText(t, text)
		return false
	}
	if got, ok := impl.ReadSum(text); !ok || !sameSum(got, want) || impl.SumText(got) != text {
		t.Errorf("ReadSum(%q) = %v, %v, not %v", text, got, ok, want)
	}
	return true
}

func TestSumTextsThatAreNone(t *testing.T) {
	for _, text := range []string{
		"", " ", ">", ":", ":>", "a", "a:2", "a>2", "a>a2", "aa:2", "a>a", "a>:", "a>a:", ">a:", ">a:2", ">:2", "a,:2", "2:a>a", "a:2>a",
		// A sign, a letter or a figure too many.
		"a>>a:2", "a>a::2", "a>:a:2", "a>a:2:", "a>a:2,", "a>a:2>", ">a>a:2", ":a>a:2", "a>a>a:2", "a:>a:2", "a>a,:2", "a>,a:2", "a>a,a:2", "a>a:2,2",
		"a>a:22", "ab>ab:222", "ab,bc>ac:2222", "abc,de>a:222222", ">:1", ",>:1", "aa>a:2", "aba>a:22", "a>aa:2", "ab>aba:22", "ab>b:2", "a>ab:22", "a>b:2", "a>b:22",
		"abcd>a:2222", "abc,d>abcd:2222", "abc,def>a:222222", ",,,,>:", "a,a,a,a,a>a:2", "b>b:2", "b>b:22", "b>:22", "a,c>:222", "f>:2", "f>f:222222",
		// One in a wrong place, or that is none.
		"a>a:0", "a>a:4", "a>a:9", "a>a:-1", "a>a:+2", "a>a:02", "a>a:2.", "a>a:a", "a>2:a", "2>a:2", "a>a:2 ", " a>a:2", "a >a:2", "a> a:2", "a>a: 2", "a>a:2\n", "a>a:2\x00",
		"A>A:2", "A>a:2", "a>A:2", "`>:2", "a>`:2", "a;a>:2", "a.a>:2", "a?a:2", "a->a:2", "a=>a:2", "a>a;2", "a<a:2", "a>a:\u0662", "\u0430>:2", "a>a:\xb2", "\xe1>\xe1:2", "\xff", "a\x00>a:2",
	} {
		checkNoSumText(t, text)
		if checkSumText(t, sumPattern(), text) {
			t.Errorf("%q is a text by the rule", text)
		}
	}
}

// All texts of up to seven bytes of those that texts have.
func TestAllShortSumTexts(t *testing.T) {
	signs := "ab,>:12"
	pattern := sumPattern()
	some := 0
	texts := []string{""}
	for range 8 {
		var longer []string
		for _, text := range texts {
			if checkSumText(t, pattern, text) {
				some++
			}
			if len(text) < 7 {
				for i := range len(signs) {
					longer = append(longer, text+signs[i:i+1])
				}
			}
		}
		texts = longer
	}
	if some < 90 {
		t.Errorf("only %d texts are those of index sums", some)
	}
}

// Any byte in place of another one, put in, or left out, and any two of them swapped.
func TestSumTextsWithOneByteChanged(t *testing.T) {
	pattern := sumPattern()
	some := 0
	for _, text := range []string{">:", ",,,>:", "a>a:3", "ab,bc>ac:222", "ab,cd,e>ace:12321", "abc,bcd,cde,dea>bad:33333", "e,d,c,ba>:11111", "a,,b>ab:12"} {
		if !checkSumText(t, pattern, text) {
			t.Errorf("%q is no text by the rule", text)
		}
		for i := 0; i <= len(text); i++ {
			for b := range 256 {
				if checkSumText(t, pattern, text[:i]+string([]byte{byte(b)})+text[i:]) {
					some++
				}
				if i < len(text) && checkSumText(t, pattern, text[:i]+string([]byte{byte(b)})+text[i+1:]) {
					some++
				}
			}
			if i < len(text) && checkSumText(t, pattern, text[:i]+text[i+1:]) {
				some++
			}
			if i+1 < len(text) && checkSumText(t, pattern, text[:i]+text[i+1:i+2]+text[i:i+1]+text[i+2:]) {
				some++
			}
		}
		// Nothing may stand ahead of a text or behind it, nor is half of one a text.
		for _, other := range []string{text + text, text + " ", "\n" + text, text + ">:", text + ":", text[:len(text)/2]} {
			checkSumText(t, pattern, other)
		}
	}
	if some < 50 {
		t.Errorf("only %d changed texts are those of index sums", some)
	}
}

func TestLongSumTexts(t *testing.T) {
	for _, text := range []string{"a", ",", ">", ":", "2", "\x00", "\xff", "a>a:2", "ab,bc>ac:222\n"} {
		checkNoSumText(t, strings.Repeat(text, 1000000))
	}
	longest := "abc,bcd,cde,dea>bad:33333"
	s := sumOfText(t, longest)
	if len(longest) != 25 || impl.SumText(s) != longest {
		t.Errorf("SumText(%v) = %q", s, impl.SumText(s))
	}
	for _, more := range []string{"a", "3", ",", ">", ":", strings.Repeat("3", 1000)} {
		checkNoSumText(t, longest+more)
		checkNoSumText(t, more+longest)
	}
	checkNoSumText(t, strings.Repeat("a", 1000000)+">:2")
	checkNoSumText(t, "a>"+strings.Repeat("a", 1000000)+":2")
	checkNoSumText(t, "a>:"+strings.Repeat("2", 1000000))
	checkNoSumText(t, strings.Repeat(",", 1000000)+">:")
}

// guardedSum returns an index sum all of whose lists have unused capacity, filled with a mark.
func guardedSum(s impl.IndexSum) impl.IndexSum {
	g := impl.IndexSum{Sizes: guarded(s.Sizes), Out: guarded(s.Out)}
	for _, letters := range s.Factors {
		g.Factors = append(g.Factors, guarded(letters))
	}
	g.Factors = append(g.Factors, []int{spare}, []int{spare})[:len(s.Factors)]
	return g
}

func checkGuardedSum(t *testing.T, name string, s, was impl.IndexSum) {
	t.Helper()
	checkGuarded(t, name, s.Sizes, was.Sizes)
	checkGuarded(t, name, s.Out, was.Out)
	for i, letters := range s.Factors {
		checkGuarded(t, name, letters, was.Factors[i])
	}
	if !sameLists(s.Factors[len(s.Factors):len(s.Factors)+2], [][]int{{spare}, {spare}}) {
		t.Errorf("%s wrote behind the factors of an argument", name)
	}
}

// scribbleSum writes over all lists of a result, and fails if writing over one of them changes another one.
func scribbleSum(t *testing.T, name string, s impl.IndexSum) {
	t.Helper()
	scribbleLists(t, name, append([][]int{s.Sizes, s.Out}, s.Factors...))
	factors := s.Factors[:cap(s.Factors)]
	for i := range factors {
		factors[i] = []int{-spare}
	}
}

// Nothing that is returned is part of an argument, or of anything else that is returned, and nothing is kept.
func TestSumsShareNoMemory(t *testing.T) {
	d := &dice{state: 8}
	list := append(noSums(), sumOfText(t, ",,,>:"), sumOfText(t, "a,a,a,a>a:3"), sumOfText(t, "ab>ab:22"))
	for range 100 {
		list = append(list, d.sum(1+d.below(4)))
	}
	for _, was := range list {
		s := guardedSum(was)
		var wasTensors, tensors []impl.Tensor
		if sumOkByRule(was) {
			wasTensors = factorsFor(was)[1]
		}
		for _, x := range wasTensors {
			tensors = append(tensors, guardedTensor(x))
		}
		tensors = append(tensors, tensorOf(nil, spare), tensorOf(nil, spare))[:len(wasTensors)]
		var order []int
		for at := range was.Factors {
			order = append([]int{at}, order...)
		}
		turn := guarded(order)
		// Twice, as what is written over the first time might be kept for the second one.
		for range 2 {
			if checkSum(t, s) {
				checkSumValue(t, s, tensors)
				checkFactorOrders(t, was, [][]impl.Tensor{wasTensors})
			}
			for at := range s.Factors {
				shape, _ := impl.FactorShape(s, at)
				scribble(shape)
			}
			value, _ := impl.SumValue(s, tensors)
			scribbleTensor(t, "SumValue", value)
			turned, _ := impl.WithOrder(s, turn)
			scribbleSum(t, "WithOrder", turned)
			read, _ := impl.ReadSum(impl.SumText(s))
			scribbleSum(t, "ReadSum", read)
			checkGuardedSum(t, "a function of chapter 4", s, was)
			checkGuarded(t, "WithOrder", turn, order)
			for i, x := range tensors {
				checkGuardedTensor(t, "SumValue", x, wasTensors[i])
			}
			for _, x := range tensors[len(tensors) : len(tensors)+2] {
				checkTensor(t, "what stands behind the factors", x, true, tensorOf(nil, spare))
			}
		}
	}
}
