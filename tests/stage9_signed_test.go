package tests

import (
	"fmt"
	"slices"
	"strings"
	"testing"

	"loop.example/g01098/impl"
)

// sparseOf reads the sparse form off the binary digits of 3n and of n.
func sparseOf(n int) []int {
	if n < 0 {
		return negated(sparseOf(-n))
	}
	var digits []int
	for i := 1; 3*n>>i > 0; i++ {
		digits = append(digits, 3*n>>i&1-n>>i&1)
	}
	return digits
}

func negated(digits []int) []int {
	var list []int
	for _, d := range digits {
		list = append(list, -d)
	}
	return list
}

// stoodFor adds up digits, whatever they are, one by one.
func stoodFor(digits []int) int {
	total, power := 0, 1
	for _, d := range digits {
		total += d * power
		power *= 2
	}
	return total
}

func weightOf(digits []int) int {
	return len(slices.DeleteFunc(slices.Clone(digits), func(d int) bool { return d == 0 }))
}

// signedTextOf puts each letter before those of the digits before it.
func signedTextOf(digits []int) string {
	text := ""
	for _, d := range digits {
		text = map[int]string{-1: "-", 0: "0", 1: "+"}[d] + text
	}
	if text == "" {
		return "="
	}
	return text
}

// areSpaced looks at all pairs of digits other than 0, which must not be nearer than told.
func areSpaced(digits []int, least int) bool {
	for i := range digits {
		for j := range i {
			if digits[i] != 0 && digits[j] != 0 && i-j < least {
				return false
			}
		}
	}
	return len(digits) == 0 || endOf(digits) != 0
}

// areWindows reports whether digits are window digits.
func areWindows(digits []int, width int) bool {
	allowed := map[int][]int{2: {1}, 3: {1, 3}, 4: {1, 3, 5, 7}, 5: {1, 3, 5, 7, 9, 11, 13, 15}}
	allowed[6] = append(slices.Clone(allowed[5]), 17, 19, 21, 23, 25, 27, 29, 31)
	for _, d := range digits {
		if d != 0 && !slices.Contains(allowed[width], max(d, -d)) {
			return false
		}
	}
	return allowed[width] != nil && len(digits) <= 24 && areSpaced(digits, width)
}

// signedLists returns all lists of just so many digits, in lexicographic order.
func signedLists(length int) [][]int {
	var lists [][]int
	for _, list := range allLists(length, 3) {
		lists = append(lists, shiftedBy(list, -1))
	}
	return lists
}

// signedKey is a number and a length, of which something is known.
type signedKey struct{ n, length int }

// countFromTop counts lists of digits by their last ones.
func countFromTop(n int, length int, known map[signedKey]int) int {
	if max(n, -n) >= 1<<length {
		return 0
	}
	if length == 0 {
		return 1
	}
	key := signedKey{n, length}
	if count, found := known[key]; found {
		return count
	}
	for d := -1; d <= 1; d++ {
		known[key] += countFromTop(n-d<<(length-1), length-1, known)
	}
	return known[key]
}

// leastFromTop returns the least weight of lists of digits, by their last ones, or 100 where there are none.
func leastFromTop(n int, length int, known map[signedKey]int) int {
	if max(n, -n) >= 1<<length {
		return 100
	}
	if length == 0 {
		return 0
	}
	key := signedKey{n, length}
	if least, found := known[key]; found {
		return least
	}
	known[key] = 100
	for d := -1; d <= 1; d++ {
		known[key] = min(known[key], d*d+leastFromTop(n-d<<(length-1), length-1, known))
	}
	return known[key]
}

// listsFromTop returns all lists of digits by their last ones, not in order.
func listsFromTop(n int, length int) [][]int {
	if max(n, -n) >= 1<<length {
		return nil
	}
	if length == 0 {
		return [][]int{nil}
	}
	var lists [][]int
	for d := -1; d <= 1; d++ {
		for _, list := range listsFromTop(n-d<<(length-1), length-1) {
			lists = append(lists, append(list, d))
		}
	}
	return lists
}

// signedNumbers has many small numbers, all at the limits, and some in between.
func signedNumbers() []int {
	var numbers []int
	for n := -700; n <= 700; n++ {
		numbers = append(numbers, n)
	}
	for k := 1; k < 20; k++ {
		numbers = append(numbers, 1<<k-1, 1<<k, 1<<k+1, 1-1<<k, -1<<k, -1-1<<k, 1<<k/3, -(1 << k / 3))
	}
	for n := range 60 {
		numbers = append(numbers, impl.MaxExponent-n, n-impl.MaxExponent)
	}
	m := &mixer{11}
	for range 500 {
		numbers = append(numbers, m.below(2*impl.MaxExponent+1)-impl.MaxExponent)
	}
	return append(numbers, 699050, 699051, -699051, 349525, 1<<20/3, 983040, 524288)
}

func TestExampleOfChapter9(t *testing.T) {
	expect(t, "digits of 7", all(impl.SignedDigits(7)), []int{-1, 0, 0, 1}, true)
	expect(t, "text of 7", all(impl.SignedText([]int{-1, 0, 0, 1})), "+00-", true)
	expect(t, "lists for 7", all(impl.AllSigned(7, 4)), [][]int{{-1, 0, 0, 1}, {1, -1, 0, 1}, {1, 1, -1, 1}, {1, 1, 1, 0}}, true)
	expect(t, "count for 7", all(impl.CountSigned(7, 4)), 4, true)
	expect(t, "adder of 15", all(impl.OneAdder(15)), minus(0, 4, 0, 0), true)
}

func TestLimitsOfChapter9(t *testing.T) {
	expect(t, "limits", all(impl.MaxDigits, impl.MaxAdders, impl.MaxLists, impl.MaxMultiple), 24, 24, 300, 2097152)
}

func TestSignedDigits(t *testing.T) {
	for _, n := range signedNumbers() {
		want := sparseOf(n)
		expect(t, fmt.Sprint("digits of ", n), all(impl.SignedDigits(n)), want, true)
		expect(t, fmt.Sprint("number of ", want), all(impl.FromSigned(want)), n, true)
		expect(t, fmt.Sprint("sparse, ", want), all(impl.IsSparseForm(want)), true, true)
	}
	for n, want := range map[int][]int{
		0:                 nil,
		1:                 {1},
		-1:                {-1},
		2:                 {0, 1},
		-2:                {0, -1},
		3:                 {-1, 0, 1},
		-3:                {1, 0, -1},
		5:                 {1, 0, 1},
		-5:                {-1, 0, -1},
		6:                 {0, -1, 0, 1},
		11:                {-1, 0, -1, 0, 1},
		-11:               {1, 0, 1, 0, -1},
		impl.MaxExponent:  {0, 0, 0, 0, 0, 0, 1, 0, 0, 1, 0, 0, 0, 0, 1, 0, -1, 0, 0, 0, 1},
		-impl.MaxExponent: {0, 0, 0, 0, 0, 0, -1, 0, 0, -1, 0, 0, 0, 0, -1, 0, 1, 0, 0, 0, -1},
	} {
		expect(t, fmt.Sprint("digits of ", n), all(impl.SignedDigits(n)), want, true)
	}
}

// expectDigits checks all functions of digits that may stand for a number that is too great.
func expectDigits(t *testing.T, digits []int) {
	t.Helper()
	what := fmt.Sprint(digits)
	n, ok := stoodFor(digits), isNumber(stoodFor(digits))
	if !ok {
		n = 0
	}
	expect(t, "number of "+what, all(impl.FromSigned(digits)), n, ok)
	expect(t, "sparse, "+what, all(impl.IsSparseForm(digits)), areSpaced(digits, 2), true)
	expect(t, "weight of "+what, all(impl.WeightOf(digits)), weightOf(digits), true)
	text := signedTextOf(digits)
	expect(t, "text of "+what, all(impl.SignedText(digits)), text, true)
	expect(t, "digits of "+text, all(impl.ParseSigned(text)), digits, true)
}

func TestAllShortDigits(t *testing.T) {
	for length := range 8 {
		for _, digits := range signedLists(length) {
			expectDigits(t, digits)
		}
	}
}

func mixedDigits(m *mixer, length int) []int {
	var digits []int
	for range length {
		digits = append(digits, m.below(3)-1)
	}
	return digits
}

func TestMixedDigits(t *testing.T) {
	m := &mixer{3}
	for length := range impl.MaxDigits + 1 {
		for range 40 {
			expectDigits(t, mixedDigits(m, length))
		}
		expectDigits(t, make([]int, length))
		expectDigits(t, slices.Repeat([]int{1}, length))
		expectDigits(t, slices.Repeat([]int{-1}, length))
		expectDigits(t, slices.Repeat([]int{1, 0}, length/2))
		expectDigits(t, slices.Repeat([]int{0, -1}, length/2))
	}
}

// topDigits has given digits as the last ones of MaxDigits.
func topDigits(digits ...int) []int {
	return append(make([]int, impl.MaxDigits-len(digits)), digits...)
}

func TestNumbersOfDigitsAtTheLimit(t *testing.T) {
	for _, k := range []struct {
		digits []int
		n      int
		ok     bool
	}{
		{nil, 0, true},
		{make([]int, impl.MaxDigits), 0, true},
		{append(sparseOf(impl.MaxExponent), 0, 0, 0), impl.MaxExponent, true},
		{sparseOf(-impl.MaxExponent), -impl.MaxExponent, true},
		{sparseOf(impl.MaxExponent + 1), 0, false},
		{sparseOf(-impl.MaxExponent - 1), 0, false},
		{sparseOf(1 << 20), 0, false},
		{topDigits(1), 0, false},
		{topDigits(-1), 0, false},
		{topDigits(-1, 1), 0, false},
		// The sum is 2^19, though that of the last digit is 2^23 and that of all before it is less than -2^22.
		{topDigits(-1, -1, -1, -1, 1), 1 << 19, true},
		{topDigits(1, 1, 1, 1, -1), -1 << 19, true},
		{append([]int{1}, topDigits(-1, -1, -1, -1, 1)[1:]...), 1<<19 + 1, true},
		{append(slices.Repeat([]int{-1}, impl.MaxDigits-1), 1), 1, true},
		{append(slices.Repeat([]int{1}, impl.MaxDigits-1), -1), -1, true},
		{slices.Repeat([]int{1}, impl.MaxDigits), 0, false},
	} {
		expect(t, fmt.Sprint("number of ", k.digits), all(impl.FromSigned(k.digits)), k.n, k.ok)
		expectDigits(t, k.digits)
	}
}

func TestSparseFormsAtTheEdges(t *testing.T) {
	for _, k := range []struct {
		digits []int
		sparse bool
	}{
		{nil, true},
		{[]int{0}, false},
		{[]int{1}, true},
		{[]int{-1}, true},
		{[]int{1, 0}, false},
		{[]int{-1, 0, 0}, false},
		{[]int{1, 1}, false},
		{[]int{1, -1}, false},
		{[]int{-1, 1}, false},
		{[]int{0, 0, 0, 1, 1}, false},
		{[]int{1, 1, 0, 1}, false},
		{[]int{1, 0, 1}, true},
		{[]int{0, 1}, true},
		{topDigits(1), true},
		{topDigits(1, 0, -1), true},
		{topDigits(1, 1), false},
		{topDigits(), false},
		{topDigits(1, 0), false},
	} {
		expect(t, fmt.Sprint("sparse, ", k.digits), all(impl.IsSparseForm(k.digits)), k.sparse, true)
	}
}

// TestOneSparseForm finds for each number just one sparse form among all lists of digits.
func TestOneSparseForm(t *testing.T) {
	found := map[int]int{}
	for length := range 9 {
		for _, digits := range signedLists(length) {
			if sparse, ok := impl.IsSparseForm(digits); sparse && ok {
				found[stoodFor(digits)]++
			}
		}
	}
	for n := -128; n <= 128; n++ {
		expect(t, fmt.Sprint("sparse forms of ", n), all(found[n]), 1)
	}
}

// TestSparseFormsHaveTheLeastWeight says the first half of the promise itself.
func TestSparseFormsHaveTheLeastWeight(t *testing.T) {
	for _, n := range signedNumbers() {
		digits, ok := impl.SignedDigits(n)
		expect(t, fmt.Sprint("number of the digits of ", n), all(impl.FromSigned(digits)), n, ok)
		weight, ok := impl.WeightOf(digits)
		for length := len(digits); length <= impl.MaxDigits; length++ {
			expect(t, fmt.Sprint("least weight for ", n, " and ", length), all(impl.LeastWeight(n, length)), weight, ok)
		}
		known := map[signedKey]int{}
		for length := range len(digits) {
			least := leastFromTop(n, length, known)
			if least == 100 {
				expectZero(t, fmt.Sprint("least weight for ", n, " and ", length), all(impl.LeastWeight(n, length)))
				continue
			}
			expect(t, fmt.Sprint("least weight for ", n, " and ", length), all(impl.LeastWeight(n, length)), least, true)
			if least < weight {
				t.Errorf("the weight of %v is not the least", digits)
			}
		}
	}
}

// TestListsOfAllShortDigits compares with all lists that there are.
func TestListsOfAllShortDigits(t *testing.T) {
	for length := range 8 {
		lists := map[int][][]int{}
		for _, digits := range signedLists(length) {
			lists[stoodFor(digits)] = append(lists[stoodFor(digits)], digits)
		}
		for n := -140; n <= 140; n++ {
			what := fmt.Sprint("for ", n, " and ", length)
			least := 100
			for _, digits := range lists[n] {
				least = min(least, weightOf(digits))
			}
			expect(t, "count "+what, all(impl.CountSigned(n, length)), len(lists[n]), true)
			expect(t, "lists "+what, all(impl.AllSigned(n, length)), lists[n], true)
			if least == 100 {
				expectZero(t, "least weight "+what, all(impl.LeastWeight(n, length)))
			} else {
				expect(t, "least weight "+what, all(impl.LeastWeight(n, length)), least, true)
			}
		}
	}
}

func TestListsOfLongDigits(t *testing.T) {
	known, counts := map[signedKey]int{}, map[string]int{}
	for i, n := range signedNumbers() {
		for length := 8 + i%3; length <= impl.MaxDigits; length += 3 {
			what := fmt.Sprint("for ", n, " and ", length)
			count := countFromTop(n, length, known)
			expect(t, "count "+what, all(impl.CountSigned(n, length)), count, true)
			if count > 300 {
				expectZero(t, "lists "+what, all(impl.AllSigned(n, length)))
				counts["many"]++
				continue
			}
			lists := listsFromTop(n, length)
			slices.SortFunc(lists, slices.Compare[[]int])
			expect(t, "lists "+what, all(impl.AllSigned(n, length)), lists, true)
			counts[map[bool]string{true: "none", false: "few"}[count == 0]]++
		}
	}
	if counts["many"] < 1000 || counts["none"] < 100 || counts["few"] < 1000 {
		t.Error(counts)
	}
}

func TestListsOfDigitsAtTheEdges(t *testing.T) {
	expect(t, "0, 0", all(impl.CountSigned(0, 0)), 1, true)
	expect(t, "0, 0, lists", all(impl.AllSigned(0, 0)), [][]int{{}}, true)
	expect(t, "0, 0, weight", all(impl.LeastWeight(0, 0)), 0, true)
	expect(t, "0, 3", all(impl.AllSigned(0, 3)), [][]int{{0, 0, 0}}, true)
	expect(t, "0, MaxDigits", all(impl.AllSigned(0, impl.MaxDigits)), [][]int{make([]int, impl.MaxDigits)}, true)
	expect(t, "0, MaxDigits, weight", all(impl.LeastWeight(0, impl.MaxDigits)), 0, true)
	for _, k := range []signedKey{{1, 0}, {-1, 0}, {2, 1}, {4, 2}, {-4, 2}, {8, 3}, {impl.MaxExponent, 0}, {impl.MaxExponent, 19}, {-impl.MaxExponent, 19}, {1 << 19, 19}} {
		what := fmt.Sprint(k.n, ", ", k.length)
		expect(t, "count for "+what, all(impl.CountSigned(k.n, k.length)), 0, true)
		expect(t, "no lists for "+what, all(impl.AllSigned(k.n, k.length)), [][]int{}, true)
		expectZero(t, "no weight for "+what, all(impl.LeastWeight(k.n, k.length)))
	}
	expect(t, "the greatest for 3", all(impl.AllSigned(7, 3)), [][]int{{1, 1, 1}}, true)
	expect(t, "the least for 3", all(impl.AllSigned(-7, 3)), [][]int{{-1, -1, -1}}, true)
	expect(t, "7, 3, weight", all(impl.LeastWeight(7, 3)), 3, true)
	expect(t, "7, 4, weight", all(impl.LeastWeight(7, 4)), 2, true)
	expect(t, "2^19 - 1, 19, weight", all(impl.LeastWeight(1<<19-1, 19)), 19, true)
	expect(t, "2^19 - 1, 20, weight", all(impl.LeastWeight(1<<19-1, 20)), 2, true)
	expect(t, "MaxExponent, 20, weight", all(impl.LeastWeight(impl.MaxExponent, 20)), 7, true)
	expect(t, "-MaxExponent, 21, weight", all(impl.LeastWeight(-impl.MaxExponent, 21)), 5, true)
	expect(t, "very many lists", all(impl.CountSigned(699083, impl.MaxDigits)), 42001, true)
}

func TestMaxLists(t *testing.T) {
	for _, k := range []signedKey{{1735, 14}, {-425, 15}, {850, 16}, {1700, 17}, {-1795, 18}, {137, 23}, {274, 24}, {-274, 24}} {
		what := fmt.Sprint(k.n, ", ", k.length)
		expect(t, "count for "+what, all(impl.CountSigned(k.n, k.length)), impl.MaxLists, true)
		lists, ok := impl.AllSigned(k.n, k.length)
		expect(t, "lists for "+what, all(len(lists), ok), impl.MaxLists, true)
		expect(t, "sorted, "+what, all(slices.IsSortedFunc(lists, slices.Compare[[]int])), true)
		for i, digits := range lists {
			if len(digits) != k.length || stoodFor(digits) != k.n || i > 0 && slices.Equal(digits, lists[i-1]) {
				t.Fatalf("a list for %s: %v", what, digits)
			}
		}
	}
	for _, k := range []signedKey{{853, 13}, {-621, 14}, {75, 23}, {77, 24}, {-77, 24}} {
		what := fmt.Sprint(k.n, ", ", k.length)
		expect(t, "count for "+what, all(impl.CountSigned(k.n, k.length)), impl.MaxLists+1, true)
		expectZero(t, "lists for "+what, all(impl.AllSigned(k.n, k.length)))
		_, ok := impl.LeastWeight(k.n, k.length)
		expect(t, "weight for "+what, all(ok), true)
	}
}

// windowsFor tries all digits that may be next.
func windowsFor(n int, width int) []int {
	var digits []int
	for n != 0 {
		next := 0
		for d := 1 - 1<<(width-1); d < 1<<(width-1) && n%2 != 0; d += 2 {
			if (n-d)%(1<<width) == 0 {
				next = d
			}
		}
		digits = append(digits, next)
		n = (n - next) / 2
	}
	return digits
}

func TestWindowDigits(t *testing.T) {
	for _, n := range signedNumbers() {
		for width := 2; width <= 6; width++ {
			what := fmt.Sprint("for ", n, " and ", width)
			want := windowsFor(n, width)
			expect(t, "windows "+what, all(impl.WindowDigits(n, width)), want, true)
			expect(t, "number of windows "+what, all(impl.FromWindow(want, width)), n, true)
			expect(t, "spaced, "+what, all(areWindows(want, width), stoodFor(want)), true, n)
		}
		expect(t, fmt.Sprint("the narrowest windows for ", n), all(impl.WindowDigits(n, 2)), sparseOf(n), true)
	}
}

func TestWindowDigitsAtTheEdges(t *testing.T) {
	for _, k := range []struct {
		n, width int
		digits   []int
	}{
		{0, 2, nil},
		{0, 6, nil},
		{1, 6, []int{1}},
		{-1, 6, []int{-1}},
		{7, 3, []int{-1, 0, 0, 1}},
		{7, 4, []int{7}},
		{-7, 4, []int{-7}},
		{-7, 3, []int{1, 0, 0, -1}},
		{8, 4, []int{0, 0, 0, 1}},
		{9, 4, []int{-7, 0, 0, 0, 1}},
		{-9, 4, []int{7, 0, 0, 0, -1}},
		{3, 2, []int{-1, 0, 1}},
		{3, 3, []int{3}},
		{5, 3, []int{-3, 0, 0, 1}},
		{31, 6, []int{31}},
		{-31, 6, []int{-31}},
		{33, 6, []int{-31, 0, 0, 0, 0, 0, 1}},
		{62, 6, []int{0, 31}},
		{15, 5, []int{15}},
		{17, 5, []int{-15, 0, 0, 0, 0, 1}},
		{impl.MaxExponent, 6, []int{0, 0, 0, 0, 0, 0, 9, 0, 0, 0, 0, 0, 0, 0, -3, 0, 0, 0, 0, 0, 1}},
		{-impl.MaxExponent, 4, []int{0, 0, 0, 0, 0, 0, 7, 0, 0, 0, -1, 0, 0, 0, 3, 0, 0, 0, 0, 0, -1}},
	} {
		expect(t, fmt.Sprint("windows for ", k.n, " and ", k.width), all(impl.WindowDigits(k.n, k.width)), k.digits, true)
		expect(t, fmt.Sprint("number of ", k.digits), all(impl.FromWindow(k.digits, k.width)), k.n, true)
	}
}

// expectWindows checks digits that may be window digits for a width.
func expectWindows(t *testing.T, digits []int, width int) bool {
	t.Helper()
	n := 0
	ok := areWindows(digits, width) && isNumber(stoodFor(digits))
	if ok {
		n = stoodFor(digits)
	}
	expect(t, fmt.Sprint("number of windows ", digits, " for ", width), all(impl.FromWindow(digits, width)), n, ok)
	return ok
}

func TestFromWindowOfShortDigits(t *testing.T) {
	counts := map[bool]int{}
	for width := 1; width <= 7; width++ {
		for length := range 5 {
			for _, list := range allLists(length, 9) {
				counts[expectWindows(t, shiftedBy(list, -4), width)]++
			}
		}
		for length := range 9 {
			for _, digits := range signedLists(length) {
				counts[expectWindows(t, digits, width)]++
			}
		}
		for d := -40; d <= 40; d++ {
			for _, digits := range [][]int{{d}, {0, d}, {d, 0}, {d, 0, 0, 0, 0, 0, 1}, {1, 0, 0, 0, 0, 0, d}, topDigits(d)} {
				counts[expectWindows(t, digits, width)]++
			}
		}
	}
	if counts[true] < 500 || counts[false] < 10000 {
		t.Error(counts)
	}
}

func TestFromWindowAtTheEdges(t *testing.T) {
	for _, k := range []struct {
		digits []int
		width  int
		n      int
		ok     bool
	}{
		{nil, 2, 0, true},
		{nil, 6, 0, true},
		{nil, 1, 0, false},
		{nil, 7, 0, false},
		{[]int{0}, 3, 0, false},
		{[]int{1, 0}, 3, 0, false},
		{[]int{0, 0, 0, 3}, 3, 24, true},
		{[]int{2}, 6, 0, false},
		{[]int{-2}, 6, 0, false},
		{[]int{4}, 3, 0, false},
		{[]int{-4}, 3, 0, false},
		{[]int{0, 32}, 6, 0, false},
		{[]int{0, -32}, 6, 0, false},
		{[]int{5}, 3, 0, false},
		{[]int{-5}, 3, 0, false},
		{[]int{5}, 4, 5, true},
		{[]int{31}, 6, 31, true},
		{[]int{-31}, 6, -31, true},
		{[]int{33}, 6, 0, false},
		{[]int{-33}, 6, 0, false},
		{[]int{16}, 5, 0, false},
		{[]int{17}, 5, 0, false},
		{[]int{15}, 5, 15, true},
		{[]int{3}, 2, 0, false},
		{[]int{-3}, 2, 0, false},
		{[]int{1, 1}, 2, 0, false},
		{[]int{1, 0, 1}, 2, 5, true},
		{[]int{1, 0, 1}, 3, 0, false},
		{[]int{1, 0, 0, 1}, 3, 9, true},
		{[]int{1, 0, 0, 0, 0, 1}, 6, 0, false},
		{[]int{1, 0, 0, 0, 0, 0, 1}, 6, 65, true},
		{[]int{0, 3, 0, 0, -3, 0, 0, 0, 1}, 3, 214, true},
		{[]int{0, 3, 0, 0, -3, 0, 1}, 3, 0, false},
		// Fewer digits than the width, too near to one another all the same.
		{[]int{1, 1}, 6, 0, false},
		{[]int{1, 0, 3}, 4, 0, false},
		{topDigits(1, 0, 0, 0, 0, 0, 1), 6, 0, false},
		{append(make([]int, 17), 7), 4, 7 << 17, true},
		{append(make([]int, 15), 31), 6, 0, false},
		{append(make([]int, 15), -29), 6, -29 << 15, true},
		{append(make([]int, 17), -31, 0, 0, 0, 0, 0, 1), 6, 0, false},
		{append(make([]int, 16), -17, 0, 0, 0, 0, 0, 1), 6, 0, false},
		{append(make([]int, 15), -31, 0, 0, 0, 0, 0, 1), 6, 0, false},
		// The last digit alone is 2^20, which is too great.
		{append(make([]int, 14), -31, 0, 0, 0, 0, 0, 1), 6, 33 << 14, true},
		{append(make([]int, 14), 31, 0, 0, 0, 0, 0, -1), 6, -33 << 14, true},
		{append(make([]int, impl.MaxDigits), 1), 3, 0, false},
		{make([]int, impl.MaxDigits), 3, 0, false},
	} {
		expect(t, fmt.Sprint("number of windows ", k.digits, " for ", k.width), all(impl.FromWindow(k.digits, k.width)), k.n, k.ok)
		expectWindows(t, k.digits, k.width)
	}
	for width := 2; width <= 6; width++ {
		for _, n := range []int{impl.MaxExponent, -impl.MaxExponent} {
			expect(t, fmt.Sprint("MaxExponent, ", width), all(impl.FromWindow(windowsFor(n, width), width)), n, true)
		}
		for _, n := range []int{impl.MaxExponent + 1, -impl.MaxExponent - 1, 1 << 20, 1 << 22} {
			expectZero(t, fmt.Sprint("too great, ", n, width), all(impl.FromWindow(windowsFor(n, width), width)))
		}
	}
}

// TestOneListOfWindowDigits finds for each number at most one list of window digits.
func TestOneListOfWindowDigits(t *testing.T) {
	for width := 2; width <= 6; width++ {
		found := map[int][]int{}
		for length := range 5 {
			for _, list := range allLists(length, 9) {
				digits := shiftedBy(list, -4)
				n, ok := impl.FromWindow(digits, width)
				if !ok {
					continue
				}
				if before, twice := found[n]; twice {
					t.Fatalf("width %d: %v and %v", width, before, digits)
				}
				found[n] = digits
				expect(t, fmt.Sprint("windows for ", n, " and ", width), all(impl.WindowDigits(n, width)), digits, true)
			}
		}
		if len(found) < 5 {
			t.Error(width, found)
		}
	}
}

func TestTextsOfDigits(t *testing.T) {
	for text, digits := range map[string][]int{
		"=":                                 {},
		"0":                                 {0},
		"+":                                 {1},
		"-":                                 {-1},
		"+00-":                              {-1, 0, 0, 1},
		"-0+":                               {1, 0, -1},
		"00+":                               {1, 0, 0},
		"++--0":                             {0, -1, -1, 1, 1},
		strings.Repeat("+", impl.MaxDigits): slices.Repeat([]int{1}, impl.MaxDigits),
		strings.Repeat("0", impl.MaxDigits): make([]int, impl.MaxDigits),
	} {
		expect(t, "text "+text, all(impl.SignedText(digits)), text, true)
		expect(t, "digits of "+text, all(impl.ParseSigned(text)), digits, true)
	}
}

// TestTextsOfOtherLetters tries all letters, alone and beside digits; only three of them, and = alone, are texts.
func TestTextsOfOtherLetters(t *testing.T) {
	for b := range 256 {
		letter := string([]byte{byte(b)})
		isDigit := strings.Contains("+-0", letter)
		for _, text := range []string{letter, letter + "+", "+" + letter, "0" + letter + "-"} {
			_, ok := impl.ParseSigned(text)
			expect(t, fmt.Sprintf("digits of %q", text), all(ok), isDigit || text == "=")
		}
	}
}

func plus(a int, shiftA int, b int, shiftB int) impl.Adder {
	return impl.Adder{A: a, ShiftA: shiftA, B: b, ShiftB: shiftB}
}

func minus(a int, shiftA int, b int, shiftB int) impl.Adder {
	return impl.Adder{A: a, ShiftA: shiftA, B: b, ShiftB: shiftB, Minus: true}
}

func adders(list ...impl.Adder) []impl.Adder { return list }

func power(n int) int {
	product := 1
	for range n {
		product *= 2
	}
	return product
}

// addedBehind returns what an adder makes of values.
func addedBehind(values []int, a impl.Adder) int {
	second := values[a.B] * power(a.ShiftB)
	if a.Minus {
		second = -second
	}
	return values[a.A]*power(a.ShiftA) + second
}

// addedUp runs adders on x, adder by adder.
func addedUp(list []impl.Adder, x int) ([]int, bool) {
	values, multiples := []int{x}, []int{1}
	for i, a := range list {
		if min(a.A, a.B, a.ShiftA, a.ShiftB) < 0 || max(a.A, a.B) > i || max(a.ShiftA, a.ShiftB) > 20 {
			return nil, false
		}
		multiple := addedBehind(multiples, a)
		if max(multiple, -multiple) > 2097152 {
			return nil, false
		}
		values, multiples = append(values, addedBehind(values, a)), append(multiples, multiple)
	}
	if len(list) > 24 || max(x, -x) > 1000 {
		return nil, false
	}
	return values, true
}

// expectAdders checks a list that may be adders.
func expectAdders(t *testing.T, list []impl.Adder) bool {
	t.Helper()
	_, ok := addedUp(list, 1)
	expect(t, fmt.Sprint("adders ", list), all(impl.IsAdders(list)), ok)
	for _, x := range []int{1, 0, -1, 7, 1000, -1000, 1001, -1001} {
		values, fine := addedUp(list, x)
		expect(t, fmt.Sprint("run of ", list, " on ", x), all(impl.RunAdders(list, x)), values, fine)
	}
	return ok
}

// adderOf makes an adder of five small numbers.
func adderOf(numbers []int) impl.Adder {
	return impl.Adder{A: numbers[0], ShiftA: numbers[1], B: numbers[2], ShiftB: numbers[3], Minus: numbers[4] == 1}
}

func TestShortAdders(t *testing.T) {
	counts := map[bool]int{}
	counts[expectAdders(t, nil)]++
	shifts := []int{-1, 0, 1, 3, 19, 20, 21}
	for _, i := range allLists(4, len(shifts)) {
		a, b := i[0]%4-1, i[2]%4-1
		for _, first := range []impl.Adder{plus(a, shifts[i[1]], b, shifts[i[3]]), minus(a, shifts[i[1]], b, shifts[i[3]])} {
			counts[expectAdders(t, adders(first))]++
			counts[expectAdders(t, adders(plus(0, 1, 0, 0), first))]++
			counts[expectAdders(t, adders(minus(0, 0, 0, 3), first, plus(2, 0, 2, 1)))]++
		}
	}
	for _, i := range allLists(5, 2) {
		for _, j := range allLists(5, 3) {
			counts[expectAdders(t, adders(adderOf(i), adderOf(j)))]++
		}
	}
	if counts[true] < 500 || counts[false] < 5000 {
		t.Error(counts)
	}
}

// mixedAdders draws adders of which each one is tried until it is one.
func mixedAdders(m *mixer, count int) []impl.Adder {
	var list []impl.Adder
	for len(list) < count {
		longest := []int{2, 4, 21}[m.below(3)]
		a := impl.Adder{A: m.below(len(list) + 1), ShiftA: m.below(longest), B: m.below(len(list) + 1), ShiftB: m.below(longest), Minus: m.below(3) > 0}
		if _, ok := addedUp(append(slices.Clone(list), a), 1); ok {
			list = append(list, a)
		}
	}
	return list
}

func TestMixedAdders(t *testing.T) {
	m := &mixer{5}
	for count := range impl.MaxAdders + 1 {
		for range 10 {
			list := mixedAdders(m, count)
			expect(t, fmt.Sprint("adders ", list), all(expectAdders(t, list)), true)
			for i := range list {
				changed := slices.Clone(list)
				changed[i] = adderOf([]int{m.below(count+2) - 1, m.below(23) - 1, m.below(count+2) - 1, m.below(23) - 1, m.below(2)})
				expectAdders(t, changed)
			}
		}
	}
}

func TestAddersAtTheEdges(t *testing.T) {
	most, least := plus(0, 20, 0, 20), minus(1, 0, 1, 1)
	zero := minus(0, 0, 0, 0)
	for name, k := range map[string]struct {
		list []impl.Adder
		ok   bool
	}{
		"none":                           {nil, true},
		"a multiple of 0":                {adders(zero), true},
		"0 and more":                     {adders(zero, plus(1, 20, 1, 20), plus(0, 0, 2, 20)), true},
		"MaxMultiple":                    {adders(most), true},
		"-MaxMultiple":                   {adders(most, least), true},
		"MaxMultiple + 1":                {adders(most, plus(1, 0, 0, 0)), false},
		"-MaxMultiple - 1":               {adders(most, least, minus(2, 0, 0, 0)), false},
		"MaxMultiple - 1":                {adders(most, minus(1, 0, 0, 0)), true},
		"the greatest shifts of 1":       {adders(minus(0, 20, 0, 20)), true},
		"the greatest shifts of more":    {adders(most, minus(1, 20, 1, 20)), true},
		"too great, the next one is not": {adders(plus(0, 20, 0, 20), plus(1, 0, 0, 0), minus(2, 0, 0, 0)), false},
		"too great, taken away again":    {adders(most, plus(1, 0, 1, 0), minus(2, 0, 1, 0)), false},
		"too great, not needed":          {adders(most, plus(1, 1, 1, 0), plus(0, 0, 0, 0)), false},
		"its own value as A":             {adders(plus(1, 0, 0, 0)), false},
		"its own value as B":             {adders(plus(0, 0, 1, 0)), false},
		"a later value as A":             {adders(plus(2, 0, 0, 0), plus(0, 0, 0, 0)), false},
		"a later value as B":             {adders(plus(0, 0, 2, 0), plus(0, 0, 0, 0)), false},
		"value -1 as A":                  {adders(plus(-1, 0, 0, 0)), false},
		"value -1 as B":                  {adders(plus(0, 0, -1, 0)), false},
		"shift -1 of A":                  {adders(plus(0, -1, 0, 0)), false},
		"shift -1 of B":                  {adders(plus(0, 0, 0, -1)), false},
		"shift 21 of A":                  {adders(minus(0, 21, 0, 20)), false},
		"shift 21 of B":                  {adders(minus(0, 20, 0, 21)), false},
		"shift 21 of 0":                  {adders(zero, plus(1, 21, 0, 0)), false},
		"shift 20 of 0":                  {adders(zero, plus(1, 20, 0, 0)), true},
		"MaxAdders":                      {slices.Repeat(adders(plus(0, 0, 0, 0)), impl.MaxAdders), true},
		"MaxAdders + 1":                  {slices.Repeat(adders(plus(0, 0, 0, 0)), impl.MaxAdders+1), false},
	} {
		expect(t, name, all(expectAdders(t, k.list)), k.ok)
	}
	expect(t, "no adders", all(impl.RunAdders(nil, 5)), []int{5}, true)
	expect(t, "the greatest value", all(impl.RunAdders(adders(most, least), 1000)), []int{1000, 2097152000, -2097152000}, true)
	expect(t, "the least x", all(impl.RunAdders(adders(most), -1000)), []int{-1000, -2097152000}, true)
	expectZero(t, "x too great", all(impl.RunAdders(nil, 1001)))
	expectZero(t, "x too small", all(impl.RunAdders(nil, -1001)))
	doubled := slices.Repeat(adders(plus(0, 0, 0, 0)), 21)
	for i := range doubled {
		doubled[i] = plus(i, 0, i, 0)
	}
	expect(t, "doubled", all(expectAdders(t, doubled)), true)
	expect(t, "doubled once more", all(expectAdders(t, append(doubled, plus(21, 0, 21, 0)))), false)
}

// addersOf takes the indices of the sparse form.
func addersOf(n int) []impl.Adder {
	if n < 0 {
		list := addersOf(-n)
		return append(list, minus(len(list), 0, len(list), 1))
	}
	digits := sparseOf(n)
	var places []int
	for i := len(digits) - 1; i >= 0; i-- {
		if digits[i] != 0 {
			places = append(places, i)
		}
	}
	switch {
	case n == 0:
		return adders(minus(0, 0, 0, 0))
	case len(places) == 1 && n > 1:
		return adders(plus(0, places[0]-1, 0, places[0]-1))
	}
	var list []impl.Adder
	for i := 1; i < len(places); i++ {
		a := impl.Adder{A: i - 1, ShiftB: places[i], Minus: digits[places[i]] < 0}
		if i == 1 {
			a.ShiftA = places[0]
		}
		list = append(list, a)
	}
	return list
}

// TestAddersMakeTheNumbers says the second half of the promise itself.
func TestAddersMakeTheNumbers(t *testing.T) {
	for _, n := range signedNumbers() {
		list, ok := impl.AddersOf(n)
		expect(t, fmt.Sprint("adders of ", n), all(list, ok), addersOf(n), true)
		expect(t, fmt.Sprint("adders of ", n), all(impl.IsAdders(list)), true)
		for _, x := range []int{1, -3, 1000, -1000} {
			values, ok := impl.RunAdders(list, x)
			expect(t, fmt.Sprint("run of the adders of ", n, " on ", x), all(len(values), values[len(values)-1], ok), len(list)+1, n*x, true)
		}
	}
}

func TestAddersOfAtTheEdges(t *testing.T) {
	for n, want := range map[int][]impl.Adder{
		0:                adders(minus(0, 0, 0, 0)),
		1:                nil,
		-1:               adders(minus(0, 0, 0, 1)),
		2:                adders(plus(0, 0, 0, 0)),
		-2:               adders(plus(0, 0, 0, 0), minus(1, 0, 1, 1)),
		4:                adders(plus(0, 1, 0, 1)),
		-4:               adders(plus(0, 1, 0, 1), minus(1, 0, 1, 1)),
		1 << 19:          adders(plus(0, 18, 0, 18)),
		3:                adders(minus(0, 2, 0, 0)),
		-3:               adders(minus(0, 2, 0, 0), minus(1, 0, 1, 1)),
		5:                adders(plus(0, 2, 0, 0)),
		7:                adders(minus(0, 3, 0, 0)),
		12:               adders(minus(0, 4, 0, 2)),
		11:               adders(minus(0, 4, 0, 2), minus(1, 0, 0, 0)),
		-21:              adders(plus(0, 4, 0, 2), plus(1, 0, 0, 0), minus(2, 0, 2, 1)),
		983040:           adders(minus(0, 20, 0, 16)),
		impl.MaxExponent: adders(minus(0, 20, 0, 16), plus(1, 0, 0, 14), plus(2, 0, 0, 9), plus(3, 0, 0, 6)),
	} {
		expect(t, fmt.Sprint("adders of ", n), all(impl.AddersOf(n)), want, true)
	}
	list, ok := impl.AddersOf(-349525)
	expect(t, "the longest", all(len(list), ok), 10, true)
}

// firstAdders has for each multiple of one adder the first one that has it.
func firstAdders() map[int]impl.Adder {
	first := map[int]impl.Adder{}
	for a := range 21 {
		for b := range 21 {
			for _, adder := range adders(plus(0, a, 0, b), minus(0, a, 0, b)) {
				n := addedBehind([]int{1}, adder)
				if _, there := first[n]; !there {
					first[n] = adder
				}
			}
		}
	}
	return first
}

func TestOneAdder(t *testing.T) {
	first := firstAdders()
	for n, want := range first {
		if !isNumber(n) {
			want = impl.Adder{}
		}
		expect(t, fmt.Sprint("adder of ", n), all(impl.OneAdder(n)), want, isNumber(n))
	}
	for _, n := range signedNumbers() {
		want, found := first[n]
		expect(t, fmt.Sprint("adder of ", n), all(impl.OneAdder(n)), want, found)
	}
	for n, want := range map[int]impl.Adder{
		0: minus(0, 0, 0, 0),
		// Twice 1 less 1, as no sum of two shifted values is 1.
		1:  minus(0, 1, 0, 0),
		-1: minus(0, 0, 0, 1),
		2:  plus(0, 0, 0, 0),
		// 1 and 2, not 2 and 1, and not 4 less 1.
		3:  plus(0, 0, 0, 1),
		-3: minus(0, 0, 0, 2),
		// Not 8 less 4.
		4:       plus(0, 1, 0, 1),
		-4:      minus(0, 2, 0, 3),
		6:       plus(0, 1, 0, 2),
		7:       minus(0, 3, 0, 0),
		-7:      minus(0, 0, 0, 3),
		15:      minus(0, 4, 0, 0),
		1 << 19: plus(0, 18, 0, 18),
		// The greatest and the least number that one adder has.
		983040:  minus(0, 20, 0, 16),
		-983040: minus(0, 16, 0, 20),
	} {
		expect(t, fmt.Sprint("adder of ", n), all(impl.OneAdder(n)), want, true)
	}
	for _, n := range []int{11, 13, -11, -5, -9, -10, 21, 999999, impl.MaxExponent, -impl.MaxExponent, 983041, impl.MaxExponent + 1, 1 << 20, -1 << 20, 1<<21 - 1, 1 << 21} {
		expectZero(t, fmt.Sprint("no adder of ", n), all(impl.OneAdder(n)))
	}
}

// isSubtraction looks at all pairs of numbers, both ways round.
func isSubtraction(list []int) bool {
	if len(list) == 0 || len(list) > 41 || list[0] != 1 {
		return false
	}
	for i, n := range list {
		made := i == 0
		for _, a := range list[:i] {
			for _, b := range list[:i] {
				made = made || a+b == n || a-b == n
			}
		}
		if !made || n < 1 || n > 1000000 || slices.Contains(list[:i], n) {
			return false
		}
	}
	return true
}

func TestShortSubtractionChains(t *testing.T) {
	counts := map[bool]int{}
	for length := range 6 {
		for _, list := range allLists(length, 10) {
			is := isSubtraction(list)
			counts[is]++
			if impl.IsSubtractionChain(list) != is {
				t.Fatalf("IsSubtractionChain(%v) is not %v", list, is)
			}
		}
	}
	for _, list := range subtractionLists() {
		if !impl.IsSubtractionChain(list) {
			t.Fatalf("no subtraction chain: %v", list)
		}
		for i := range list {
			for _, by := range []int{-3, -1, 1, 2, 11} {
				changed := slices.Clone(list)
				changed[i] += by
				is := isSubtraction(changed)
				counts[is]++
				if impl.IsSubtractionChain(changed) != is {
					t.Fatalf("IsSubtractionChain(%v) is not %v", changed, is)
				}
			}
		}
	}
	if counts[true] < 1000 || counts[false] < 1000 {
		t.Error(counts)
	}
}

func TestSubtractionChainsAtTheEdges(t *testing.T) {
	longest := countTo(impl.MaxSteps + 1)
	great := chainTo(impl.MaxExponent)
	for name, k := range map[string]struct {
		list []int
		is   bool
	}{
		"1 alone":                          {[]int{1}, true},
		"a double":                         {[]int{1, 2}, true},
		"doubles":                          {[]int{1, 2, 4, 8, 16}, true},
		"a difference":                     {[]int{1, 2, 4, 8, 7}, true},
		"a difference, the other way":      {[]int{1, 2, 4, 8, 16, 32, 3, 29}, true},
		"a difference of the first ones":   {[]int{1, 2, 4, 8, 16, 3, 13}, true},
		"not from the last one":            {[]int{1, 2, 4, 8, 16, 6}, true},
		"decreasing":                       {[]int{1, 2, 4, 8, 16, 15, 14, 13, 12}, true},
		"the same one twice, not last":     {[]int{1, 2, 3, 5, 8, 6}, true},
		"MaxSteps + 1":                     {longest, true},
		"MaxSteps + 2":                     {append(slices.Clone(longest), impl.MaxSteps+2), false},
		"MaxExponent":                      {great, true},
		"MaxExponent and less":             {append(slices.Clone(great), impl.MaxExponent-1), true},
		"MaxExponent + 1":                  {append(slices.Clone(great), impl.MaxExponent+1), false},
		"2 * MaxExponent":                  {append(slices.Clone(great), 2*impl.MaxExponent), false},
		"too great in between":             {append(chainTo(1<<19), 1<<20, 1<<20-1, 1<<19-1), false},
		"none":                             {nil, false},
		"2 first":                          {[]int{2, 4}, false},
		"0 first":                          {[]int{0, 1}, false},
		"-1 first":                         {[]int{-1}, false},
		"1 twice":                          {[]int{1, 1}, false},
		"1 once more":                      {[]int{1, 2, 1}, false},
		"2 twice":                          {[]int{1, 2, 2}, false},
		"4 twice, not one after the other": {[]int{1, 2, 4, 8, 4}, false},
		"the end twice":                    {[]int{1, 2, 3, 6, 12, 6}, false},
		"0 as a difference":                {[]int{1, 2, 0}, false},
		"0 and more":                       {[]int{1, 0, 2}, false},
		"less than 0":                      {[]int{1, 2, -1}, false},
		"less than 0, and more":            {[]int{1, 2, 3, -2, 4}, false},
		"of a later one":                   {[]int{1, 3, 2}, false},
		"of a later difference":            {[]int{1, 2, 7, 8, 4}, false},
		"of itself":                        {[]int{1, 2, 6, 12}, false},
		"a sum of three":                   {[]int{1, 2, 4, 7}, false},
		"none of its neighbours":           {[]int{1, 2, 4, 8, 11}, false},
		"three times a number":             {[]int{1, 3}, false},
	} {
		expect(t, name, all(impl.IsSubtractionChain(k.list)), k.is)
		expect(t, name+", by pairs", all(isSubtraction(k.list)), k.is)
	}
}

// subtractionOf takes numbers that the last ones of the digits stand for.
func subtractionOf(n int) []int {
	digits, chain := sparseOf(n), []int{1}
	for i := len(digits) - 2; i >= 0; i-- {
		chain = append(chain, 2*stoodFor(digits[i+1:]))
		if digits[i] != 0 {
			chain = append(chain, stoodFor(digits[i:]))
		}
	}
	return chain
}

// TestChainsMakeTheNumbers says the last part of the promise itself.
func TestChainsMakeTheNumbers(t *testing.T) {
	for _, n := range signedNumbers() {
		chain, ok := impl.SubtractionChain(n)
		if n < 1 {
			expectZero(t, fmt.Sprint("chain to ", n), all(chain, ok))
			continue
		}
		expect(t, fmt.Sprint("chain to ", n), all(chain, ok), subtractionOf(n), true)
		if !impl.IsSubtractionChain(chain) || endOf(chain) != n {
			t.Errorf("no chain to %d: %v", n, chain)
		}
	}
	for n, want := range map[int][]int{
		1:  {1},
		2:  {1, 2},
		3:  {1, 2, 4, 3},
		4:  {1, 2, 4},
		5:  {1, 2, 4, 5},
		6:  {1, 2, 4, 3, 6},
		7:  {1, 2, 4, 8, 7},
		11: {1, 2, 4, 3, 6, 12, 11},
		31: {1, 2, 4, 8, 16, 32, 31},
	} {
		expect(t, fmt.Sprint("chain to ", n), all(impl.SubtractionChain(n)), want, true)
	}
}

// TestSubtractionChainsAtTheLimit goes through all numbers in whose chains one may be too great: the last double is at most n + 1, and so at most MaxExponent.
func TestSubtractionChainsAtTheLimit(t *testing.T) {
	for n := impl.MaxExponent - 5000; n <= impl.MaxExponent; n++ {
		chain, ok := impl.SubtractionChain(n)
		if !ok || endOf(chain) != n || slices.Max(chain) > n+1 || !impl.IsSubtractionChain(chain) {
			t.Fatalf("chain to %d: %v, %v", n, chain, ok)
		}
	}
	chain, ok := impl.SubtractionChain(impl.MaxExponent - 1)
	expect(t, "MaxExponent in between", all(chain[len(chain)-2:], ok), []int{impl.MaxExponent, impl.MaxExponent - 1}, true)
	for n := impl.MaxExponent + 1; n <= impl.MaxExponent+100; n++ {
		expectZero(t, fmt.Sprint("chain to ", n), all(impl.SubtractionChain(n)))
	}
	expectZero(t, "2^20 - 1", all(impl.SubtractionChain(1<<20-1)))
	expectZero(t, "2^20", all(impl.SubtractionChain(1<<20)))
}

// subtractionLists returns all lists of at most 7 numbers, none greater than 64, that ShortestSubtraction may choose for some numbers.
func subtractionLists() [][]int {
	lists := [][]int{{1}}
	for i := 0; i < len(lists); i++ {
		last, made := endOf(lists[i]), map[int]bool{}
		for _, a := range lists[i] {
			made[last+a], made[last-a], made[a-last] = true, true, true
		}
		for n := 64; n >= 1 && len(lists[i]) < 7; n-- {
			if made[n] && !slices.Contains(lists[i], n) {
				lists = append(lists, append(slices.Clone(lists[i]), n))
			}
		}
	}
	return lists
}

func TestShortestSubtraction(t *testing.T) {
	byEnd := map[int][][]int{}
	for _, list := range subtractionLists() {
		byEnd[endOf(list)] = append(byEnd[endOf(list)], list)
	}
	counts := map[bool]int{}
	for n := 1; n <= 40; n++ {
		slices.SortFunc(byEnd[n], func(a []int, b []int) int {
			if len(a) != len(b) {
				return len(a) - len(b)
			}
			return slices.Compare(a, b)
		})
		for most := n; most <= 64; most++ {
			best := slices.IndexFunc(byEnd[n], func(list []int) bool { return slices.Max(list) <= most })
			counts[best >= 0]++
			what := fmt.Sprint("shortest for ", n, " and ", most)
			if best < 0 {
				expectZero(t, what, all(impl.ShortestSubtraction(n, most)))
				continue
			}
			expect(t, what, all(impl.ShortestSubtraction(n, most)), byEnd[n][best], true)
		}
	}
	if counts[true] < 1000 || counts[false] < 100 {
		t.Error(counts)
	}
}

func TestShortestSubtractionAtTheEdges(t *testing.T) {
	for _, k := range []struct {
		n, most int
		list    []int
	}{
		{1, 1, []int{1}},
		{1, 64, []int{1}},
		{2, 2, []int{1, 2}},
		{3, 3, []int{1, 2, 3}},
		{7, 7, []int{1, 2, 3, 4, 7}},
		{7, 64, []int{1, 2, 3, 4, 7}},
		{15, 15, []int{1, 2, 3, 5, 10, 15}},
		{16, 16, []int{1, 2, 4, 8, 16}},
		// No sums alone are as short.
		{31, 31, []int{1, 2, 4, 8, 16, 15, 31}},
		{31, 64, []int{1, 2, 4, 8, 16, 15, 31}},
		{23, 23, []int{1, 2, 3, 5, 10, 13, 23}},
		{40, 40, []int{1, 2, 3, 5, 10, 20, 40}},
		{40, 64, []int{1, 2, 3, 5, 10, 20, 40}},
	} {
		expect(t, fmt.Sprint("shortest for ", k.n, " and ", k.most), all(impl.ShortestSubtraction(k.n, k.most)), k.list, true)
	}
	for _, n := range []int{29, 35, 37, 38, 39} {
		expectZero(t, fmt.Sprint("more than 7 numbers for ", n), all(impl.ShortestSubtraction(n, n)))
		expectZero(t, fmt.Sprint("more than 7 numbers for ", n, " and 64"), all(impl.ShortestSubtraction(n, 64)))
	}
	for _, k := range [][2]int{{0, 0}, {0, 64}, {-1, 64}, {1, 0}, {1, 65}, {2, 1}, {40, 39}, {40, 65}, {41, 41}, {41, 64}, {64, 64}, {65, 65}, {7, 6}, {7, -7}} {
		expectZero(t, fmt.Sprint("shortest for ", k), all(impl.ShortestSubtraction(k[0], k[1])))
	}
}
