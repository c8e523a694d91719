package tests

import (
	"fmt"
	"math/big"
	"slices"
	"strconv"
	"strings"
	"testing"

	"loop.example/g01098/impl"
)

// drawing is a plan that is being written down, with steps as the document tells them.
type drawing struct {
	inputs int
	list   []impl.Step
}

func (d *drawing) times(a int, b int) int {
	if a > b {
		a, b = b, a
	}
	d.list = append(d.list, impl.Step{A: a, B: b})
	return d.inputs + len(d.list) - 1
}

// result returns what the call should return: nothing for a plan that is too long.
func (d *drawing) result(outputs ...int) []any {
	if len(d.list) > 40 {
		return all(impl.Plan{}, false)
	}
	return all(plan(d.inputs, d.list, outputs...), true)
}

// manyNumbers has all small numbers, and greater ones around powers of two, primes and their squares.
func manyNumbers() []int {
	list := countTo(1100)
	for power := 2048; power < impl.MaxExponent; power *= 2 {
		list = append(list, power-1, power, power+1, power+power/2, power+power/2-1)
	}
	for n := 1101; n < impl.MaxExponent; n += 7919 {
		list = append(list, n)
	}
	list = append(list, 997*997, 991*997, 983*983, 31*31*31, 999983, 524287, 131071, 65537, 811879)
	list = append(list, 525375, 0xfff8, 0xe8f8f, 0xf0f0f, 0xc0003, 0xaaaaa, 0x55555, 0xd2d2d, 0xe4924)
	return append(list, 999998, 999999, impl.MaxExponent)
}

func binary(n int) string { return strconv.FormatInt(int64(n), 2) }

func TestExampleOfChapter3(t *testing.T) {
	p, ok := impl.BinaryPlan(15)
	expect(t, "binary", all(len(p.Steps), ok), 6, true)
	p, ok = impl.FactorPlan(15)
	expect(t, "factors", all(len(p.Steps), ok), 5, true)
	expect(t, "windows", all(impl.WindowsOf(23, 2)), []int{1, 3, 1}, true)
}

func TestLimitsOfMethods(t *testing.T) {
	if impl.MaxTree != 400 || impl.MaxWindow != 5 {
		t.Error(impl.MaxTree, impl.MaxWindow)
	}
}

// digitsOf begins with the greatest power of the base and goes down.
func digitsOf(n int, base int) []int {
	power := 1
	for power*base <= n {
		power *= base
	}
	var digits []int
	for ; power > 0; power /= base {
		digits = append(digits, n/power)
		n %= power
	}
	slices.Reverse(digits)
	return digits
}

func TestDigits(t *testing.T) {
	for base := 2; base <= 64; base++ {
		for _, n := range append(manyNumbers(), base*base-1, base*base, base*base+1, base*base*base) {
			what := fmt.Sprint(n, " to the base ", base)
			expect(t, "digits of "+what, all(impl.DigitsOf(n, base)), digitsOf(n, base), true)
			expect(t, "from digits of "+what, all(impl.FromDigits(digitsOf(n, base), base)), n, true)
		}
	}
	expect(t, "1, 2", all(impl.DigitsOf(1, 2)), []int{1}, true)
	expect(t, "8, 2", all(impl.DigitsOf(8, 2)), []int{0, 0, 0, 1}, true)
	expect(t, "7, 2", all(impl.DigitsOf(7, 2)), []int{1, 1, 1}, true)
	expect(t, "1024, 10", all(impl.DigitsOf(1024, 10)), []int{4, 2, 0, 1}, true)
	expect(t, "1000000, 10", all(impl.DigitsOf(impl.MaxExponent, 10)), []int{0, 0, 0, 0, 0, 0, 1}, true)
	expect(t, "63, 64", all(impl.DigitsOf(63, 64)), []int{63}, true)
	expect(t, "64, 64", all(impl.DigitsOf(64, 64)), []int{0, 1}, true)
	expect(t, "4095, 64", all(impl.DigitsOf(4095, 64)), []int{63, 63}, true)
}

// fromDigits counts in numbers of any size.
func fromDigits(digits []int, base int) []any {
	n, power := big.NewInt(0), big.NewInt(1)
	for _, d := range digits {
		if d < 0 || d >= base {
			return all(0, false)
		}
		n.Add(n, new(big.Int).Mul(power, big.NewInt(int64(d))))
		power.Mul(power, big.NewInt(int64(base)))
	}
	if len(digits) == 0 || digits[len(digits)-1] == 0 || n.Cmp(big.NewInt(1000000)) > 0 {
		return all(0, false)
	}
	return all(int(n.Int64()), true)
}

func TestFromDigitsOfAllShortLists(t *testing.T) {
	for base := 2; base <= 5; base++ {
		for length := range 6 {
			for _, list := range allLists(length, base+2) {
				// One less, so that there are digits -1 and digits as great as the base.
				digits := shiftedBy(list, -1)
				expect(t, fmt.Sprint(digits, " to the base ", base), all(impl.FromDigits(digits, base)), fromDigits(digits, base)...)
			}
		}
	}
}

func shiftedBy(list []int, by int) []int {
	var moved []int
	for _, n := range list {
		moved = append(moved, n+by)
	}
	return moved
}

func TestFromDigitsAtTheLimit(t *testing.T) {
	for base := 2; base <= 64; base++ {
		for more := range 70 {
			digits := digitsOf(impl.MaxExponent-3+more, base)
			expect(t, fmt.Sprint(digits, " to the base ", base), all(impl.FromDigits(digits, base)), fromDigits(digits, base)...)
		}
		// So many digits that a sum of products in an int would be small again.
		for length := 1; length <= 200; length++ {
			digits := make([]int, length)
			digits[0], digits[length-1] = 1, base-1
			expect(t, fmt.Sprint(digits, " to the base ", base), all(impl.FromDigits(digits, base)), fromDigits(digits, base)...)
			digits[length-1] = 1
			expect(t, fmt.Sprint(digits, " to the base ", base), all(impl.FromDigits(digits, base)), fromDigits(digits, base)...)
		}
	}
}

func TestFromDigitsFails(t *testing.T) {
	for name, digits := range map[string][]int{
		"none":              nil,
		"empty":             {},
		"0":                 {0},
		"0 last":            {1, 0},
		"zeros":             {0, 0, 0},
		"-1":                {-1},
		"-1 first":          {-1, 1},
		"-1 last":           {1, -1},
		"base":              {10},
		"base first":        {10, 1},
		"base in between":   {1, 10, 1},
		"base last":         {1, 10},
		"negative in one":   {1, -9, 9},
		"too great by one":  {1, 0, 0, 0, 0, 0, 1},
		"too great":         {0, 0, 0, 0, 0, 0, 2},
		"one digit more":    {0, 0, 0, 0, 0, 0, 0, 1},
		"too many, invalid": {-1, 0, 0, 0, 0, 0, 0, 1},
	} {
		expectZero(t, name, all(impl.FromDigits(digits, 10)))
	}
	expect(t, "MaxExponent", all(impl.FromDigits([]int{0, 0, 0, 0, 0, 0, 1}, 10)), impl.MaxExponent, true)
	expect(t, "0 within", all(impl.FromDigits([]int{9, 0, 9}, 10)), 909, true)
}

// leastFactors strikes out multiples, and then has a factor for each number, itself for a prime one.
func leastFactors(below int) []int {
	factors := make([]int, below)
	for p := 2; p < below; p++ {
		for n := p; n < below && factors[p]%p == 0; n += p {
			if factors[n] == 0 {
				factors[n] = p
			}
		}
	}
	return factors
}

func TestLeastFactor(t *testing.T) {
	factors := leastFactors(impl.MaxExponent + 1)
	for n := 2; n <= impl.MaxExponent; n++ {
		if got, ok := impl.LeastFactor(n); got != factors[n] || !ok {
			t.Fatalf("LeastFactor(%d) is %d, %v, not %d", n, got, ok, factors[n])
		}
	}
	expectZero(t, "least factor of 1", all(impl.LeastFactor(1)))
	expect(t, "prime", all(impl.LeastFactor(999983)), 999983, true)
	expect(t, "square of a prime", all(impl.LeastFactor(997*997)), 997, true)
	expect(t, "greatest", all(impl.LeastFactor(impl.MaxExponent)), 2, true)
}

// rightOf writes down RightPlan: a square and perhaps a result for each digit.
func rightOf(n int) []any {
	d := drawing{inputs: 1}
	square, result, found := 0, 0, false
	digits := digitsOf(n, 2)
	for i, digit := range digits {
		switch {
		case digit == 1 && !found:
			result, found = square, true
		case digit == 1:
			result = d.times(result, square)
		}
		if i < len(digits)-1 {
			square = d.times(square, square)
		}
	}
	return d.result(result)
}

// windowOf writes down WindowPlan, by digits.
func windowOf(n int, k int) []any {
	d := drawing{inputs: 1}
	digits := digitsOf(n, 1<<k)
	powers := map[int]int{1: 0}
	for i := 2; i <= slices.Max(digits); i++ {
		powers[i] = d.times(powers[i-1], 0)
	}
	slices.Reverse(digits)
	value := powers[digits[0]]
	for _, digit := range digits[1:] {
		for range k {
			value = d.times(value, value)
		}
		if digit != 0 {
			value = d.times(value, powers[digit])
		}
	}
	return d.result(value)
}

// cutWindows cuts the binary digits into windows and single zeros, highest ones first.
func cutWindows(text string, k int) []string {
	var parts []string
	for text != "" {
		length := 1
		for i := range min(k, len(text)) {
			if text[0] == '1' && text[i] == '1' {
				length = i + 1
			}
		}
		parts = append(parts, text[:length])
		text = text[length:]
	}
	return parts
}

func numberOf(digits string) int {
	n, _ := strconv.ParseInt(digits, 2, 64)
	return int(n)
}

func windowsOf(n int, k int) []int {
	var windows []int
	for _, part := range cutWindows(binary(n), k) {
		if part != "0" {
			windows = append(windows, numberOf(part))
		}
	}
	return windows
}

// slidingOf writes down SlidingPlan.
func slidingOf(n int, k int) []any {
	d := drawing{inputs: 1}
	powers := map[int]int{1: 0}
	if greatest := slices.Max(windowsOf(n, k)); greatest >= 3 {
		square := d.times(0, 0)
		for i := 3; i <= greatest; i += 2 {
			powers[i] = d.times(powers[i-2], square)
		}
	}
	parts := cutWindows(binary(n), k)
	value := powers[numberOf(parts[0])]
	for _, part := range parts[1:] {
		for range part {
			value = d.times(value, value)
		}
		if part != "0" {
			value = d.times(value, powers[numberOf(part)])
		}
	}
	return d.result(value)
}

// addFactors adds the steps that raise a value to the power n as FactorPlan does, and returns the number of the result.
func (d *drawing) addFactors(n int, value int, factors []int) int {
	switch p := factors[n]; {
	case n == 1:
		return value
	case p == n:
		return d.times(d.addFactors(n-1, value, factors), value)
	default:
		return d.addFactors(n/p, d.addFactors(p, value, factors), factors)
	}
}

func factorOf(n int, factors []int) []any {
	d := drawing{inputs: 1}
	return d.result(d.addFactors(n, 0, factors))
}

// expectMethod compares a plan with the one that is written down, and looks whether it makes its number.
func expectMethod(t *testing.T, what string, n int, got []any, want []any) {
	t.Helper()
	expect(t, what, got, want...)
	if got[1] == true {
		p := got[0].(impl.Plan)
		rows, ok := impl.OutputExponents(p)
		expect(t, "power of "+what, all(rows, ok), [][]int{{n}}, true)
		trim, ok := impl.IsTrim(p)
		expect(t, "trim: "+what, all(trim, ok), true, true)
	}
}

func TestPlansByBinaryDigits(t *testing.T) {
	for _, n := range manyNumbers() {
		expectMethod(t, fmt.Sprint("binary ", n), n, all(impl.BinaryPlan(n)), all(powerPlan(n), true))
		expect(t, fmt.Sprint("cost of binary ", n), all(impl.BinaryCost(n)), len(powerPlan(n).Steps), true)
		expect(t, fmt.Sprint("digits 1 of ", n), all(impl.BinaryCost(n)), len(binary(n))-2+strings.Count(binary(n), "1"), true)
		expectMethod(t, fmt.Sprint("right ", n), n, all(impl.RightPlan(n)), rightOf(n))
	}
}

func TestPlansByBinaryDigitsAtTheEdges(t *testing.T) {
	expect(t, "binary 1", all(impl.BinaryPlan(1)), plan(1, nil, 0), true)
	expect(t, "cost of 1", all(impl.BinaryCost(1)), 0, true)
	expect(t, "right 1", all(impl.RightPlan(1)), plan(1, nil, 0), true)
	expect(t, "binary 8", all(impl.BinaryPlan(8)), plan(1, steps(0, 0, 1, 1, 2, 2), 3), true)
	expect(t, "binary 7", all(impl.BinaryPlan(7)), plan(1, steps(0, 0, 0, 1, 2, 2, 0, 3), 4), true)
	expect(t, "right 8", all(impl.RightPlan(8)), plan(1, steps(0, 0, 1, 1, 2, 2), 3), true)
	expect(t, "right 7", all(impl.RightPlan(7)), plan(1, steps(0, 0, 0, 1, 1, 1, 2, 3), 4), true)
	expect(t, "right 6", all(impl.RightPlan(6)), plan(1, steps(0, 0, 1, 1, 1, 2), 3), true)
	expect(t, "right 13", all(impl.RightPlan(13)), plan(1, steps(0, 0, 1, 1, 0, 2, 2, 2, 3, 4), 5), true)
	expect(t, "cost of the most digits 1", all(impl.BinaryCost(1<<19-1)), 36, true)
	expect(t, "cost of MaxExponent", all(impl.BinaryCost(impl.MaxExponent)), 25, true)
}

func TestPlansByWindows(t *testing.T) {
	for _, n := range manyNumbers() {
		for k := 1; k <= impl.MaxWindow; k++ {
			what := fmt.Sprint(n, " by ", k)
			expect(t, "windows of "+what, all(impl.WindowsOf(n, k)), windowsOf(n, k), true)
			expectMethod(t, "window "+what, n, all(impl.WindowPlan(n, k)), windowOf(n, k))
			expectMethod(t, "sliding "+what, n, all(impl.SlidingPlan(n, k)), slidingOf(n, k))
		}
	}
}

func TestWindowsAtTheEdges(t *testing.T) {
	for k := 1; k <= impl.MaxWindow; k++ {
		expect(t, fmt.Sprint("windows of 1 by ", k), all(impl.WindowsOf(1, k)), []int{1}, true)
		expect(t, fmt.Sprint("windows of 64 by ", k), all(impl.WindowsOf(64, k)), []int{1}, true)
		expect(t, fmt.Sprint("window 1 by ", k), all(impl.WindowPlan(1, k)), plan(1, nil, 0), true)
		expect(t, fmt.Sprint("sliding 1 by ", k), all(impl.SlidingPlan(1, k)), plan(1, nil, 0), true)
	}
	expect(t, "single digits", all(impl.WindowsOf(0b1011, 1)), []int{1, 1, 1}, true)
	expect(t, "five digits", all(impl.WindowsOf(31, 5)), []int{31}, true)
	expect(t, "six digits", all(impl.WindowsOf(63, 5)), []int{31, 1}, true)
	expect(t, "zeros between", all(impl.WindowsOf(0b1100011, 2)), []int{3, 3}, true)
	expect(t, "zeros within", all(impl.WindowsOf(0b1000110001, 5)), []int{17, 17}, true)
	expect(t, "cut short", all(impl.WindowsOf(0b100110, 3)), []int{1, 3}, true)
	expect(t, "cut short by two", all(impl.WindowsOf(0b110010110, 4)), []int{3, 11}, true)
	expect(t, "zeros at the end", all(impl.WindowsOf(0b101000, 3)), []int{5}, true)
	expect(t, "a last part that is shorter", all(impl.WindowsOf(0b111101, 4)), []int{15, 1}, true)
}

func TestPlansByWindowsAtTheEdges(t *testing.T) {
	expect(t, "window 15", all(impl.WindowPlan(15, 2)), plan(1, steps(0, 0, 0, 1, 2, 2, 3, 3, 2, 4), 5), true)
	expect(t, "window with a digit 0", all(impl.WindowPlan(0b100011, 2)), plan(1, steps(0, 0, 0, 1, 1, 1, 3, 3, 4, 4, 5, 5, 2, 6), 7), true)
	expect(t, "window of one digit", all(impl.WindowPlan(5, 3)), plan(1, steps(0, 0, 0, 1, 0, 2, 0, 3), 4), true)
	expect(t, "sliding 3", all(impl.SlidingPlan(3, 2)), plan(1, steps(0, 0, 0, 1), 2), true)
	expect(t, "sliding 2", all(impl.SlidingPlan(2, 2)), plan(1, steps(0, 0), 1), true)
	expect(t, "sliding 5", all(impl.SlidingPlan(5, 3)), plan(1, steps(0, 0, 0, 1, 1, 2), 3), true)
	expect(t, "sliding 23", all(impl.SlidingPlan(23, 2)), plan(1, steps(0, 0, 0, 1, 0, 0, 3, 3, 4, 4, 2, 5, 6, 6, 0, 7), 8), true)
	expect(t, "sliding, zeros at the end", all(impl.SlidingPlan(12, 5)), plan(1, steps(0, 0, 0, 1, 2, 2, 3, 3), 4), true)
}

// TestPlansByWindowsThatAreTooLong has the last digit 30 or 31, and so one step more or less.
func TestPlansByWindowsThatAreTooLong(t *testing.T) {
	p, ok := impl.WindowPlan(1054, 5)
	expect(t, "1, 0, 30", all(len(p.Steps), ok), 40, true)
	expectZero(t, "1, 0, 31", all(impl.WindowPlan(1055, 5)))
	p, ok = impl.WindowPlan(25<<15, 5)
	expect(t, "25, 0, 0, 0", all(len(p.Steps), ok), 39, true)
	p, ok = impl.WindowPlan(26<<15, 5)
	expect(t, "26, 0, 0, 0", all(len(p.Steps), ok), 40, true)
	expectZero(t, "27, 0, 0, 0", all(impl.WindowPlan(27<<15, 5)))
	expectZero(t, "26, 0, 0, 1", all(impl.WindowPlan(26<<15+1, 5)))
	expectZero(t, "MaxExponent", all(impl.WindowPlan(impl.MaxExponent, 5)))
	p, ok = impl.SlidingPlan(525375, 5)
	expect(t, "sliding windows make no plan that is too long", all(len(p.Steps), ok), 38, true)
}

func TestPlansByFactors(t *testing.T) {
	factors := leastFactors(impl.MaxExponent + 1)
	for _, n := range manyNumbers() {
		want := factorOf(n, factors)
		expectMethod(t, fmt.Sprint("factors of ", n), n, all(impl.FactorPlan(n)), want)
		expect(t, fmt.Sprint("cost of factors of ", n), all(impl.FactorCost(n)), len(want[0].(impl.Plan).Steps), true)
	}
}

func TestPlansByFactorsAtTheEdges(t *testing.T) {
	expect(t, "1", all(impl.FactorPlan(1)), plan(1, nil, 0), true)
	expect(t, "cost of 1", all(impl.FactorCost(1)), 0, true)
	expect(t, "2", all(impl.FactorPlan(2)), plan(1, steps(0, 0), 1), true)
	expect(t, "prime", all(impl.FactorPlan(7)), plan(1, steps(0, 0, 1, 1, 1, 2, 0, 3), 4), true)
	expect(t, "15", all(impl.FactorPlan(15)), plan(1, steps(0, 0, 0, 1, 2, 2, 3, 3, 2, 4), 5), true)
	expect(t, "square of a prime", all(impl.FactorPlan(9)), plan(1, steps(0, 0, 0, 1, 2, 2, 2, 3), 4), true)
	expect(t, "MaxExponent", all(impl.FactorCost(impl.MaxExponent)), 24, true)
	expect(t, "the longest one", all(impl.FactorCost(811879)), 32, true)
}

// treeWays grows the tree level by level and keeps only what each number stands below.
func treeWays(levels int) map[int][]int {
	above := map[int]int{1: 0}
	ways := map[int][]int{}
	level := []int{1}
	for range levels {
		var next []int
		for _, m := range level {
			var way []int
			for n := m; n > 0; n = above[n] {
				way = append([]int{n}, way...)
			}
			ways[m] = way
			for _, a := range way {
				if _, there := above[m+a]; !there {
					above[m+a] = m
					next = append(next, m+a)
				}
			}
		}
		level = next
	}
	return ways
}

func TestTree(t *testing.T) {
	// Deep enough for all numbers up to MaxTree.
	ways := treeWays(13)
	for n := 1; n <= impl.MaxTree; n++ {
		expect(t, fmt.Sprint("way to ", n), all(impl.TreeChain(n)), ways[n], true)
		list, _ := impl.TreeChain(n)
		if !impl.IsChain(list) || endOf(list) != n {
			t.Errorf("no chain to %d: %v", n, list)
		}
	}
}

func TestTreeAtTheEdges(t *testing.T) {
	expect(t, "1", all(impl.TreeChain(1)), []int{1}, true)
	expect(t, "2", all(impl.TreeChain(2)), []int{1, 2}, true)
	expect(t, "7", all(impl.TreeChain(7)), []int{1, 2, 3, 5, 7}, true)
	expect(t, "12", all(impl.TreeChain(12)), []int{1, 2, 3, 6, 12}, true)
	expect(t, "23", all(impl.TreeChain(23)), []int{1, 2, 3, 5, 10, 13, 23}, true)
	expect(t, "256", all(impl.TreeChain(256)), []int{1, 2, 4, 8, 16, 32, 64, 128, 256}, true)
}

// togetherOf writes down TogetherPlan, on columns of binary digits.
func togetherOf(powers []int) []any {
	if len(powers) < 1 || len(powers) > 6 || slices.Min(powers) < 0 || slices.Max(powers) > 1000000 || slices.Max(powers) == 0 {
		return all(impl.Plan{}, false)
	}
	d := drawing{inputs: len(powers)}
	value, found := 0, false
	for column := range len(binary(slices.Max(powers))) {
		if found {
			value = d.times(value, value)
		}
		for i, n := range powers {
			digits := fmt.Sprintf("%0*b", len(binary(slices.Max(powers))), n)
			switch {
			case digits[column] == '0':
			case found:
				value = d.times(value, i)
			default:
				value, found = i, true
			}
		}
	}
	return d.result(value)
}

func expectTogether(t *testing.T, powers ...int) {
	t.Helper()
	got := all(impl.TogetherPlan(powers))
	expect(t, fmt.Sprint("together ", powers), got, togetherOf(powers)...)
	if got[1] == true {
		rows, ok := impl.OutputExponents(got[0].(impl.Plan))
		expect(t, fmt.Sprint("powers of together ", powers), all(rows, ok), [][]int{powers}, true)
	}
}

func TestPlansForSeveralPowersTogether(t *testing.T) {
	for _, n := range manyNumbers() {
		expectTogether(t, n)
		expectTogether(t, 0, n)
		expectTogether(t, n, 0, 0)
		expectTogether(t, n, n)
		expectTogether(t, n, 1)
		expectTogether(t, 5, 0, n, 0, 6, 6)
	}
	for length, below := range map[int]int{1: 200, 2: 40, 3: 12, 4: 6, 5: 4, 6: 4} {
		for _, powers := range allLists(length, below) {
			expectTogether(t, powers...)
		}
	}
}

func TestPlansForSeveralPowersAtTheEdges(t *testing.T) {
	expect(t, "1", all(impl.TogetherPlan([]int{1})), plan(1, nil, 0), true)
	expect(t, "0 and 1", all(impl.TogetherPlan([]int{0, 1})), plan(2, nil, 1), true)
	expect(t, "1 and 1", all(impl.TogetherPlan([]int{1, 1})), plan(2, steps(0, 1), 2), true)
	expect(t, "3 and 2", all(impl.TogetherPlan([]int{3, 2})), plan(2, steps(0, 1, 2, 2, 0, 3), 4), true)
	expect(t, "2, 0 and 3", all(impl.TogetherPlan([]int{2, 0, 3})), plan(3, steps(0, 2, 3, 3, 2, 4), 5), true)
	expect(t, "six", all(impl.TogetherPlan([]int{1, 1, 1, 1, 1, 1})), plan(6, steps(0, 1, 2, 6, 3, 7, 4, 8, 5, 9), 10), true)
	ones := 1<<19 - 1
	// 18 squares, and as many products as there are digits 1 but the first one.
	p, ok := impl.TogetherPlan([]int{ones, 7, 1})
	expect(t, "MaxSteps", all(len(p.Steps), ok), 40, true)
	expectZero(t, "MaxSteps + 1", all(impl.TogetherPlan([]int{ones, 7, 3})))
	expectZero(t, "far too many", all(impl.TogetherPlan([]int{ones, ones, ones, ones, ones, ones})))
	p, ok = impl.TogetherPlan([]int{0, impl.MaxExponent, 0, 1, 0, 0})
	expect(t, "MaxExponent", all(len(p.Steps), ok), 26, true)
}

func TestPowersThatAreNone(t *testing.T) {
	for name, powers := range map[string][]int{
		"none":               nil,
		"empty":              {},
		"0":                  {0},
		"zeros":              {0, 0, 0},
		"six zeros":          {0, 0, 0, 0, 0, 0},
		"seven":              {1, 1, 1, 1, 1, 1, 1},
		"seven, some 0":      {1, 0, 0, 0, 0, 0, 0},
		"negative":           {-1},
		"negative and more":  {-1, 5},
		"negative last":      {5, -1},
		"too great":          {impl.MaxExponent + 1},
		"too great last":     {1, impl.MaxExponent + 1},
		"a power of two":     {1 << 20, 0},
		"all digits 1":       {-1, -1},
		"far too many zeros": make([]int, 1000),
	} {
		expectZero(t, name, all(impl.TogetherPlan(powers)))
	}
}

// squaresOf writes down SquaresPlan.
func squaresOf(targets []int) []any {
	if len(targets) < 1 || len(targets) > 6 || slices.Min(targets) < 1 || slices.Max(targets) > 1000000 {
		return all(impl.Plan{}, false)
	}
	d := drawing{inputs: 1}
	squares := []int{0}
	for range binary(slices.Max(targets))[1:] {
		last := endOf(append([]int{0}, squares...))
		squares = append(squares, d.times(last, last))
	}
	var outputs []int
	for _, n := range targets {
		var factors []int
		for place, digit := range digitsOf(n, 2) {
			if digit == 1 {
				factors = append(factors, squares[place])
			}
		}
		product := factors[0]
		for _, factor := range factors[1:] {
			product = d.times(product, factor)
		}
		outputs = append(outputs, product)
	}
	return d.result(outputs...)
}

func expectSquares(t *testing.T, targets ...int) {
	t.Helper()
	got := all(impl.SquaresPlan(targets))
	expect(t, fmt.Sprint("squares ", targets), got, squaresOf(targets)...)
	if got[1] == true {
		var want [][]int
		for _, n := range targets {
			want = append(want, []int{n})
		}
		rows, ok := impl.OutputExponents(got[0].(impl.Plan))
		expect(t, fmt.Sprint("powers of squares ", targets), all(rows, ok), want, true)
	}
}

// manyTargets has all short lists of small numbers, and all of manyNumbers alone and among others.
func manyTargets() [][]int {
	var lists [][]int
	for _, n := range manyNumbers() {
		lists = append(lists, []int{n}, []int{n, n}, []int{1, n}, []int{n, 7, 1}, []int{1, 2, 4, 3, n, 1})
	}
	for length, below := range map[int]int{1: 200, 2: 40, 3: 12, 4: 6, 5: 4, 6: 4} {
		for _, list := range allLists(length, below) {
			lists = append(lists, shiftedBy(list, 1))
		}
	}
	return lists
}

func TestPlansBySquares(t *testing.T) {
	for _, targets := range manyTargets() {
		expectSquares(t, targets...)
	}
}

func TestPlansBySquaresAtTheEdges(t *testing.T) {
	expect(t, "1", all(impl.SquaresPlan([]int{1})), plan(1, nil, 0), true)
	expect(t, "1 six times", all(impl.SquaresPlan([]int{1, 1, 1, 1, 1, 1})), plan(1, nil, 0, 0, 0, 0, 0, 0), true)
	expect(t, "8", all(impl.SquaresPlan([]int{8})), plan(1, steps(0, 0, 1, 1, 2, 2), 3), true)
	expect(t, "7", all(impl.SquaresPlan([]int{7})), plan(1, steps(0, 0, 1, 1, 0, 1, 2, 3), 4), true)
	expect(t, "6 twice", all(impl.SquaresPlan([]int{6, 6})), plan(1, steps(0, 0, 1, 1, 1, 2, 1, 2), 3, 4), true)
	expect(t, "5, 1, 3 and 4", all(impl.SquaresPlan([]int{5, 1, 3, 4})), plan(1, steps(0, 0, 1, 1, 0, 2, 0, 1), 3, 0, 4, 2), true)
	ones := 1<<19 - 1
	// 18 squares, 18 products, and for each other target as many products as digits 1 but the first one.
	p, ok := impl.SquaresPlan([]int{ones, 31})
	expect(t, "MaxSteps", all(len(p.Steps), ok), 40, true)
	expectZero(t, "MaxSteps + 1", all(impl.SquaresPlan([]int{ones, 63})))
	p, ok = impl.SquaresPlan([]int{3, ones, 3, 1, 7, 64})
	expect(t, "MaxSteps, six targets", all(len(p.Steps), ok), 40, true)
	expectZero(t, "MaxSteps + 1, six targets", all(impl.SquaresPlan([]int{3, ones, 3, 3, 7, 64})))
	expectZero(t, "far too many", all(impl.SquaresPlan([]int{ones, ones, ones, ones, ones, ones})))
	p, ok = impl.SquaresPlan([]int{impl.MaxExponent, 1})
	expect(t, "MaxExponent", all(len(p.Steps), ok), 25, true)
}

// invalidTargets returns for each rule of SquaresPlan some lists that break it.
func invalidTargets() map[string][]int {
	return map[string][]int{
		"none":            nil,
		"empty":           {},
		"0":               {0},
		"0 and 1":         {0, 1},
		"0 last":          {1, 0},
		"seven":           {1, 1, 1, 1, 1, 1, 1},
		"negative":        {-1},
		"negative last":   {3, -1},
		"too great":       {impl.MaxExponent + 1},
		"too great first": {impl.MaxExponent + 1, 1},
		"too great last":  {1, impl.MaxExponent + 1},
		"a power of two":  {1 << 20},
		"far too many":    countTo(1000),
	}
}

func TestTargetsThatAreNone(t *testing.T) {
	for name, targets := range invalidTargets() {
		expectZero(t, name, all(impl.SquaresPlan(targets)))
	}
}

// comparedPlans has the plans whose costs are told, in order.
func comparedPlans(n int, factors []int) []impl.Plan {
	var plans []impl.Plan
	for _, result := range [][]any{
		all(powerPlan(n), true), rightOf(n),
		windowOf(n, 2), windowOf(n, 3),
		slidingOf(n, 2), slidingOf(n, 3),
		factorOf(n, factors),
	} {
		plans = append(plans, result[0].(impl.Plan))
	}
	return plans
}

func TestCostsOfMethods(t *testing.T) {
	factors := leastFactors(impl.MaxExponent + 1)
	for _, n := range manyNumbers() {
		plans := comparedPlans(n, factors)
		best := plans[0]
		var costs []int
		for _, p := range plans {
			costs = append(costs, len(p.Steps))
			if len(p.Steps) < len(best.Steps) {
				best = p
			}
		}
		expect(t, fmt.Sprint("costs for ", n), all(impl.MethodCosts(n)), costs, true)
		expectMethod(t, fmt.Sprint("best for ", n), n, all(impl.BestPlan(n)), all(best, true))
	}
}

func TestCostsAtTheEdges(t *testing.T) {
	expect(t, "1", all(impl.MethodCosts(1)), []int{0, 0, 0, 0, 0, 0, 0}, true)
	expect(t, "best for 1", all(impl.BestPlan(1)), plan(1, nil, 0), true)
	expect(t, "2", all(impl.MethodCosts(2)), []int{1, 1, 1, 1, 1, 1, 1}, true)
	expect(t, "7", all(impl.MethodCosts(7)), []int{4, 4, 5, 6, 4, 4, 4}, true)
	expect(t, "15", all(impl.MethodCosts(15)), []int{6, 6, 5, 10, 5, 6, 5}, true)
	expect(t, "23", all(impl.MethodCosts(23)), []int{7, 7, 8, 10, 8, 6, 7}, true)
}

// TestBestPlanTakesTheFirst has for each method that can be the best one a number for which it is, and some for which others are as good.
func TestBestPlanTakesTheFirst(t *testing.T) {
	best := func(n int) []any { return all(impl.BestPlan(n)) }
	expect(t, "binary before right", best(7), all(impl.BinaryPlan(7))...)
	expect(t, "binary before factors", best(9), all(impl.BinaryPlan(9))...)
	expect(t, "window 2 before sliding 2 and factors", best(15), all(impl.WindowPlan(15, 2))...)
	expect(t, "window 3 before sliding and factors", best(27), all(impl.WindowPlan(27, 3))...)
	expect(t, "sliding 2 before factors", best(30), all(impl.SlidingPlan(30, 2))...)
	expect(t, "sliding 2 before all behind it", best(31), all(impl.SlidingPlan(31, 2))...)
	expect(t, "sliding 3 alone", best(23), all(impl.SlidingPlan(23, 3))...)
	expect(t, "factors alone", best(39), all(impl.FactorPlan(39))...)
}
