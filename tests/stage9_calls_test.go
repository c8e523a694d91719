package tests

import (
	"fmt"
	"math"
	"slices"
	"strings"
	"testing"

	"loop.example/g01098/impl"
)

// digitsCalls has all functions of chapter 9 that are called with digits.
func digitsCalls() []call[[]int] {
	return []call[[]int]{
		{"FromSigned", func(list []int) []any { return all(impl.FromSigned(list)) }},
		{"IsSparseForm", func(list []int) []any { return all(impl.IsSparseForm(list)) }},
		{"WeightOf", func(list []int) []any { return all(impl.WeightOf(list)) }},
		{"SignedText", func(list []int) []any { return all(impl.SignedText(list)) }},
	}
}

func windowCalls() []call[[]int] {
	return []call[[]int]{
		{"FromWindow, 2", func(list []int) []any { return all(impl.FromWindow(list, 2)) }},
		{"FromWindow, 4", func(list []int) []any { return all(impl.FromWindow(list, 4)) }},
		{"FromWindow, 6", func(list []int) []any { return all(impl.FromWindow(list, 6)) }},
	}
}

// signedCalls has all functions of chapter 9 that are called with a number in -MaxExponent..MaxExponent.
func signedCalls() []call[int] {
	return []call[int]{
		{"SignedDigits", func(n int) []any { return all(impl.SignedDigits(n)) }},
		{"CountSigned, 0", func(n int) []any { return all(impl.CountSigned(n, 0)) }},
		{"CountSigned, 20", func(n int) []any { return all(impl.CountSigned(n, 20)) }},
		{"CountSigned, MaxDigits", func(n int) []any { return all(impl.CountSigned(n, impl.MaxDigits)) }},
		{"AllSigned, 0", func(n int) []any { return all(impl.AllSigned(n, 0)) }},
		{"AllSigned, 5", func(n int) []any { return all(impl.AllSigned(n, 5)) }},
		{"AllSigned, MaxDigits", func(n int) []any { return all(impl.AllSigned(n, impl.MaxDigits)) }},
		{"LeastWeight, 0", func(n int) []any { return all(impl.LeastWeight(n, 0)) }},
		{"LeastWeight, MaxDigits", func(n int) []any { return all(impl.LeastWeight(n, impl.MaxDigits)) }},
		{"WindowDigits, 2", func(n int) []any { return all(impl.WindowDigits(n, 2)) }},
		{"WindowDigits, 6", func(n int) []any { return all(impl.WindowDigits(n, 6)) }},
		{"AddersOf", func(n int) []any { return all(impl.AddersOf(n)) }},
		{"OneAdder", func(n int) []any { return all(impl.OneAdder(n)) }},
		{"SubtractionChain", func(n int) []any { return all(impl.SubtractionChain(n)) }},
		{"ShortestSubtraction", func(n int) []any { return all(impl.ShortestSubtraction(n, 64)) }},
	}
}

// digitLengthCalls has all functions of chapter 9 that are called with a length in 0..MaxDigits.
func digitLengthCalls() []call[int] {
	return []call[int]{
		{"CountSigned, 0", func(length int) []any { return all(impl.CountSigned(0, length)) }},
		{"CountSigned, 1", func(length int) []any { return all(impl.CountSigned(1, length)) }},
		{"CountSigned, -77", func(length int) []any { return all(impl.CountSigned(-77, length)) }},
		{"CountSigned, MaxExponent", func(length int) []any { return all(impl.CountSigned(impl.MaxExponent, length)) }},
		{"AllSigned, 0", func(length int) []any { return all(impl.AllSigned(0, length)) }},
		{"AllSigned, 1", func(length int) []any { return all(impl.AllSigned(1, length)) }},
		{"AllSigned, -8", func(length int) []any { return all(impl.AllSigned(-8, length)) }},
		{"LeastWeight, 0", func(length int) []any { return all(impl.LeastWeight(0, length)) }},
		{"LeastWeight, 1", func(length int) []any { return all(impl.LeastWeight(1, length)) }},
		{"LeastWeight, MaxExponent", func(length int) []any { return all(impl.LeastWeight(impl.MaxExponent, length)) }},
	}
}

func windowWidthCalls() []call[int] {
	return []call[int]{
		{"WindowDigits", func(width int) []any { return all(impl.WindowDigits(7, width)) }},
		{"WindowDigits of 0", func(width int) []any { return all(impl.WindowDigits(0, width)) }},
		{"WindowDigits of MaxExponent", func(width int) []any { return all(impl.WindowDigits(-impl.MaxExponent, width)) }},
		{"FromWindow", func(width int) []any { return all(impl.FromWindow([]int{0, 1}, width)) }},
		{"FromWindow of none", func(width int) []any { return all(impl.FromWindow(nil, width)) }},
		{"FromWindow of -2^19", func(width int) []any { return all(impl.FromWindow(append(make([]int, 19), -1), width)) }},
	}
}

func adderCalls() []call[[]impl.Adder] {
	return []call[[]impl.Adder]{
		{"IsAdders", func(list []impl.Adder) []any { return all(impl.IsAdders(list)) }},
		{"RunAdders", func(list []impl.Adder) []any { return all(impl.RunAdders(list, 3)) }},
		{"RunAdders, 0", func(list []impl.Adder) []any { return all(impl.RunAdders(list, 0)) }},
		{"RunAdders, -1000", func(list []impl.Adder) []any { return all(impl.RunAdders(list, -1000)) }},
	}
}

func adderInputCalls() []call[int] {
	return []call[int]{
		{"RunAdders, none", func(x int) []any { return all(impl.RunAdders(nil, x)) }},
		{"RunAdders, one", func(x int) []any { return all(impl.RunAdders(adders(plus(0, 20, 0, 20)), x)) }},
		{"RunAdders, zero", func(x int) []any { return all(impl.RunAdders(adders(minus(0, 0, 0, 0)), x)) }},
	}
}

func subtractionCalls() []call[[]int] {
	return []call[[]int]{{"IsSubtractionChain", func(list []int) []any { return all(impl.IsSubtractionChain(list)) }}}
}

func mostCalls() []call[int] {
	return []call[int]{
		{"ShortestSubtraction, 1", func(most int) []any { return all(impl.ShortestSubtraction(1, most)) }},
		{"ShortestSubtraction, 31", func(most int) []any { return all(impl.ShortestSubtraction(31, most)) }},
		{"ShortestSubtraction, 40", func(most int) []any { return all(impl.ShortestSubtraction(40, most)) }},
	}
}

func parseCalls() []call[string] {
	return []call[string]{{"ParseSigned", func(s string) []any { return all(impl.ParseSigned(s)) }}}
}

// strangeDigits returns lists that are no digits, with each number in each place.
func strangeDigits(numbers map[string]int) map[string][]int {
	lists := map[string][]int{
		"MaxDigits + 1 zeros": make([]int, impl.MaxDigits+1),
		"MaxDigits + 1 ones":  slices.Repeat([]int{1}, impl.MaxDigits+1),
		"MaxDigits + 1":       append(make([]int, impl.MaxDigits), -1),
		"very many":           make([]int, 100000),
		"64 and more":         append(make([]int, 64), 1),
	}
	for name, n := range numbers {
		for length := range impl.MaxDigits {
			for at := range length + 1 {
				list := make([]int, length+1)
				list[length] = 1
				list[at] = n
				lists[fmt.Sprint(name, " at ", at, " of ", length)] = list
			}
		}
	}
	return lists
}

func TestInvalidDigitsGiveZero(t *testing.T) {
	expectZeroOfAll(t, digitsCalls(), strangeDigits(map[string]int{
		"2":        2,
		"-2":       -2,
		"3":        3,
		"48":       '0',
		"2^32":     1 << 32,
		"2^32 + 1": 1<<32 + 1,
		"255":      255,
		"least":    math.MinInt,
		"greatest": math.MaxInt,
	}))
}

func TestInvalidWindowDigitsGiveZero(t *testing.T) {
	numbers := map[string]int{
		"2":         2,
		"-2":        -2,
		"4":         4,
		"30":        30,
		"32":        32,
		"-32":       -32,
		"33":        33,
		"-33":       -33,
		"65":        65,
		"2^32":      1 << 32,
		"2^32 + 1":  1<<32 + 1,
		"least":     math.MinInt,
		"least + 1": math.MinInt + 1,
		"greatest":  math.MaxInt,
	}
	expectZeroOfAll(t, windowCalls(), strangeDigits(numbers))
	lists := map[string][]int{"0 alone": {0}, "zeros": make([]int, impl.MaxDigits), "two neighbours": {1, 1}, "0 last": {1, 0}, "neighbours of different signs": {1, -1}}
	for length := range impl.MaxDigits {
		lists[fmt.Sprint("0 behind ", length)] = append(append(make([]int, length), 1), 0)
		lists[fmt.Sprint("neighbours behind ", length)] = append(make([]int, length), 1, -1)
	}
	expectZeroOfAll(t, windowCalls(), lists)
}

// tooGreatNumbers are those beyond MaxExponent or -MaxExponent.
func tooGreatNumbers() map[string]int {
	return map[string]int{
		"MaxExponent + 1":  impl.MaxExponent + 1,
		"-MaxExponent - 1": -impl.MaxExponent - 1,
		"2 * MaxExponent":  2 * impl.MaxExponent,
		"2^20":             1 << 20,
		"2^21":             1 << 21,
		"-2^24":            -1 << 24,
		"2^32":             1 << 32,
		"2^32 + 1":         1<<32 + 1,
		"-2^32":            -1 << 32,
		"least":            math.MinInt,
		"least + 1":        math.MinInt + 1,
		"greatest":         math.MaxInt,
		"greatest - 1":     math.MaxInt - 1,
	}
}

func TestNumbersThatAreTooGreatGiveZero(t *testing.T) {
	expectZeroOfAll(t, signedCalls(), tooGreatNumbers())
	for name, n := range tooGreatNumbers() {
		for length := -1; length <= impl.MaxDigits+1; length++ {
			what := fmt.Sprint(name, " and ", length)
			expectZero(t, "CountSigned of "+what, all(impl.CountSigned(n, length)))
			expectZero(t, "AllSigned of "+what, all(impl.AllSigned(n, length)))
			expectZero(t, "LeastWeight of "+what, all(impl.LeastWeight(n, length)))
			expectZero(t, "WindowDigits of "+what, all(impl.WindowDigits(n, length)))
		}
	}
	for name, n := range invalidNumbers() {
		expectZero(t, "SubtractionChain of "+name, all(impl.SubtractionChain(n)))
		expectZero(t, "ShortestSubtraction of "+name, all(impl.ShortestSubtraction(n, 64)))
		expectZero(t, "ShortestSubtraction of "+name+" twice", all(impl.ShortestSubtraction(n, n)))
	}
	// Only some functions take 0 and negative numbers.
	for n := -1; n <= 1; n++ {
		for _, m := range []int{n, n * impl.MaxExponent, -77 * n} {
			_, digits := impl.SignedDigits(m)
			_, count := impl.CountSigned(m, 3)
			_, windows := impl.WindowDigits(m, 3)
			_, list := impl.AddersOf(m)
			_, chain := impl.SubtractionChain(m)
			expect(t, fmt.Sprint("results for ", m), all(digits, count, windows, list, chain), true, true, true, true, m > 0)
		}
	}
}

func TestInvalidDigitLengthsGiveZero(t *testing.T) {
	expectZeroOfAll(t, digitLengthCalls(), map[string]int{
		"-1":            -1,
		"-2":            -2,
		"MaxDigits + 1": impl.MaxDigits + 1,
		"MaxDigits + 2": impl.MaxDigits + 2,
		"63":            63,
		"64":            64,
		"65":            65,
		"2^32":          1 << 32,
		"least":         math.MinInt,
		"greatest":      math.MaxInt,
	})
	for length := -3; length <= impl.MaxDigits+3; length++ {
		ok := 0 <= length && length <= impl.MaxDigits
		_, fine := impl.CountSigned(0, length)
		_, right := impl.AllSigned(0, length)
		_, good := impl.LeastWeight(0, length)
		expect(t, fmt.Sprint("length ", length), all(fine, right, good), ok, ok, ok)
	}
}

func TestInvalidWindowWidthsGiveZero(t *testing.T) {
	expectZeroOfAll(t, windowWidthCalls(), map[string]int{
		"0":        0,
		"1":        1,
		"-1":       -1,
		"-2":       -2,
		"7":        7,
		"8":        8,
		"63":       63,
		"64":       64,
		"65":       65,
		"66":       66,
		"2^32 + 2": 1<<32 + 2,
		"least":    math.MinInt,
		"greatest": math.MaxInt,
	})
	for width := -3; width <= 10; width++ {
		for _, c := range windowWidthCalls() {
			got := c.run(width)
			expect(t, fmt.Sprint(c.name, " for ", width), all(got[1]), 2 <= width && width <= 6)
		}
	}
}

// invalidAdders returns for each rule of adders some lists that break just this one.
func invalidAdders() map[string][]impl.Adder {
	lists := map[string][]impl.Adder{
		"MaxAdders + 1":        slices.Repeat(adders(plus(0, 0, 0, 0)), impl.MaxAdders+1),
		"very many":            slices.Repeat(adders(plus(0, 0, 0, 0)), 100000),
		"MaxMultiple + 1":      adders(plus(0, 20, 0, 20), plus(1, 0, 0, 0)),
		"-MaxMultiple - 1":     adders(plus(0, 20, 0, 20), minus(1, 0, 1, 1), minus(2, 0, 0, 0)),
		"multiple 2^40":        adders(plus(0, 19, 0, 19), plus(1, 20, 1, 20)),
		"too great, not used":  adders(plus(0, 20, 0, 20), plus(1, 1, 0, 0), plus(0, 0, 0, 0)),
		"far too great":        make([]impl.Adder, impl.MaxAdders),
		"its own value as A":   adders(plus(1, 0, 0, 0)),
		"its own value as B":   adders(plus(0, 0, 1, 0)),
		"a later value, not 1": adders(plus(0, 0, 0, 0), plus(2, 0, 3, 0), plus(0, 0, 0, 0)),
		"its own value, last":  adders(plus(0, 0, 0, 0), plus(0, 0, 2, 0)),
	}
	for i := range lists["far too great"] {
		lists["far too great"][i] = plus(i, 20, i, 20)
	}
	for name, n := range map[string]int{"-1": -1, "21": 21, "22": 22, "63": 63, "64": 64, "-64": -64, "2^32": 1 << 32, "least": math.MinInt, "greatest": math.MaxInt} {
		for more, a := range map[string]impl.Adder{
			"A":           plus(n, 0, 0, 0),
			"B":           plus(0, 0, n, 0),
			"ShiftA":      plus(0, n, 0, 0),
			"ShiftB":      plus(0, 0, 0, n),
			"both":        plus(n, 0, n, 0),
			"both shifts": minus(0, n, 0, n),
		} {
			lists[more+" "+name] = adders(a)
			lists[more+" "+name+" later"] = adders(plus(0, 0, 0, 0), minus(0, 0, 0, 0), a, plus(0, 0, 0, 0))
		}
		// Whatever the shift, a multiple of 0 is not too great.
		zero := minus(0, 0, 0, 0)
		lists["A "+name+" behind 0"] = adders(zero, plus(n, 0, 1, 0))
		lists["B "+name+" behind 0"] = adders(zero, plus(1, 0, n, 0))
		lists["ShiftA "+name+" of 0"] = adders(zero, plus(1, n, 1, 0))
		lists["ShiftB "+name+" of 0"] = adders(zero, plus(1, 0, 1, n))
	}
	return lists
}

func TestInvalidAddersGiveZero(t *testing.T) {
	expectZeroOfAll(t, adderCalls(), invalidAdders())
	for _, list := range invalidAdders() {
		if _, ok := addedUp(list[:min(len(list), 30)], 1); ok {
			t.Errorf("adders: %v", list)
		}
	}
}

func TestInvalidInputsOfAddersGiveZero(t *testing.T) {
	expectZeroOfAll(t, adderInputCalls(), map[string]int{
		"1001":     1001,
		"-1001":    -1001,
		"2^32":     1 << 32,
		"2^32 + 1": 1<<32 + 1,
		"-2^43":    -1 << 43,
		"least":    math.MinInt,
		"greatest": math.MaxInt,
	})
	for n := -3; n <= 3; n++ {
		for _, x := range []int{n, 1000 + n, -1000 + n} {
			for _, c := range adderInputCalls() {
				got := c.run(x)
				expect(t, fmt.Sprint(c.name, " of ", x), all(got[1]), -1000 <= x && x <= 1000)
			}
		}
	}
	for name, list := range invalidAdders() {
		expectZero(t, name+" and 1001", all(impl.RunAdders(list, 1001)))
	}
}

func TestInvalidSubtractionsGiveZero(t *testing.T) {
	half := math.MaxInt/2 + 1
	expectZeroOfAll(t, subtractionCalls(), map[string][]int{
		"nil":                 nil,
		"empty":               {},
		"MaxSteps + 2":        countTo(impl.MaxSteps + 2),
		"very many":           countTo(100000),
		"least alone":         {math.MinInt},
		"least":               {1, math.MinInt},
		"greatest":            {1, math.MaxInt},
		"twice wraps around":  {1, half, math.MinInt},
		"wraps around":        {1, math.MaxInt, math.MinInt},
		"less the least":      {1, math.MinInt, math.MaxInt},
		"wraps around to 1":   {math.MinInt, math.MaxInt, 1},
		"1 last":              {2, 1},
		"MaxExponent at once": {1, impl.MaxExponent},
		"0 alone":             {0},
	})
	strange := []int{math.MinInt, math.MinInt + 1, -1, 0, 1, 2, 3, 4, impl.MaxExponent, impl.MaxExponent + 1, half, math.MaxInt}
	for length := range 5 {
		for _, indices := range allLists(length, len(strange)) {
			list := make([]int, length)
			for i, at := range indices {
				list[i] = strange[at]
			}
			if impl.IsSubtractionChain(list) != isSubtraction(list) {
				t.Fatalf("IsSubtractionChain(%v) is not %v", list, isSubtraction(list))
			}
		}
	}
}

func TestInvalidMostsGiveZero(t *testing.T) {
	expectZeroOfAll(t, mostCalls(), map[string]int{
		"0":        0,
		"-1":       -1,
		"65":       65,
		"66":       66,
		"2^32":     1 << 32,
		"2^32 + 1": 1<<32 + 1,
		"least":    math.MinInt,
		"greatest": math.MaxInt,
	})
	for n := -2; n <= 43; n++ {
		for most := -2; most <= 67; most++ {
			_, ok := impl.ShortestSubtraction(n, most)
			none := slices.Contains([]int{29, 35, 37, 38, 39}, n)
			expect(t, fmt.Sprint("shortest for ", n, " and ", most), all(ok), 1 <= n && n <= 40 && n <= most && most <= 64 && !none)
		}
	}
}

func TestTextsThatAreOfNoDigits(t *testing.T) {
	invalid := map[string]string{
		"empty":         "",
		"MaxDigits + 1": strings.Repeat("0", impl.MaxDigits+1),
		"very many":     strings.Repeat("+", 100000),
	}
	for _, text := range []string{"1", "+1", "=0", "0=", "==", "=+", "-=", " ", " +", "+ ", "+ 0", "+\n", "\n", "\x00", "+\x00", "p", "m", "+0*", "+,0", "−", "＋", "+−", "÷", "\xff", "T", "1,0", "[]", "-1", "2", "o", "O", "_", "+_0", "\t+", "--=", "nil"} {
		invalid[fmt.Sprintf("%q", text)] = text
	}
	expectZeroOfAll(t, parseCalls(), invalid)
	for length := range impl.MaxDigits + 4 {
		for _, letter := range []string{"+", "0", "-"} {
			_, ok := impl.ParseSigned(strings.Repeat(letter, length))
			expect(t, fmt.Sprint(letter, length), all(ok), 1 <= length && length <= impl.MaxDigits)
		}
		_, ok := impl.ParseSigned(strings.Repeat("=", length))
		expect(t, fmt.Sprint("=", length), all(ok), length == 1)
	}
}

func TestDigitsStayAsTheyAre(t *testing.T) {
	samples := [][]int{nil, {}, {0}, {1}, {-1, 0, 1}, {1, 1}, {0, 0}, {1, 2}, {7}, {-31, 0, 0, 0, 0, 0, 1}, sparseOf(impl.MaxExponent), make([]int, impl.MaxDigits), make([]int, impl.MaxDigits+1), topDigits(1)}
	expectNoTrace(t, digitsCalls(), samples, roomyList, wholeList)
	expectNoTrace(t, windowCalls(), samples, roomyList, wholeList)
}

func TestSubtractionsStayAsTheyAre(t *testing.T) {
	samples := append(sampleChains(), nil, []int{}, []int{0}, []int{1, 1}, []int{1, 2, 4, 8, 7}, []int{3, 2, 1}, countTo(impl.MaxSteps+1), countTo(impl.MaxSteps+2))
	expectNoTrace(t, subtractionCalls(), samples, roomyList, wholeList)
}

// roomyAdders returns a copy with spare capacity, full of adders that would go on well.
func roomyAdders(list []impl.Adder) []impl.Adder {
	longer := append(slices.Clone(list), plus(0, 0, 0, 0), minus(0, 3, 0, 0), plus(0, 0, 0, 0), plus(0, 1, 0, 1))
	return longer[:len(list)]
}

func wholeAdders(list []impl.Adder) string {
	return fmt.Sprint(len(list), list[:cap(list)])
}

func TestAddersStayAsTheyAre(t *testing.T) {
	samples := [][]impl.Adder{nil, {}, adders(minus(0, 0, 0, 0)), addersOf(-impl.MaxExponent), addersOf(349525), adders(plus(1, 0, 0, 0)), slices.Repeat(adders(plus(0, 0, 0, 0)), impl.MaxAdders), slices.Repeat(adders(plus(0, 0, 0, 0)), impl.MaxAdders+1)}
	expectNoTrace(t, adderCalls(), samples, roomyAdders, wholeAdders)
}

// TestResultsOfSignedNumbersAreNew overwrites what a call returns and calls again.
func TestResultsOfSignedNumbersAreNew(t *testing.T) {
	for _, c := range slices.Concat(signedCalls(), digitLengthCalls(), windowWidthCalls(), adderInputCalls(), mostCalls()) {
		for _, n := range []int{0, 1, -1, 2, 3, 4, 5, 6, 7, -8, 14, 15, 24, 29, 31, 40, 64, -77, 274, 1000, impl.MaxExponent, -impl.MaxExponent} {
			got := c.run(n)
			text := fmt.Sprint(got)
			overwriteAll(got)
			if again := fmt.Sprint(c.run(n)); again != text {
				t.Fatalf("%s of %d returns %s and then %s", c.name, n, text, again)
			}
		}
	}
	for _, text := range []string{"=", "+00-", "0", strings.Repeat("-", impl.MaxDigits)} {
		got := all(impl.ParseSigned(text))
		shown := fmt.Sprint(got)
		overwriteAll(got)
		expect(t, "digits of "+text+" once more", all(fmt.Sprint(all(impl.ParseSigned(text)))), shown)
	}
	shown, _ := impl.SignedText([]int{1, 0, -1})
	expect(t, "letters", all(shown), "-0+")
}

func TestListsOfDigitsShareNoMemory(t *testing.T) {
	for _, k := range []signedKey{{0, 5}, {7, 4}, {-77, 9}, {274, 24}, {1, 24}} {
		lists, ok := impl.AllSigned(k.n, k.length)
		expect(t, fmt.Sprint("lists for ", k), all(ok), true)
		for i := range lists {
			others := fmt.Sprint(lists[:i], lists[i+1:])
			overwriteAll(all(lists[i]))
			if fmt.Sprint(lists[:i], lists[i+1:]) != others {
				t.Fatalf("the list %d for %v shares memory with others", i, k)
			}
		}
	}
}

func TestStrangeDigitsDoNotPanic(t *testing.T) {
	strange := []int{math.MinInt, -2, -1, 0, 1, 2, 3, math.MaxInt}
	for length := range 5 {
		for _, indices := range allLists(length, len(strange)) {
			list := make([]int, length)
			for i, at := range indices {
				list[i] = strange[at]
			}
			valid := !slices.ContainsFunc(list, func(d int) bool { return d < -1 || d > 1 })
			for _, c := range digitsCalls() {
				got := c.run(list)
				expect(t, fmt.Sprint(c.name, " of ", list), all(got[1]), valid)
				if !valid {
					expectZero(t, fmt.Sprint(c.name, " of ", list), got)
				}
			}
			for width := 2; width <= 6; width++ {
				_, ok := impl.FromWindow(list, width)
				expect(t, fmt.Sprint("windows ", list, " for ", width), all(ok), areWindows(list, width))
			}
		}
	}
}

func TestStrangeAddersDoNotPanic(t *testing.T) {
	strange := []int{math.MinInt, -1, 0, 1, 20, 21, 64, math.MaxInt}
	for _, i := range allLists(4, len(strange)) {
		for _, a := range adders(plus(strange[i[0]], strange[i[1]], strange[i[2]], strange[i[3]]), minus(strange[i[0]], strange[i[1]], strange[i[2]], strange[i[3]])) {
			for _, list := range [][]impl.Adder{adders(a), adders(minus(0, 0, 0, 0), a), adders(a, plus(1, 20, 0, 0))} {
				_, ok := addedUp(list, 1)
				for _, c := range adderCalls() {
					if got := c.run(list); !ok {
						expectZero(t, fmt.Sprint(c.name, " of ", list), got)
					} else if got[len(got)-1] != true {
						t.Fatalf("%s of %v fails", c.name, list)
					}
				}
			}
		}
	}
}

func TestStrangeNumbersDoNotPanicInDigits(t *testing.T) {
	for _, n := range append(strangeNumbers(), -impl.MaxExponent, -impl.MaxExponent-1, 24, 25, 6, 64, 65) {
		for _, c := range slices.Concat(signedCalls(), digitLengthCalls(), windowWidthCalls(), adderInputCalls(), mostCalls()) {
			c.run(n)
		}
		for _, o := range append(strangeNumbers(), 24, 25, 6) {
			_, ok := impl.CountSigned(n, o)
			_, fine := impl.WindowDigits(n, o)
			expect(t, fmt.Sprint("digits of ", n, " and ", o), all(ok, fine), isNumber(n) && 0 <= o && o <= 24, isNumber(n) && 2 <= o && o <= 6)
		}
	}
}
