package tests

import (
	"fmt"
	"math"
	"testing"

	"loop.example/g01098/impl"
)

// methodCalls has all functions of chapter 3 that are called with a number in 1..MaxExponent.
func methodCalls() []call[int] {
	return []call[int]{
		{"DigitsOf, 2", func(n int) []any { return all(impl.DigitsOf(n, 2)) }},
		{"DigitsOf, 10", func(n int) []any { return all(impl.DigitsOf(n, 10)) }},
		{"DigitsOf, 64", func(n int) []any { return all(impl.DigitsOf(n, 64)) }},
		{"LeastFactor", func(n int) []any { return all(impl.LeastFactor(n)) }},
		{"BinaryPlan", func(n int) []any { return all(impl.BinaryPlan(n)) }},
		{"BinaryCost", func(n int) []any { return all(impl.BinaryCost(n)) }},
		{"RightPlan", func(n int) []any { return all(impl.RightPlan(n)) }},
		{"WindowPlan, 1", func(n int) []any { return all(impl.WindowPlan(n, 1)) }},
		{"WindowPlan, 5", func(n int) []any { return all(impl.WindowPlan(n, 5)) }},
		{"SlidingPlan, 1", func(n int) []any { return all(impl.SlidingPlan(n, 1)) }},
		{"SlidingPlan, 5", func(n int) []any { return all(impl.SlidingPlan(n, 5)) }},
		{"WindowsOf, 1", func(n int) []any { return all(impl.WindowsOf(n, 1)) }},
		{"WindowsOf, 5", func(n int) []any { return all(impl.WindowsOf(n, 5)) }},
		{"FactorPlan", func(n int) []any { return all(impl.FactorPlan(n)) }},
		{"FactorCost", func(n int) []any { return all(impl.FactorCost(n)) }},
		{"TreeChain", func(n int) []any { return all(impl.TreeChain(n)) }},
		{"SquaresPlan", func(n int) []any { return all(impl.SquaresPlan([]int{n})) }},
		{"SquaresPlan, first", func(n int) []any { return all(impl.SquaresPlan([]int{n, 5})) }},
		{"SquaresPlan, last", func(n int) []any { return all(impl.SquaresPlan([]int{5, 1, n})) }},
		{"MethodCosts", func(n int) []any { return all(impl.MethodCosts(n)) }},
		{"BestPlan", func(n int) []any { return all(impl.BestPlan(n)) }},
	}
}

// widthCalls has all functions of chapter 3 that are called with a width of windows.
func widthCalls() []call[int] {
	return []call[int]{
		{"WindowPlan", func(k int) []any { return all(impl.WindowPlan(23, k)) }},
		{"WindowPlan of 1", func(k int) []any { return all(impl.WindowPlan(1, k)) }},
		{"SlidingPlan", func(k int) []any { return all(impl.SlidingPlan(23, k)) }},
		{"SlidingPlan of 1", func(k int) []any { return all(impl.SlidingPlan(1, k)) }},
		{"WindowsOf", func(k int) []any { return all(impl.WindowsOf(23, k)) }},
		{"WindowsOf 1", func(k int) []any { return all(impl.WindowsOf(1, k)) }},
	}
}

func baseCalls() []call[int] {
	return []call[int]{
		{"DigitsOf", func(base int) []any { return all(impl.DigitsOf(23, base)) }},
		{"DigitsOf 1", func(base int) []any { return all(impl.DigitsOf(1, base)) }},
		{"FromDigits", func(base int) []any { return all(impl.FromDigits([]int{0, 1}, base)) }},
		{"FromDigits of 1", func(base int) []any { return all(impl.FromDigits([]int{1}, base)) }},
		{"FromDigits, none", func(base int) []any { return all(impl.FromDigits(nil, base)) }},
	}
}

// listCalls has all functions of chapter 3 that are called with a list.
func listCalls() []call[[]int] {
	return []call[[]int]{
		{"FromDigits, 2", func(list []int) []any { return all(impl.FromDigits(list, 2)) }},
		{"FromDigits, 10", func(list []int) []any { return all(impl.FromDigits(list, 10)) }},
		{"FromDigits, 64", func(list []int) []any { return all(impl.FromDigits(list, 64)) }},
		{"TogetherPlan", func(list []int) []any { return all(impl.TogetherPlan(list)) }},
		{"SquaresPlan", func(list []int) []any { return all(impl.SquaresPlan(list)) }},
	}
}

func TestInvalidNumbersHaveNoMethods(t *testing.T) {
	expectZeroOfAll(t, methodCalls(), invalidNumbers())
}

func TestInvalidWidthsGiveZero(t *testing.T) {
	expectZeroOfAll(t, widthCalls(), map[string]int{
		"0":             0,
		"-1":            -1,
		"MaxWindow + 1": impl.MaxWindow + 1,
		"64":            64,
		"65":            65,
		"2^32 + 1":      1<<32 + 1,
		"least":         math.MinInt,
		"greatest":      math.MaxInt,
	})
	for n := range invalidNumbers() {
		expectZero(t, "WindowPlan of "+n+" by 6", all(impl.WindowPlan(invalidNumbers()[n], 6)))
	}
}

func TestInvalidBasesGiveZero(t *testing.T) {
	expectZeroOfAll(t, baseCalls(), map[string]int{
		"0":        0,
		"1":        1,
		"-1":       -1,
		"-2":       -2,
		"65":       65,
		"100":      100,
		"2^32 + 2": 1<<32 + 2,
		"least":    math.MinInt,
		"greatest": math.MaxInt,
	})
}

func TestTreeHasNoGreaterNumbers(t *testing.T) {
	for _, n := range []int{impl.MaxTree + 1, impl.MaxTree + 2, 512, 2 * impl.MaxTree, impl.MaxExponent} {
		expectZero(t, fmt.Sprint("way to ", n), all(impl.TreeChain(n)))
	}
}

func TestListsOfMethodsStayAsTheyAre(t *testing.T) {
	samples := [][]int{
		nil,
		{1},
		{0, 1},
		{1, 0, 1},
		{1, 1, 1, 0, 1},
		{5, 7, 63, 1},
		{3, 3, 1, 1, 6, 2},
		{0, 0, 0, 0, 0, 1},
		{1000, 3},
		{-1, 4},
		{1, 2, 3, 4, 5, 6, 7},
	}
	expectNoTrace(t, listCalls(), samples, roomyList, wholeList)
}

// TestResultsOfNumbersAreNew overwrites what a call returns and calls again.
func TestResultsOfNumbersAreNew(t *testing.T) {
	for _, c := range append(methodCalls(), widthCalls()...) {
		for _, n := range []int{1, 2, 3, 4, 5, 15, 16, 23, 31, 77, 400, 1023, 1024, impl.MaxExponent} {
			got := c.run(n)
			text := fmt.Sprint(got)
			overwriteAll(got)
			if again := fmt.Sprint(c.run(n)); again != text {
				t.Fatalf("%s of %d returns %s and then %s", c.name, n, text, again)
			}
		}
	}
}

func TestOutputsOfEqualTargetsShareNoMemory(t *testing.T) {
	plans, ok := impl.SquaresPlan([]int{3, 3})
	again, fine := impl.SquaresPlan([]int{3, 3})
	overwriteAll(all(plans))
	expect(t, "3 twice", all(again, ok, fine), plan(1, steps(0, 0, 0, 1, 0, 1), 2, 3), true, true)
}

// TestStrangeListsHaveNoMethods takes all short lists of numbers of which most are invalid.
func TestStrangeListsHaveNoMethods(t *testing.T) {
	strange := []int{math.MinInt, -1, 0, 1, 2, 9, 10, 63, 64, impl.MaxExponent, impl.MaxExponent + 1, math.MaxInt}
	for length := range 4 {
		for _, indices := range allLists(length, len(strange)) {
			list := make([]int, length)
			for i, at := range indices {
				list[i] = strange[at]
			}
			for _, base := range []int{2, 10, 64} {
				expect(t, fmt.Sprint("digits ", list, " to the base ", base), all(impl.FromDigits(list, base)), fromDigits(list, base)...)
			}
			expect(t, fmt.Sprint("together ", list), all(impl.TogetherPlan(list)), togetherOf(list)...)
			expect(t, fmt.Sprint("squares ", list), all(impl.SquaresPlan(list)), squaresOf(list)...)
		}
	}
}
