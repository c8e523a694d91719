package tests

import (
	"fmt"
	"math"
	"testing"

	"loop.example/g01098/impl"
)

// shortCalls has all functions of chapter 4 that are called with a number in 1..MaxShort.
func shortCalls() []call[int] {
	return []call[int]{
		{"StarLength", func(n int) []any { return all(impl.StarLength(n)) }},
		{"FirstStar, 0", func(n int) []any { return all(impl.FirstStar(n, 0)) }},
		{"FirstStar, 5", func(n int) []any { return all(impl.FirstStar(n, 5)) }},
		{"FirstStar, 8", func(n int) []any { return all(impl.FirstStar(n, 8)) }},
		{"ShortestStar", func(n int) []any { return all(impl.ShortestStar(n)) }},
		{"CountStars, 0", func(n int) []any { return all(impl.CountStars(n, 0)) }},
		{"CountStars, 8", func(n int) []any { return all(impl.CountStars(n, 8)) }},
		{"LiveStars, 0", func(n int) []any { return all(impl.LiveStars(n, 0)) }},
		{"LiveStars, 8", func(n int) []any { return all(impl.LiveStars(n, 8)) }},
		{"AllShortest", func(n int) []any { return all(impl.AllShortest(n)) }},
		{"LowerBound", func(n int) []any { return all(impl.LowerBound(n)) }},
		{"UpperBound", func(n int) []any { return all(impl.UpperBound(n)) }},
		{"BinaryStar", func(n int) []any { return all(impl.BinaryStar(n)) }},
		{"TreePath", func(n int) []any { return all(impl.TreePath(n)) }},
		{"TreeParent", func(n int) []any { return all(impl.TreeParent(n)) }},
	}
}

// lengthCalls has all functions of chapter 4 that are called with a length or a level; StarEnds has fewer lengths.
func lengthCalls() []call[int] {
	return []call[int]{
		{"FirstStar, 1", func(length int) []any { return all(impl.FirstStar(1, length)) }},
		{"FirstStar, 11", func(length int) []any { return all(impl.FirstStar(11, length)) }},
		{"FirstStar, 71", func(length int) []any { return all(impl.FirstStar(71, length)) }},
		{"CountStars, 1", func(length int) []any { return all(impl.CountStars(1, length)) }},
		{"CountStars, 11", func(length int) []any { return all(impl.CountStars(11, length)) }},
		{"CountStars, 71", func(length int) []any { return all(impl.CountStars(71, length)) }},
		{"LiveStars, 1", func(length int) []any { return all(impl.LiveStars(1, length)) }},
		{"LiveStars, 11", func(length int) []any { return all(impl.LiveStars(11, length)) }},
		{"LiveStars, 71", func(length int) []any { return all(impl.LiveStars(71, length)) }},
		{"StarEnds", func(length int) []any { return all(impl.StarEnds(length)) }},
		{"TreeLevel", func(level int) []any { return all(impl.TreeLevel(level)) }},
	}
}

// starCalls has IsStarChain, the only function of chapter 4 that is called with a list.
func starCalls() []call[[]int] {
	return []call[[]int]{{"IsStarChain", func(list []int) []any { return all(impl.IsStarChain(list)) }}}
}

func invalidLengths() map[string]int {
	return map[string]int{
		"-1":             -1,
		"-2":             -2,
		"MaxCounted + 1": impl.MaxCounted + 1,
		"10":             10,
		"63":             63,
		"64":             64,
		"65":             65,
		"2^32":           1 << 32,
		"least":          math.MinInt,
		"greatest":       math.MaxInt,
	}
}

func invalidShorts() map[string]int {
	numbers := invalidNumbers()
	numbers["MaxShort + 1"] = impl.MaxShort + 1
	numbers["MaxShort + 2"] = impl.MaxShort + 2
	numbers["128"] = 128
	numbers["256"] = 256
	numbers["MaxTree"] = impl.MaxTree
	numbers["MaxExponent"] = impl.MaxExponent
	return numbers
}

func TestInvalidNumbersHaveNoStarChains(t *testing.T) {
	expectZeroOfAll(t, shortCalls(), invalidShorts())
}

func TestInvalidLengthsGiveZero(t *testing.T) {
	expectZeroOfAll(t, lengthCalls(), invalidLengths())
	for length := 7; length < 20; length++ {
		expectZero(t, fmt.Sprint("StarEnds of ", length), all(impl.StarEnds(length)))
	}
	for name, n := range invalidShorts() {
		for more, length := range invalidLengths() {
			expectZero(t, "FirstStar of "+name+" and "+more, all(impl.FirstStar(n, length)))
			expectZero(t, "CountStars of "+name+" and "+more, all(impl.CountStars(n, length)))
			expectZero(t, "LiveStars of "+name+" and "+more, all(impl.LiveStars(n, length)))
		}
	}
}

func TestListsThatMayBeStarChainsStayAsTheyAre(t *testing.T) {
	samples := append(sampleChains(), nil, []int{}, []int{0}, []int{1, 1}, []int{1, 2, 4, 5, 8}, []int{3, 2, 1}, countTo(impl.MaxSteps+2))
	expectNoTrace(t, starCalls(), samples, roomyList, wholeList)
}

func TestStrangeListsAreNoStarChains(t *testing.T) {
	expectZeroOfAll(t, starCalls(), invalidChains())
	half := math.MaxInt/2 + 1
	expectZeroOfAll(t, starCalls(), map[string][]int{
		"twice wraps around":         {1, half, math.MinInt},
		"decreases by wrapping":      {1, 2, math.MaxInt, math.MinInt + 1},
		"-1 is the sum of no number": {1, 2, -1, 1},
		"equal neighbours":           {1, 2, 2, 4},
		"equal neighbours, last":     {1, 2, 4, 4},
		"1 alone, twice":             {1, 1},
		"2 first":                    {2, 4, 8},
		"0 before 1":                 {0, 1},
	})
	strange := []int{math.MinInt, math.MinInt + 1, -1, 0, 1, 2, 3, 4, impl.MaxExponent, impl.MaxExponent + 1, half, math.MaxInt}
	for length := range 5 {
		for _, indices := range allLists(length, len(strange)) {
			list := make([]int, length)
			for i, at := range indices {
				list[i] = strange[at]
			}
			if impl.IsStarChain(list) != isStar(list) {
				t.Fatalf("IsStarChain(%v) is not %v", list, isStar(list))
			}
		}
	}
}

// TestResultsOfStarsAreNew overwrites what a call returns and calls again.
func TestResultsOfStarsAreNew(t *testing.T) {
	for _, c := range append(shortCalls(), lengthCalls()...) {
		for _, n := range []int{0, 1, 2, 3, 5, 6, 7, 8, 11, 15, 23, 47, 62, 71, 77, impl.MaxShort} {
			got := c.run(n)
			text := fmt.Sprint(got)
			overwriteAll(got)
			if again := fmt.Sprint(c.run(n)); again != text {
				t.Fatalf("%s of %d returns %s and then %s", c.name, n, text, again)
			}
		}
	}
}

func TestShortestChainsShareNoMemory(t *testing.T) {
	for _, n := range []int{5, 11, 19, 47, 95} {
		chains, _ := impl.AllShortest(n)
		for i := range chains {
			others := fmt.Sprint(chains[:i], chains[i+1:])
			overwriteAll(all(chains[i]))
			if fmt.Sprint(chains[:i], chains[i+1:]) != others {
				t.Fatalf("the chain %d for %d shares memory with others", i, n)
			}
		}
	}
}
