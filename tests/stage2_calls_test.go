package tests

import (
	"fmt"
	"math"
	"slices"
	"testing"

	"loop.example/g01098/impl"
)

// chainCalls has all functions of chapter 2 that are called with a chain.
func chainCalls() []call[[]int] {
	pair := []int{1, 2}
	return []call[[]int]{
		{"IsChain", func(list []int) []any { return all(impl.IsChain(list)) }},
		{"ChainSteps", func(list []int) []any { return all(impl.ChainSteps(list)) }},
		{"IsStepByStep", func(list []int) []any { return all(impl.IsStepByStep(list)) }},
		{"CountSums", func(list []int) []any { return all(impl.CountSums(list)) }},
		{"NeededPart", func(list []int) []any { return all(impl.NeededPart(list)) }},
		{"ExtendChain, twice the end", func(list []int) []any { return all(impl.ExtendChain(list, 2*endOf(list))) }},
		{"ExtendChain, one more", func(list []int) []any { return all(impl.ExtendChain(list, endOf(list)+1)) }},
		{"InsertNumber, behind", func(list []int) []any { return all(impl.InsertNumber(list, 2*endOf(list))) }},
		{"InsertNumber, 1", func(list []int) []any { return all(impl.InsertNumber(list, 1)) }},
		{"InsertNumber, 2", func(list []int) []any { return all(impl.InsertNumber(list, 2)) }},
		{"InsertNumber, 3", func(list []int) []any { return all(impl.InsertNumber(list, 3)) }},
		{"MeetChains, first", func(list []int) []any { return all(impl.MeetChains(list, pair)) }},
		{"MeetChains, second", func(list []int) []any { return all(impl.MeetChains(pair, list)) }},
		{"MeetChains, both", func(list []int) []any { return all(impl.MeetChains(list, list)) }},
		{"UnionChains, first", func(list []int) []any { return all(impl.UnionChains(list, pair)) }},
		{"UnionChains, second", func(list []int) []any { return all(impl.UnionChains(pair, list)) }},
		{"UnionChains, both", func(list []int) []any { return all(impl.UnionChains(list, list)) }},
		{"ScaleChain, list", func(list []int) []any { return all(impl.ScaleChain(list, pair)) }},
		{"ScaleChain, list by 1", func(list []int) []any { return all(impl.ScaleChain(list, pair[:1])) }},
		{"ScaleChain, by", func(list []int) []any { return all(impl.ScaleChain(pair, list)) }},
		{"ScaleChain, 1 by", func(list []int) []any { return all(impl.ScaleChain(pair[:1], list)) }},
		{"ScaleChain, both", func(list []int) []any { return all(impl.ScaleChain(list, list)) }},
		{"ChainPlan", func(list []int) []any { return all(impl.ChainPlan(list)) }},
		{"SequencePlan, no targets", func(list []int) []any { return all(impl.SequencePlan(list, nil)) }},
		{"SequencePlan, 1", func(list []int) []any { return all(impl.SequencePlan(list, pair[:1])) }},
		{"SequencePlan, end", func(list []int) []any { return all(impl.SequencePlan(list, []int{endOf(list), endOf(list)})) }},
		{"SmallSteps", func(list []int) []any { return all(impl.SmallSteps(list)) }},
		{"ChainText", func(list []int) []any { return all(impl.ChainText(list)) }},
	}
}

func endOf(list []int) int {
	if len(list) == 0 {
		return 1
	}
	return list[len(list)-1]
}

// numberCalls has all functions of chapter 2 that are called with a number.
func numberCalls() []call[int] {
	chain := []int{1, 2, 3}
	return []call[int]{
		{"ExtendChain", func(n int) []any { return all(impl.ExtendChain(chain, n)) }},
		{"ExtendChain to the greatest", func(n int) []any { return all(impl.ExtendChain(chainTo(impl.MaxExponent), n)) }},
		{"InsertNumber", func(n int) []any { return all(impl.InsertNumber(chain, n)) }},
		{"InsertNumber to the greatest", func(n int) []any { return all(impl.InsertNumber(chainTo(impl.MaxExponent), n)) }},
		{"SequencePlan", func(n int) []any { return all(impl.SequencePlan(chain, []int{n})) }},
		{"SequencePlan, later", func(n int) []any { return all(impl.SequencePlan(chain, []int{1, 3, n})) }},
		{"BitLength", func(n int) []any { return all(impl.BitLength(n)) }},
		{"DigitSum", func(n int) []any { return all(impl.DigitSum(n)) }},
	}
}

// invalidNumbers are all outside 1..MaxExponent, some so that sums of them wrap around.
func invalidNumbers() map[string]int {
	return map[string]int{
		"0":               0,
		"-1":              -1,
		"-2":              -2,
		"MaxExponent + 1": impl.MaxExponent + 1,
		"2 * MaxExponent": 2 * impl.MaxExponent,
		"2^32 + 1":        1<<32 + 1,
		"least":           math.MinInt,
		"least + 1":       math.MinInt + 1,
		"greatest":        math.MaxInt,
	}
}

// chainTo makes a chain with the end n by binary digits.
func chainTo(n int) []int {
	if n == 1 {
		return []int{1}
	}
	if n%2 == 0 {
		return append(chainTo(n/2), n)
	}
	return append(chainTo(n-1), n)
}

func countTo(n int) []int {
	list := upTo(n + 1)
	return list[1:]
}

// invalidChains returns for each rule of chains some lists that break just this one.
func invalidChains() map[string][]int {
	return map[string][]int{
		"nil":                     nil,
		"empty":                   {},
		"0 alone":                 {0},
		"2 alone":                 {2},
		"-1 alone":                {-1},
		"least alone":             {math.MinInt},
		"greatest alone":          {math.MaxInt},
		"0 first":                 {0, 1, 2},
		"2 first":                 {2, 4},
		"-1 first":                {-1, 1, 2},
		"1 twice":                 {1, 1},
		"2 twice":                 {1, 2, 2},
		"end twice":               {1, 2, 3, 3},
		"decreasing":              {1, 2, 4, 3},
		"decreasing to 1":         {1, 2, 1},
		"sums in wrong order":     {1, 3, 2},
		"0 later":                 {1, 0},
		"0 last":                  {1, 2, 0},
		"negative":                {1, -1},
		"least":                   {1, 2, math.MinInt},
		"greatest":                {1, 2, math.MaxInt},
		"no sum at once":          {1, 3},
		"no sum":                  {1, 2, 5},
		"no sum, others":          {1, 2, 4, 7, 8},
		"no sum in between":       {1, 2, 5, 6, 7, 10},
		"no sum at the end":       {1, 2, 3, 6, 12, 24, 37},
		"sum of three":            {1, 2, 4, 8, 11},
		"sum with a later one":    {1, 2, 5, 7},
		"sum wraps around":        {1, 2, math.MaxInt - 1, math.MaxInt},
		"MaxChain + 1":            countTo(impl.MaxChain + 1),
		"far too many":            countTo(3000),
		"MaxExponent + 1":         append(chainTo(impl.MaxExponent), impl.MaxExponent+1),
		"2 * MaxExponent":         append(chainTo(impl.MaxExponent), 2*impl.MaxExponent),
		"MaxExponent + 1, binary": chainTo(impl.MaxExponent + 1),
		"2^40":                    chainTo(1 << 40),
	}
}

func TestInvalidChainsGiveZero(t *testing.T) {
	expectZeroOfAll(t, chainCalls(), invalidChains())
}

func TestInvalidNumbersGiveZero(t *testing.T) {
	expectZeroOfAll(t, numberCalls(), invalidNumbers())
}

func TestInvalidPlansHaveNoChain(t *testing.T) {
	expectZeroOfAll(t, chainsOfPlans(), invalidPlans())
}

func chainsOfPlans() []call[impl.Plan] {
	return []call[impl.Plan]{{"ChainOfPlan", func(p impl.Plan) []any { return all(impl.ChainOfPlan(p)) }}}
}

// roomyList returns a copy with spare capacity, full of numbers that would go on well.
func roomyList(list []int) []int {
	copied := append([]int{}, list...)
	for range 4 {
		copied = append(copied, 2*endOf(copied))
	}
	return copied[:len(list)]
}

func wholeList(list []int) string {
	return fmt.Sprint(len(list), list[:cap(list)])
}

func sampleChains() [][]int {
	return [][]int{
		{1},
		{1, 2},
		{1, 2, 3},
		{1, 2, 4},
		{1, 2, 3, 6, 7},
		{1, 2, 4, 5, 8},
		{1, 2, 3, 4, 5, 6},
		chainTo(1000),
		chainTo(impl.MaxExponent),
		countTo(impl.MaxChain),
	}
}

func TestChainsStayAsTheyAre(t *testing.T) {
	expectNoTrace(t, chainCalls(), sampleChains(), roomyList, wholeList)
	expectNoTrace(t, chainsOfPlans(), samplePlans(), roomy, whole)
}

func TestTargetsStayAsTheyAre(t *testing.T) {
	calls := []call[[]int]{{"SequencePlan", func(targets []int) []any { return all(impl.SequencePlan([]int{1, 2, 3, 6}, targets)) }}}
	expectNoTrace(t, calls, [][]int{{}, {1}, {6, 2}, {3, 3, 1, 1, 6, 2}}, roomyList, wholeList)
}

func TestStrangeListsDoNotPanic(t *testing.T) {
	strange := []int{math.MinInt, -1, 0, 1, 2, 3, 4, 5, impl.MaxExponent, impl.MaxExponent + 1, math.MaxInt}
	for length := range 4 {
		for _, indices := range allLists(length, len(strange)) {
			list := make([]int, length)
			for i, at := range indices {
				list[i] = strange[at]
			}
			valid := isChain(list)
			if impl.IsChain(list) != valid {
				t.Fatalf("IsChain(%v) is not %v", list, valid)
			}
			for _, c := range chainCalls() {
				if got := c.run(list); !valid {
					expectZero(t, fmt.Sprint(c.name, " of ", list), got)
				}
			}
		}
	}
}

// isChain looks at all pairs; for numbers that are too great it must not add.
func isChain(list []int) bool {
	if len(list) == 0 || len(list) > 41 || list[0] != 1 || slices.Max(list) > 1000000 || slices.Min(list) < 1 {
		return false
	}
	for k := 1; k < len(list); k++ {
		if list[k] <= list[k-1] || len(pairsOf(list, k)) == 0 {
			return false
		}
	}
	return true
}

// pairsOf finds all sums of the number with the index k, those with a less A first.
func pairsOf(list []int, k int) [][2]int {
	var pairs [][2]int
	for i := range k {
		for j := i; j < k; j++ {
			if list[i]+list[j] == list[k] {
				pairs = append(pairs, [2]int{i, j})
			}
		}
	}
	return pairs
}
