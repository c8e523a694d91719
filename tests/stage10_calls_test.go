package tests

import (
	"fmt"
	"math"
	"strings"
	"testing"

	"loop.example/g01098/impl"
)

// indexCalls has all functions of chapter 10 that are called with an index in 0..MaxIndex.
func indexCalls() []call[int] {
	return []call[int]{
		{"LucasByLadder", func(n int) []any { return all(impl.LucasByLadder(3, n, 100)) }},
		{"LucasByLadder by 1", func(n int) []any { return all(impl.LucasByLadder(-1000000, n, 1)) }},
		{"FibonacciPair", func(n int) []any { return all(impl.FibonacciPair(n, 100)) }},
		{"FibonacciPair by 1", func(n int) []any { return all(impl.FibonacciPair(n, 1)) }},
	}
}

func ruleIndexCalls() []call[int] {
	return []call[int]{
		{"LucasByRule", func(n int) []any { return all(impl.LucasByRule(3, n, 100)) }},
		{"LucasByRule by 1", func(n int) []any { return all(impl.LucasByRule(-1000000, n, 1)) }},
	}
}

// ladderCalls has all functions of chapter 10 that are called with a number in 1..MaxIndex.
func ladderCalls() []call[int] {
	return []call[int]{
		{"LadderOf", func(n int) []any { return all(impl.LadderOf(n)) }},
		{"LadderChain", func(n int) []any { return all(impl.LadderChain(n)) }},
		{"LucasPlanCosts", func(n int) []any { return all(impl.LucasPlanCosts(n)) }},
	}
}

func firstCalls() []call[int] {
	return []call[int]{
		{"LucasByRule", func(p int) []any { return all(impl.LucasByRule(p, 7, 100)) }},
		{"LucasByRule at 0", func(p int) []any { return all(impl.LucasByRule(p, 0, 1)) }},
		{"LucasByLadder", func(p int) []any { return all(impl.LucasByLadder(p, 7, 100)) }},
		{"LucasByLadder at 0", func(p int) []any { return all(impl.LucasByLadder(p, 0, 1)) }},
		{"RunLucas", func(p int) []any { return all(impl.RunLucas([]int{1, 2, 3}, p, 100)) }},
		{"RunLucas of 1", func(p int) []any { return all(impl.RunLucas([]int{1}, p, 1)) }},
	}
}

func lucasModulusCalls() []call[int] {
	return []call[int]{
		{"LucasByRule", func(m int) []any { return all(impl.LucasByRule(3, 7, m)) }},
		{"LucasByRule at 0", func(m int) []any { return all(impl.LucasByRule(0, 0, m)) }},
		{"LucasByLadder", func(m int) []any { return all(impl.LucasByLadder(3, 7, m)) }},
		{"LucasByLadder at 0", func(m int) []any { return all(impl.LucasByLadder(0, 0, m)) }},
		{"FibonacciPair", func(m int) []any { return all(impl.FibonacciPair(7, m)) }},
		{"FibonacciPair of 0", func(m int) []any { return all(impl.FibonacciPair(0, m)) }},
		{"RunLucas", func(m int) []any { return all(impl.RunLucas([]int{1, 2, 3}, 3, m)) }},
		{"RunLucas of 1", func(m int) []any { return all(impl.RunLucas([]int{1}, 0, m)) }},
	}
}

func lucasChainCalls() []call[[]int] {
	return []call[[]int]{
		{"IsLucasChain", func(list []int) []any { return all(impl.IsLucasChain(list)) }},
		{"LucasSteps", func(list []int) []any { return all(impl.LucasSteps(list)) }},
		{"RunLucas", func(list []int) []any { return all(impl.RunLucas(list, 3, 100)) }},
		{"RunLucas by 1", func(list []int) []any { return all(impl.RunLucas(list, -1000000, 1)) }},
	}
}

// deskCalls calls DeskLine with a plan, for all kinds of lines.
func deskCalls() []call[impl.Plan] {
	var calls []call[impl.Plan]
	for _, line := range append(goodLines(), "", "fly", "cost ", "binary 01") {
		calls = append(calls, call[impl.Plan]{fmt.Sprintf("DeskLine %q", line), func(p impl.Plan) []any { return all(impl.DeskLine(p, line)) }})
	}
	return calls
}

func scriptCalls() []call[string] {
	return []call[string]{
		{"RunScript", func(text string) []any { return all(impl.RunScript(text)) }},
		{"ScriptPlan", func(text string) []any { return all(impl.ScriptPlan(text)) }},
	}
}

func TestInvalidIndicesGiveZero(t *testing.T) {
	invalid := map[string]int{"-1": -1, "-2": -2, "MaxIndex + 1": impl.MaxIndex + 1, "2 * MaxIndex": 2 * impl.MaxIndex, "2^32": 1 << 32, "2^32 + 1": 1<<32 + 1, "least": math.MinInt, "least + 1": math.MinInt + 1, "greatest": math.MaxInt, "greatest - 1": math.MaxInt - 1}
	expectZeroOfAll(t, indexCalls(), invalid)
	expectZeroOfAll(t, ruleIndexCalls(), invalid)
	expectZeroOfAll(t, ruleIndexCalls(), map[string]int{"MaxRule + 1": impl.MaxRule + 1, "MaxRule + 2": impl.MaxRule + 2, "2 * MaxRule": 2 * impl.MaxRule, "MaxIndex": impl.MaxIndex})
	expectZeroOfAll(t, ladderCalls(), invalid)
	expectZeroOfAll(t, ladderCalls(), map[string]int{"0": 0})
	for n := -3; n <= impl.MaxIndex+3; n++ {
		if n == 2*impl.MaxRule {
			n = impl.MaxIndex - 3
		}
		_, byRule := impl.LucasByRule(3, n, 1000)
		_, byLadder := impl.LucasByLadder(3, n, 1000)
		_, _, pair := impl.FibonacciPair(n, 1000)
		expect(t, fmt.Sprint("results for ", n), all(byRule, byLadder, pair), 0 <= n && n <= 2000, 0 <= n && n <= 1000000, 0 <= n && n <= 1000000)
		_, ladder := impl.LadderOf(n)
		_, chain := impl.LadderChain(n)
		_, _, costs := impl.LucasPlanCosts(n)
		ok := 1 <= n && n <= 1000000
		expect(t, fmt.Sprint("ladder for ", n), all(ladder, chain, costs), ok, ok, ok)
	}
}

func TestInvalidFirstsGiveZero(t *testing.T) {
	expectZeroOfAll(t, firstCalls(), tooGreatNumbers())
	for _, p := range []int{-1000002, -1000001, -1000000, -999999, -1, 0, 1, 999999, 1000000, 1000001, 1000002} {
		for _, c := range firstCalls() {
			got := c.run(p)
			expect(t, fmt.Sprint(c.name, " of ", p), all(got[1]), -1000000 <= p && p <= 1000000)
		}
	}
}

func TestInvalidLucasModuliGiveZero(t *testing.T) {
	expectZeroOfAll(t, lucasModulusCalls(), invalidNumbers())
	for _, m := range []int{-1000000, -2, -1, 0, 1, 2, 999999, 1000000, 1000001, 1000002} {
		for _, c := range lucasModulusCalls() {
			got := c.run(m)
			expect(t, fmt.Sprint(c.name, " by ", m), all(got[len(got)-1]), 1 <= m && m <= 1000000)
		}
	}
}

func TestStrangeNumbersHaveNoLucasValues(t *testing.T) {
	strange := append(strangeNumbers(), -1000000, -1000001, impl.MaxRule)
	for _, p := range strange {
		for _, m := range strange {
			valid := -1000000 <= p && p <= 1000000 && 1 <= m && m <= 1000000
			for _, n := range strange {
				what := fmt.Sprint(p, n, m)
				byRule := all(impl.LucasByRule(p, n, m))
				expect(t, "rule "+what, byRule[1:], valid && 0 <= n && n <= 2000)
				byLadder := all(impl.LucasByLadder(p, n, m))
				expect(t, "ladder "+what, byLadder[1:], valid && 0 <= n && n <= 1000000)
				if byRule[1] == false {
					expectZero(t, "rule "+what, byRule)
				}
				if byLadder[1] == false {
					expectZero(t, "ladder "+what, byLadder)
				}
			}
			_, ok := impl.RunLucas([]int{1, 2}, p, m)
			expect(t, fmt.Sprint("run ", p, m), all(ok), valid)
			pair := all(impl.FibonacciPair(p, m))
			expect(t, fmt.Sprint("pair ", p, m), pair[2:], 0 <= p && valid)
			if pair[2] == false {
				expectZero(t, fmt.Sprint("pair ", p, m), pair)
			}
		}
	}
}

func TestInvalidChainsHaveNoLucasValues(t *testing.T) {
	expectZeroOfAll(t, lucasChainCalls(), invalidChains())
	expectZeroOfAll(t, lucasChainCalls(), map[string][]int{
		"difference not there":          {1, 2, 4, 5},
		"difference not there at last":  {1, 2, 3, 6, 7},
		"difference not there, between": {1, 2, 4, 5, 10},
		"difference behind":             {1, 2, 4, 5, 3},
		"difference and sum behind":     {1, 2, 4, 3, 5},
		"a later difference":            {1, 2, 4, 5, 6, 3},
		"binary":                        chainTo(999),
	})
	for name, list := range invalidChains() {
		expectZero(t, name+" and p", all(impl.RunLucas(list, impl.MaxIndex+1, 100)))
		expectZero(t, name+" and m", all(impl.RunLucas(list, 3, 0)))
	}
}

func TestStrangeListsAreNoLucasChains(t *testing.T) {
	strange := []int{math.MinInt, -1, 0, 1, 2, 3, 4, 5, impl.MaxExponent, impl.MaxExponent + 1, math.MaxInt}
	for length := range 5 {
		for _, indices := range allLists(length, len(strange)) {
			list := make([]int, length)
			for i, at := range indices {
				list[i] = strange[at]
			}
			_, ok := lucasStepsOf(list)
			for _, c := range lucasChainCalls() {
				got := c.run(list)
				if got[len(got)-1] != ok {
					t.Fatalf("%s of %v: %v", c.name, list, got)
				}
				if !ok {
					expectZero(t, fmt.Sprint(c.name, " of ", list), got)
				}
			}
		}
	}
}

func TestInvalidPlansHaveNoDesk(t *testing.T) {
	expectZeroOfAll(t, deskCalls(), invalidPlans())
}

func TestStrangePlansDoNotPanicAtTheDesk(t *testing.T) {
	strange := []int{math.MinInt, -1, 0, 1, 2, 6, 7, 40, 41, math.MaxInt}
	for _, inputs := range strange {
		for _, i := range allLists(3, len(strange)) {
			a, b, o := strange[i[0]], strange[i[1]], strange[i[2]]
			p := plan(inputs, steps(a, b), o)
			valid := impl.IsPlan(p)
			for _, line := range []string{"trim", "share", "turn", "fold", "collapse", "cost", "depth", "powers", "text", "then 1:0*0:1", "binary 3", "fly"} {
				got := all(impl.DeskLine(p, line))
				if got[2] != valid {
					t.Fatalf("%q of %v: %v", line, p, got)
				}
				if !valid {
					expectZero(t, fmt.Sprint(line, " of ", p), got)
				}
			}
		}
	}
}

func TestStrangeTextsDoNotPanic(t *testing.T) {
	p := powerPlan(100)
	for _, text := range []string{"\x00", "\xff", "\xf0\x9f", "\u00e9", "\r", "\r\n", "\n", "\n\n", "plan \n", "together \n", strings.Repeat(" ", 100000), strings.Repeat("\n", 100000), "plan " + strings.Repeat("1", 100000), "plan 1:" + strings.Repeat("0*0,", 100000) + ":0", "together " + strings.Repeat("1,", 100000), "cost" + strings.Repeat(" ", 100000), "binary " + strings.Repeat("0", 100000), "binary " + strings.Repeat("9", 100000)} {
		want := "what"
		if strings.HasPrefix(text, "plan ") {
			want = "no"
		}
		expect(t, fmt.Sprintf("%.20q", text), all(impl.DeskLine(p, text)), p, want, true)
		isScript := strings.HasSuffix(text, "\n") && len(text) < 100000
		for _, c := range scriptCalls() {
			got := c.run(text)
			expect(t, fmt.Sprintf("%s of %.20q", c.name, text), got[1:], isScript)
			if !isScript {
				expectZero(t, fmt.Sprintf("%s of %.20q", c.name, text), got)
			}
		}
	}
	expect(t, "many numbers", all(impl.DeskLine(p, "together 1"+strings.Repeat(",1", 100000))), p, "no", true)
	expect(t, "many targets", all(impl.DeskLine(p, "squares 1"+strings.Repeat(",1", 100000))), p, "no", true)
	for b := range 256 {
		expect(t, fmt.Sprint("byte ", b), all(impl.DeskLine(p, string([]byte{byte(b)}))), p, "what", true)
	}
}

func TestLucasChainsStayAsTheyAre(t *testing.T) {
	samples := append(sampleChains(), nil, []int{}, []int{1, 2, 4, 5}, []int{2, 1}, ladderChainOf(impl.MaxIndex), countTo(impl.MaxChain+1))
	expectNoTrace(t, lucasChainCalls(), samples, roomyList, wholeList)
}

func TestPlansOfTheDeskStayAsTheyAre(t *testing.T) {
	expectNoTrace(t, deskCalls(), append(deskPlans(), plan(0, nil), plan(1, steps(0, 1), 1)), roomy, whole)
}

// TestResultsOfChapter10AreNew overwrites what a call returns and calls again.
func TestResultsOfChapter10AreNew(t *testing.T) {
	for _, c := range ladderCalls() {
		for _, n := range []int{1, 2, 3, 4, 5, 6, 7, 8, 9, 100, 999, 65536, impl.MaxIndex} {
			got := c.run(n)
			text := fmt.Sprint(got)
			overwriteAll(got)
			expect(t, fmt.Sprint(c.name, " of ", n, " once more"), all(fmt.Sprint(c.run(n))), text)
		}
	}
	for _, c := range scriptCalls() {
		for _, script := range []string{"", "\n", "cost\nfly\nbinary 0\n", "binary 15\npowers\n", "plan 2:0*1,2*2:3,0\ntext\nturn\n", "squares 3,2\nturn\n"} {
			got := c.run(script)
			text := fmt.Sprint(got)
			overwriteAll(got)
			expect(t, fmt.Sprintf("%s of %q once more", c.name, script), all(fmt.Sprint(c.run(script))), text)
		}
	}
}
