package tests

import (
	"fmt"
	"math"
	"slices"
	"strings"
	"testing"

	"loop.example/g01098/impl"
)

// inputsFor returns how many inputs a plan takes, also one that takes too many or none, as far as lists can be so long.
func inputsFor(p impl.Plan) int { return min(max(p.Inputs, 0), 50) }

// runCalls has all functions of chapter 6 that are called with a plan.
func runCalls() []call[impl.Plan] {
	return []call[impl.Plan]{
		{"RunResidues", func(p impl.Plan) []any { return all(impl.RunResidues(p, 7, upTo(7)[:min(inputsFor(p), 7)])) }},
		{"RunResidues, equal ones", func(p impl.Plan) []any { return all(impl.RunResidues(p, 2, make([]int, inputsFor(p)))) }},
		{"RunMatrices", func(p impl.Plan) []any {
			return all(impl.RunMatrices(p, 9, slices.Repeat([]impl.Matrix{{A: 1, B: 2, C: 3, D: 4}}, inputsFor(p))))
		}},
		{"RunPermutations", func(p impl.Plan) []any {
			return all(impl.RunPermutations(p, slices.Repeat([][]int{{2, 0, 1}}, inputsFor(p))))
		}},
		{"RunWords", func(p impl.Plan) []any { return all(impl.RunWords(p, make([]string, inputsFor(p)))) }},
		{"WordLengths", func(p impl.Plan) []any { return all(impl.WordLengths(p, make([]int, inputsFor(p)))) }},
	}
}

// modulusCalls has all functions of chapter 6 that are called with a modulus; their residues are less than many invalid ones, too.
func modulusCalls() []call[int] {
	p := plan(2, steps(0, 1), 2)
	var zero impl.Matrix
	return []call[int]{
		{"RunResidues", func(m int) []any { return all(impl.RunResidues(p, m, []int{0, 0})) }},
		{"RunResidues, no outputs", func(m int) []any { return all(impl.RunResidues(plan(1, nil), m, []int{0})) }},
		{"PowersModulo", func(m int) []any { return all(impl.PowersModulo([]int{1, 1}, m, []int{0, 0})) }},
		{"PowersModulo, 0", func(m int) []any { return all(impl.PowersModulo([]int{0}, m, []int{0})) }},
		{"OrderModulo, 0", func(m int) []any { return all(impl.OrderModulo(0, m)) }},
		{"OrderModulo, 1", func(m int) []any { return all(impl.OrderModulo(1, m)) }},
		{"MatrixProduct", func(m int) []any { return all(impl.MatrixProduct(zero, zero, m)) }},
		{"MatrixPower", func(m int) []any { return all(impl.MatrixPower(zero, 2, m)) }},
		{"MatrixPower, 0", func(m int) []any { return all(impl.MatrixPower(zero, 0, m)) }},
		{"RunMatrices", func(m int) []any { return all(impl.RunMatrices(p, m, []impl.Matrix{zero, zero})) }},
		{"RunMatrices, no outputs", func(m int) []any { return all(impl.RunMatrices(plan(1, nil), m, []impl.Matrix{zero})) }},
	}
}

func invalidModuli() map[string]int {
	return map[string]int{
		"1":              1,
		"0":              0,
		"-1":             -1,
		"-2":             -2,
		"-MaxModulus":    -impl.MaxModulus,
		"MaxModulus + 1": impl.MaxModulus + 1,
		"MaxModulus + 2": impl.MaxModulus + 2,
		"MaxExponent":    impl.MaxExponent,
		"2^32":           1 << 32,
		"2^32 + 2":       1<<32 + 2,
		"least":          math.MinInt,
		"greatest":       math.MaxInt,
	}
}

// residueCalls has all functions of chapter 6 that are called with a residue by 7, in each place where one stands.
func residueCalls() []call[int] {
	p := plan(2, steps(0, 1), 2)
	calls := []call[int]{
		{"RunResidues, first", func(x int) []any { return all(impl.RunResidues(p, 7, []int{x, 1})) }},
		{"RunResidues, last", func(x int) []any { return all(impl.RunResidues(p, 7, []int{1, x})) }},
		{"RunResidues, not needed", func(x int) []any { return all(impl.RunResidues(plan(2, nil, 0), 7, []int{1, x})) }},
		{"RunResidues, no outputs", func(x int) []any { return all(impl.RunResidues(plan(1, nil), 7, []int{x})) }},
		{"PowersModulo, first", func(x int) []any { return all(impl.PowersModulo([]int{1, 1}, 7, []int{x, 1})) }},
		{"PowersModulo, last", func(x int) []any { return all(impl.PowersModulo([]int{1, 1}, 7, []int{1, x})) }},
		{"PowersModulo, 0", func(x int) []any { return all(impl.PowersModulo([]int{0}, 7, []int{x})) }},
		{"PowersModulo, behind 0", func(x int) []any { return all(impl.PowersModulo([]int{1, 1}, 7, []int{0, x})) }},
		{"OrderModulo", func(x int) []any { return all(impl.OrderModulo(x, 7)) }},
	}
	ones := impl.Matrix{A: 1, B: 1, C: 1, D: 1}
	for i, name := range []string{"A", "B", "C", "D"} {
		with := func(x int) impl.Matrix {
			n := []int{1, 1, 1, 1}
			n[i] = x
			return impl.Matrix{A: n[0], B: n[1], C: n[2], D: n[3]}
		}
		calls = append(calls, []call[int]{
			{"MatrixProduct, first, " + name, func(x int) []any { return all(impl.MatrixProduct(with(x), ones, 7)) }},
			{"MatrixProduct, second, " + name, func(x int) []any { return all(impl.MatrixProduct(ones, with(x), 7)) }},
			{"MatrixPower, 0, " + name, func(x int) []any { return all(impl.MatrixPower(with(x), 0, 7)) }},
			{"MatrixPower, 1, " + name, func(x int) []any { return all(impl.MatrixPower(with(x), 1, 7)) }},
			{"RunMatrices, first, " + name, func(x int) []any { return all(impl.RunMatrices(p, 7, []impl.Matrix{with(x), ones})) }},
			{"RunMatrices, last, " + name, func(x int) []any { return all(impl.RunMatrices(p, 7, []impl.Matrix{ones, with(x)})) }},
			{"RunMatrices, no outputs, " + name, func(x int) []any { return all(impl.RunMatrices(plan(1, nil), 7, []impl.Matrix{with(x)})) }},
		}...)
	}
	return calls
}

// exponentCalls has all functions of chapter 6 that are called with an exponent.
func exponentCalls() []call[int] {
	return []call[int]{
		{"PowersModulo", func(e int) []any { return all(impl.PowersModulo([]int{e}, 7, []int{3})) }},
		{"PowersModulo, first", func(e int) []any { return all(impl.PowersModulo([]int{e, 1}, 7, []int{3, 4})) }},
		{"PowersModulo, last", func(e int) []any { return all(impl.PowersModulo([]int{1, e}, 7, []int{3, 4})) }},
		{"PowersModulo, of 0", func(e int) []any { return all(impl.PowersModulo([]int{1, e}, 7, []int{0, 0})) }},
		{"PowersModulo, of 1", func(e int) []any { return all(impl.PowersModulo([]int{1, e}, 2, []int{1, 1})) }},
		{"MatrixPower", func(e int) []any { return all(impl.MatrixPower(impl.Matrix{A: 1, B: 1, C: 1}, e, 7)) }},
		{"PermutationPower", func(e int) []any { return all(impl.PermutationPower([]int{1, 2, 0}, e)) }},
		{"PermutationPower, one point", func(e int) []any { return all(impl.PermutationPower([]int{0}, e)) }},
	}
}

// permutationCalls has all functions of chapter 6 that are called with a permutation; beside it stand others with as many points, where there are such ones.
func permutationCalls() []call[[]int] {
	like := func(a []int) []int { return upTo(min(len(a), impl.MaxPoints+1)) }
	p := plan(2, steps(0, 1), 2)
	return []call[[]int]{
		{"IsPermutation", func(a []int) []any { return all(impl.IsPermutation(a)) }},
		{"ThenPermutation, first", func(a []int) []any { return all(impl.ThenPermutation(a, like(a))) }},
		{"ThenPermutation, second", func(a []int) []any { return all(impl.ThenPermutation(like(a), a)) }},
		{"ThenPermutation, both", func(a []int) []any { return all(impl.ThenPermutation(a, a)) }},
		{"PermutationPower, 0", func(a []int) []any { return all(impl.PermutationPower(a, 0)) }},
		{"PermutationPower, 1", func(a []int) []any { return all(impl.PermutationPower(a, 1)) }},
		{"PermutationPower, 6", func(a []int) []any { return all(impl.PermutationPower(a, 6)) }},
		{"PermutationOrder", func(a []int) []any { return all(impl.PermutationOrder(a)) }},
		{"DoCommute, alone", func(a []int) []any { return all(impl.DoCommute([][]int{a})) }},
		{"DoCommute, first", func(a []int) []any { return all(impl.DoCommute([][]int{a, like(a)})) }},
		{"DoCommute, last", func(a []int) []any { return all(impl.DoCommute([][]int{like(a), like(a), a})) }},
		{"RunPermutations, first", func(a []int) []any { return all(impl.RunPermutations(p, [][]int{a, like(a)})) }},
		{"RunPermutations, last", func(a []int) []any { return all(impl.RunPermutations(p, [][]int{like(a), a})) }},
		{"RunPermutations, both", func(a []int) []any { return all(impl.RunPermutations(p, [][]int{a, a})) }},
		{"RunPermutations, an input", func(a []int) []any { return all(impl.RunPermutations(plan(1, nil, 0, 0), [][]int{a})) }},
		{"RunPermutations, no outputs", func(a []int) []any { return all(impl.RunPermutations(plan(1, nil), [][]int{a})) }},
	}
}

func invalidPermutations() map[string][]int {
	return map[string][]int{
		"no points":               {},
		"nil":                     nil,
		"one point, 1":            {1},
		"one point, -1":           {-1},
		"twice 0":                 {0, 0},
		"twice 1":                 {1, 1},
		"from 1 on":               {1, 2},
		"without 1":               {0, 2},
		"twice, between":          {0, 1, 1, 3},
		"negative":                {0, -1, 1},
		"their number":            {0, 1, 2, 4},
		"least":                   {0, math.MinInt},
		"greatest":                {math.MaxInt, 0},
		"MaxPoints, the last one": {0, 1, 2, 3, 4, 5, 6, 8},
		"MaxPoints, twice":        {0, 1, 2, 3, 4, 5, 6, 0},
		"MaxPoints + 1":           upTo(impl.MaxPoints + 1),
		"MaxPoints + 1, round":    roundOf(impl.MaxPoints + 1),
		"very many":               upTo(1000000),
	}
}

// lengthOfWordCalls has WordLengths with a length in each place.
func lengthOfWordCalls() []call[int] {
	return []call[int]{
		{"WordLengths", func(n int) []any { return all(impl.WordLengths(plan(1, nil, 0), []int{n})) }},
		{"WordLengths, first", func(n int) []any { return all(impl.WordLengths(plan(2, steps(0, 1), 2), []int{n, 1})) }},
		{"WordLengths, last", func(n int) []any { return all(impl.WordLengths(plan(2, steps(0, 1), 2), []int{1, n})) }},
		{"WordLengths, not needed", func(n int) []any { return all(impl.WordLengths(plan(2, nil, 0), []int{1, n})) }},
		{"WordLengths, no outputs", func(n int) []any { return all(impl.WordLengths(plan(1, nil), []int{n})) }},
		{"WordLengths, as much less", func(n int) []any { return all(impl.WordLengths(plan(2, steps(0, 1), 2), []int{n, -n})) }},
	}
}

func TestInvalidPlansDoNotRun(t *testing.T) {
	expectZeroOfAll(t, runCalls(), invalidPlans())
}

func TestInvalidModuliGiveZero(t *testing.T) {
	expectZeroOfAll(t, modulusCalls(), invalidModuli())
}

func TestInvalidResiduesGiveZero(t *testing.T) {
	expectZeroOfAll(t, residueCalls(), map[string]int{
		"m":            7,
		"m + 1":        8,
		"2 m":          14,
		"-1":           -1,
		"-m":           -7,
		"1 - m":        -6,
		"MaxModulus":   impl.MaxModulus,
		"2^32":         1 << 32,
		"2^32 + 1":     1<<32 + 1,
		"least":        math.MinInt,
		"greatest":     math.MaxInt,
		"greatest - 1": math.MaxInt - 1,
	})
	for _, m := range []int{2, 3, impl.MaxModulus - 1, impl.MaxModulus} {
		for x, ok := range map[int]bool{-1: false, 0: true, m - 1: true, m: false} {
			what := fmt.Sprint(x, " modulo ", m)
			_, run := impl.RunResidues(plan(1, nil, 0), m, []int{x})
			_, powers := impl.PowersModulo([]int{2}, m, []int{x})
			_, product := impl.MatrixProduct(impl.Matrix{}, impl.Matrix{D: x}, m)
			_, power := impl.MatrixPower(impl.Matrix{B: x}, 2, m)
			_, matrices := impl.RunMatrices(plan(1, nil, 0), m, []impl.Matrix{{C: x}})
			expect(t, what, all(run, powers, product, power, matrices), ok, ok, ok, ok, ok)
		}
	}
}

func TestInvalidExponentsGiveZero(t *testing.T) {
	expectZeroOfAll(t, exponentCalls(), map[string]int{
		"-1":              -1,
		"-2":              -2,
		"-MaxExponent":    -impl.MaxExponent,
		"MaxExponent + 1": impl.MaxExponent + 1,
		"MaxExponent + 2": impl.MaxExponent + 2,
		"2^32":            1 << 32,
		"least":           math.MinInt,
		"greatest":        math.MaxInt,
	})
	for _, c := range exponentCalls() {
		for _, e := range []int{0, 1, 2, impl.MaxExponent - 1, impl.MaxExponent} {
			expect(t, fmt.Sprint(c.name, " of ", e), c.run(e)[1:], true)
		}
	}
}

func TestInvalidPermutationsGiveZero(t *testing.T) {
	expectZeroOfAll(t, permutationCalls(), invalidPermutations())
}

func TestInvalidLengthsOfWordsGiveZero(t *testing.T) {
	expectZeroOfAll(t, lengthOfWordCalls(), map[string]int{
		"-1":          -1,
		"-MaxText":    -impl.MaxText,
		"MaxText + 1": impl.MaxText + 1,
		"MaxText + 2": impl.MaxText + 2,
		"2^32":        1 << 32,
		"least":       math.MinInt,
		"greatest":    math.MaxInt,
	})
}

func TestPlansThatRunStayAsTheyAre(t *testing.T) {
	expectNoTrace(t, runCalls(), append(samplePlans(), turnablePlans()...), roomy, whole)
}

func TestPermutationsStayAsTheyAre(t *testing.T) {
	samples := append(permutationsOf(3), nil, []int{0}, []int{1}, []int{1, 0, 0}, roundOf(8), []int{1, 2, 0, 4, 5, 6, 7, 3}, upTo(9))
	expectNoTrace(t, permutationCalls(), samples, roomyList, wholeList)
}

func TestListsOfPermutationsStayAsTheyAre(t *testing.T) {
	calls := []call[[][]int]{
		{"DoCommute", func(list [][]int) []any { return all(impl.DoCommute(list)) }},
		{"RunPermutations, one", func(list [][]int) []any { return all(impl.RunPermutations(plan(1, steps(0, 0), 1, 0, 1, 0), list)) }},
		{"RunPermutations, two", func(list [][]int) []any { return all(impl.RunPermutations(plan(2, steps(0, 1), 2, 1, 0, 2), list)) }},
		{"RunPermutations, inputs", func(list [][]int) []any { return all(impl.RunPermutations(plan(2, nil, 1, 0), list)) }},
		{"RunPermutations, no outputs", func(list [][]int) []any { return all(impl.RunPermutations(plan(2, nil), list)) }},
	}
	samples := [][][]int{nil, {{0}}, {{1, 2, 0}}, {{1, 2, 0}, {1, 0, 2}}, {{0, 1}, {0, 1}}, {{0, 1}, {0}}, {{1}, {0}}, slices.Repeat([][]int{{1, 0}}, 6), slices.Repeat([][]int{{1, 0}}, 7)}
	expectNoTrace(t, calls, samples, roomyRows, wholeRows)
}

func TestListsOfNumbersThatRunStayAsTheyAre(t *testing.T) {
	calls := []call[[]int]{
		{"RunResidues, one", func(list []int) []any { return all(impl.RunResidues(plan(1, steps(0, 0), 1, 0), 7, list)) }},
		{"RunResidues, two", func(list []int) []any { return all(impl.RunResidues(plan(2, steps(0, 1), 2, 1), 7, list)) }},
		{"RunResidues, inputs", func(list []int) []any { return all(impl.RunResidues(plan(2, nil, 0, 1), 7, list)) }},
		{"PowersModulo, exponents", func(list []int) []any { return all(impl.PowersModulo(list, 7, slices.Repeat([]int{3}, len(list)))) }},
		{"PowersModulo, residues", func(list []int) []any { return all(impl.PowersModulo(slices.Repeat([]int{3}, len(list)), 7, list)) }},
		{"PowersModulo, both", func(list []int) []any { return all(impl.PowersModulo(list, 7, list)) }},
		{"WordLengths, one", func(list []int) []any { return all(impl.WordLengths(plan(1, steps(0, 0), 1, 0), list)) }},
		{"WordLengths, two", func(list []int) []any { return all(impl.WordLengths(plan(2, steps(0, 1), 2, 1), list)) }},
		{"WordLengths, inputs", func(list []int) []any { return all(impl.WordLengths(plan(2, nil, 0, 1), list)) }},
	}
	samples := [][]int{nil, {0}, {6}, {7}, {-1}, {2, 3}, {0, 0}, {6, 7}, {2000, 0}, {1, 2, 3}, {1, 2, 3, 4, 5, 6}, {1, 2, 3, 4, 5, 6, 0}}
	expectNoTrace(t, calls, samples, roomyList, wholeList)
}

func TestListsOfMatricesStayAsTheyAre(t *testing.T) {
	calls := []call[[]impl.Matrix]{
		{"RunMatrices, one", func(list []impl.Matrix) []any { return all(impl.RunMatrices(plan(1, steps(0, 0), 1, 0), 7, list)) }},
		{"RunMatrices, two", func(list []impl.Matrix) []any { return all(impl.RunMatrices(plan(2, steps(0, 1), 2, 1), 7, list)) }},
		{"RunMatrices, inputs", func(list []impl.Matrix) []any { return all(impl.RunMatrices(plan(2, nil, 0, 1), 7, list)) }},
	}
	a, b := impl.Matrix{A: 1, B: 2, C: 3, D: 4}, impl.Matrix{A: 6, D: 6}
	room := func(list []impl.Matrix) []impl.Matrix {
		copied := append(append([]impl.Matrix{}, list...), a, b, a)
		return copied[:len(list)]
	}
	whole := func(list []impl.Matrix) string { return fmt.Sprint(len(list), list[:cap(list)]) }
	expectNoTrace(t, calls, [][]impl.Matrix{nil, {a}, {b}, {a, b}, {b, a}, {a, {A: 7}}, {a, a, a}}, room, whole)
}

func TestListsOfWordsStayAsTheyAre(t *testing.T) {
	calls := []call[[]string]{
		{"RunWords, one", func(list []string) []any { return all(impl.RunWords(plan(1, steps(0, 0), 1, 0), list)) }},
		{"RunWords, two", func(list []string) []any { return all(impl.RunWords(plan(2, steps(0, 1), 2, 1), list)) }},
		{"RunWords, inputs", func(list []string) []any { return all(impl.RunWords(plan(2, nil, 0, 1), list)) }},
	}
	room := func(list []string) []string {
		copied := append(append([]string{}, list...), "x", "", "y")
		return copied[:len(list)]
	}
	whole := func(list []string) string { return fmt.Sprintf("%d %q", len(list), list[:cap(list)]) }
	long := strings.Repeat("a", impl.MaxText)
	expectNoTrace(t, calls, [][]string{nil, {""}, {"a"}, {"a", "b"}, {"", "\xff"}, {long}, {long, ""}, {long + "a", ""}, {"a", "b", "c"}}, room, whole)
}

func TestPermutationsOfOneRunAreApart(t *testing.T) {
	inputs := [][]int{{1, 2, 0}, {1, 0, 2}}
	outputs, ok := impl.RunPermutations(plan(2, steps(0, 1), 2, 0, 2, 1, 1, 0), inputs)
	if !ok || len(outputs) != 6 {
		t.Fatal("outputs", outputs)
	}
	for i := range outputs {
		others := fmt.Sprint(outputs[:i], outputs[i+1:], inputs)
		overwriteAll(all(outputs[i]))
		if fmt.Sprint(outputs[:i], outputs[i+1:], inputs) != others {
			t.Fatalf("the output %d shares memory with others", i)
		}
	}
	// One list may stand for several inputs.
	a := []int{1, 2, 0}
	outputs, ok = impl.RunPermutations(plan(2, nil, 0, 1), [][]int{a, a})
	overwriteAll(all(outputs[0]))
	expect(t, "one list twice", all(outputs[1], a, ok), a, []int{1, 2, 0}, true)
}

func strangeNumbers() []int {
	return []int{math.MinInt, math.MinInt + 1, -1, 0, 1, 2, 3, 7, impl.MaxText, impl.MaxText + 1, impl.MaxModulus, impl.MaxModulus + 1, impl.MaxExponent, impl.MaxExponent + 1, math.MaxInt - 1, math.MaxInt}
}

func isModulus(m int) bool { return 2 <= m && m <= impl.MaxModulus }

func isResidue(x int, m int) bool { return isModulus(m) && 0 <= x && x < m }

func isPower(e int) bool { return 0 <= e && e <= impl.MaxExponent }

func TestStrangeNumbersDoNotRun(t *testing.T) {
	for _, x := range strangeNumbers() {
		for _, m := range strangeNumbers() {
			what := fmt.Sprint(x, " modulo ", m)
			_, run := impl.RunResidues(plan(1, steps(0, 0), 1), m, []int{x})
			_, order := impl.OrderModulo(x, m)
			_, product := impl.MatrixProduct(impl.Matrix{A: x, B: x, C: x, D: x}, impl.Matrix{A: x, B: x, C: x, D: x}, m)
			_, matrices := impl.RunMatrices(plan(1, steps(0, 0), 1), m, []impl.Matrix{{A: x, B: x, C: x, D: x}})
			expect(t, what, all(run, product, matrices), slices.Repeat([]any{isResidue(x, m)}, 3)...)
			if order && !isResidue(x, m) {
				t.Errorf("order of %s", what)
			}
			for _, e := range strangeNumbers() {
				ok := isResidue(x, m) && isPower(e)
				_, powers := impl.PowersModulo([]int{e}, m, []int{x})
				_, power := impl.MatrixPower(impl.Matrix{A: x, B: x, C: x, D: x}, e, m)
				expect(t, fmt.Sprint("power ", e, " of ", what), all(powers, power), ok, ok)
			}
		}
		_, power := impl.PermutationPower([]int{1, 0}, x)
		expect(t, fmt.Sprint("power ", x, " of a permutation"), all(power), isPower(x))
	}
}

func TestStrangeListsDoNotRun(t *testing.T) {
	numbers := strangeNumbers()
	for length := range 4 {
		for _, indices := range allLists(length, len(numbers)) {
			var list []int
			for _, at := range indices {
				list = append(list, numbers[at])
			}
			for _, c := range permutationCalls() {
				if got := c.run(list); !isPermutation(list) {
					expectZero(t, fmt.Sprint(c.name, " of ", list), got)
				}
			}
			if length != 2 {
				continue
			}
			a, b := list[0], list[1]
			_, ok := impl.WordLengths(plan(2, steps(0, 1), 2), list)
			expect(t, fmt.Sprint("lengths ", list), all(ok), 0 <= a && a <= 2000 && 0 <= b && b <= 2000 && a+b <= 2000)
		}
	}
}
