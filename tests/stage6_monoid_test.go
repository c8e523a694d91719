package tests

import (
	"fmt"
	"math/big"
	"slices"
	"strings"
	"testing"

	"loop.example/g01098/impl"
)

// byLetters multiplies the inputs whose letters a word has, from left to right.
func byLetters[V any](word string, inputs []V, times func(V, V) V) V {
	product := inputs[word[0]-'a']
	for _, letter := range word[1:] {
		product = times(product, inputs[letter-'a'])
	}
	return product
}

// outputsByLetters is for plans with short words only.
func outputsByLetters[V any](p impl.Plan, inputs []V, times func(V, V) V) []V {
	words := wordsOf(p)
	var outputs []V
	for _, o := range p.Outputs {
		outputs = append(outputs, byLetters(words[o], inputs, times))
	}
	return outputs
}

// outputsBySteps follows the definition for plans of all sizes.
func outputsBySteps[V any](p impl.Plan, inputs []V, times func(V, V) V) []V {
	list := append([]V{}, inputs...)
	for _, s := range p.Steps {
		list = append(list, times(list[s.A], list[s.B]))
	}
	var outputs []V
	for _, o := range p.Outputs {
		outputs = append(outputs, list[o])
	}
	return outputs
}

func timesModulo(m int) func(int, int) int {
	return func(a int, b int) int {
		rest := new(big.Int).Mul(big.NewInt(int64(a)), big.NewInt(int64(b)))
		return int(rest.Mod(rest, big.NewInt(int64(m))).Int64())
	}
}

// bigPower knows that the power 0 of 0 is 1, too.
func bigPower(x int, e int, m int) int {
	return int(new(big.Int).Exp(big.NewInt(int64(x)), big.NewInt(int64(e)), big.NewInt(int64(m))).Int64())
}

// cells has the rows of a matrix.
func cells(a impl.Matrix) [2][2]int { return [2][2]int{{a.A, a.B}, {a.C, a.D}} }

func matrixTimes(m int) func(impl.Matrix, impl.Matrix) impl.Matrix {
	return func(a impl.Matrix, b impl.Matrix) impl.Matrix {
		var c [2][2]int
		for i := range 2 {
			for j := range 2 {
				for k := range 2 {
					c[i][j] = (c[i][j] + cells(a)[i][k]*cells(b)[k][j]) % m
				}
			}
		}
		return impl.Matrix{A: c[0][0], B: c[0][1], C: c[1][0], D: c[1][1]}
	}
}

// permutationTimes follows each point.
func permutationTimes(a []int, b []int) []int {
	product := make([]int, len(a))
	for i := range a {
		led := a[i]
		product[i] = b[led]
	}
	return product
}

func wordTimes(a string, b string) string { return a + b }

func mixedResidues(m *mixer, count int, modulus int) []int {
	var list []int
	for range count {
		list = append(list, m.below(modulus))
	}
	return list
}

func mixedMatrices(m *mixer, count int, modulus int) []impl.Matrix {
	var list []impl.Matrix
	for range count {
		list = append(list, impl.Matrix{A: m.below(modulus), B: m.below(modulus), C: m.below(modulus), D: m.below(modulus)})
	}
	return list
}

func mixedPermutation(m *mixer, points int) []int {
	list := upTo(points)
	for i := range list {
		j := m.below(i + 1)
		list[i], list[j] = list[j], list[i]
	}
	return list
}

func mixedPermutations(m *mixer, count int, points int) [][]int {
	var list [][]int
	for range count {
		list = append(list, mixedPermutation(m, points))
	}
	return list
}

func mixedWords(m *mixer, count int, longest int) []string {
	var list []string
	for range count {
		var word []byte
		for range m.below(longest + 1) {
			word = append(word, byte(m.below(256)))
		}
		list = append(list, string(word))
	}
	return list
}

func mixedModulus(m *mixer) int { return 2 + m.below(impl.MaxModulus-1) }

// permutationsOf returns all permutations of so many points.
func permutationsOf(points int) [][]int {
	if points == 0 {
		return [][]int{{}}
	}
	var list [][]int
	for _, before := range permutationsOf(points - 1) {
		for at := range points {
			list = append(list, slices.Insert(slices.Clone(before), at, points-1))
		}
	}
	return list
}

func TestExampleOfChapter6(t *testing.T) {
	p, ok := impl.ParsePlan("2:0*1,2*2:3")
	words, fine := impl.RunWords(p, []string{"a", "b"})
	expect(t, "words", all(words, ok, fine), []string{"abab"}, true, true)
	expect(t, "residues", all(impl.RunResidues(p, 5, []int{2, 3})), []int{1}, true)
}

// TestRunsOfSmallPlans has inputs whose products depend on the order of the factors.
func TestRunsOfSmallPlans(t *testing.T) {
	matrices := []impl.Matrix{{A: 1, B: 1, D: 1}, {A: 1, C: 1, D: 1}}
	permutations := [][]int{{1, 2, 0, 3}, {1, 0, 3, 2}}
	for _, p := range smallPlans(2, 3, 2) {
		what := fmt.Sprint(" of ", p)
		words := []string{"a", "b"}[:p.Inputs]
		expect(t, "words"+what, all(impl.RunWords(p, words)), outputsByLetters(p, words, wordTimes), true)
		expect(t, "matrices"+what, all(impl.RunMatrices(p, 100, matrices[:p.Inputs])), outputsByLetters(p, matrices[:p.Inputs], matrixTimes(100)), true)
		expect(t, "permutations"+what, all(impl.RunPermutations(p, permutations[:p.Inputs])), outputsByLetters(p, permutations[:p.Inputs], permutationTimes), true)
		for _, m := range []int{2, 6, 7, impl.MaxModulus} {
			for _, residues := range [][]int{{0, 0}, {1, 0}, {0, m - 1}, {m - 1, m - 1}, {m / 2, m - 1}} {
				expect(t, fmt.Sprint("residues", residues, what), all(impl.RunResidues(p, m, residues[:p.Inputs])), outputsByLetters(p, residues[:p.Inputs], timesModulo(m)), true)
			}
		}
	}
}

func TestRunsOfMixedPlans(t *testing.T) {
	m := &mixer{6}
	for range 3000 {
		p := mixedPlan(m, false)
		what := fmt.Sprint(" of ", p)
		modulus := mixedModulus(m)
		residues := mixedResidues(m, p.Inputs, modulus)
		expect(t, "residues"+what, all(impl.RunResidues(p, modulus, residues)), outputsBySteps(p, residues, timesModulo(modulus)), true)
		matrices := mixedMatrices(m, p.Inputs, modulus)
		expect(t, "matrices"+what, all(impl.RunMatrices(p, modulus, matrices)), outputsBySteps(p, matrices, matrixTimes(modulus)), true)
		permutations := mixedPermutations(m, p.Inputs, 1+m.below(impl.MaxPoints))
		expect(t, "permutations"+what, all(impl.RunPermutations(p, permutations)), outputsBySteps(p, permutations, permutationTimes), true)
	}
}

// greatestLength adds up the lengths of all values.
func greatestLength(p impl.Plan, lengths []int) int {
	list := slices.Clone(lengths)
	for _, s := range p.Steps {
		list = append(list, list[s.A]+list[s.B])
	}
	return slices.Max(list)
}

func TestWordsAndLengthsOfMixedPlans(t *testing.T) {
	m := &mixer{7}
	run, failed := 0, 0
	for range 6000 {
		p := mixedPlan(m, false)
		what := fmt.Sprint(" of ", p)
		words := mixedWords(m, p.Inputs, m.below(300))
		var lengths []int
		for _, word := range words {
			lengths = append(lengths, len(word))
		}
		if greatestLength(p, lengths) > impl.MaxText {
			failed++
			expectZero(t, "words"+what, all(impl.RunWords(p, words)))
			expectZero(t, "lengths"+what, all(impl.WordLengths(p, lengths)))
			continue
		}
		run++
		want := outputsBySteps(p, words, wordTimes)
		expect(t, "words"+what, all(impl.RunWords(p, words)), want, true)
		var counts []int
		for _, word := range want {
			counts = append(counts, len(word))
		}
		expect(t, "lengths"+what, all(impl.WordLengths(p, lengths)), counts, true)
	}
	if run < 1000 || failed < 1000 {
		t.Errorf("%d run and %d do not", run, failed)
	}
}

// TestRunsGiveThePowersOfExponents says the promise itself.
func TestRunsGiveThePowersOfExponents(t *testing.T) {
	m := &mixer{8}
	for range 2000 {
		p := mixedPlan(m, false)
		what := fmt.Sprint(" of ", p)
		rows, ok := impl.OutputExponents(p)
		modulus := mixedModulus(m)
		residues := mixedResidues(m, p.Inputs, modulus)
		lengths := mixedResidues(m, p.Inputs, 50)
		var powers, counts []int
		for _, row := range rows {
			product, fine := impl.PowersModulo(row, modulus, residues)
			ok = ok && fine
			powers = append(powers, product)
			counts = append(counts, timesRow(row, lengths))
		}
		expect(t, "residues"+what, all(impl.RunResidues(p, modulus, residues)), powers, ok)
		if got, fine := impl.WordLengths(p, lengths); fine {
			expect(t, "lengths"+what, all(got, ok), counts, true)
		}
	}
}

func timesRow(row []int, list []int) int {
	sum := 0
	for i, e := range row {
		sum += e * list[i]
	}
	return sum
}

func TestRunsOfOneInputGivePowers(t *testing.T) {
	m := &mixer{9}
	for range 3000 {
		p := mixedPlan(m, false)
		p, ok := impl.CollapseInputs(p)
		if !ok {
			continue
		}
		what := fmt.Sprint(" of ", p)
		modulus := mixedModulus(m)
		a := mixedMatrices(m, 1, modulus)
		b := mixedPermutations(m, 1, 1+m.below(impl.MaxPoints))
		var matrices []impl.Matrix
		var permutations [][]int
		rows, _ := impl.OutputExponents(p)
		for _, row := range rows {
			matrix, fine := impl.MatrixPower(a[0], row[0], modulus)
			permutation, right := impl.PermutationPower(b[0], row[0])
			ok = ok && fine && right
			matrices = append(matrices, matrix)
			permutations = append(permutations, permutation)
		}
		expect(t, "matrices"+what, all(impl.RunMatrices(p, modulus, a)), matrices, ok)
		expect(t, "permutations"+what, all(impl.RunPermutations(p, b)), permutations, ok)
	}
}

// TestRunsOfCommutingPermutations has inputs that are powers of the same one, and for them the product of powers in any order.
func TestRunsOfCommutingPermutations(t *testing.T) {
	m := &mixer{10}
	for range 1000 {
		p := mixedPlan(m, false)
		base := mixedPermutation(m, 1+m.below(impl.MaxPoints))
		var inputs [][]int
		for range p.Inputs {
			inputs = append(inputs, movedBy(base, m.below(20)))
		}
		expect(t, fmt.Sprint("commuting ", inputs), all(impl.DoCommute(inputs)), true, true)
		rows, ok := impl.OutputExponents(p)
		var want [][]int
		for _, row := range rows {
			product := upTo(len(base))
			for i, e := range slices.Backward(row) {
				power, fine := impl.PermutationPower(inputs[i], e)
				ok = ok && fine
				product = permutationTimes(product, power)
			}
			want = append(want, product)
		}
		expect(t, fmt.Sprint("permutations of ", p), all(impl.RunPermutations(p, inputs)), want, ok)
	}
}

func TestPlansWithoutStepsOrOutputsRun(t *testing.T) {
	for inputs := 1; inputs <= impl.MaxInputs; inputs++ {
		for _, list := range [][]impl.Step{nil, steps(0, 0), steps(0, inputs-1, 0, inputs)} {
			p := plan(inputs, list)
			what := fmt.Sprint(" of ", p)
			expect(t, "residues"+what, all(impl.RunResidues(p, 2, make([]int, inputs))), []int{}, true)
			expect(t, "matrices"+what, all(impl.RunMatrices(p, 2, make([]impl.Matrix, inputs))), []int{}, true)
			expect(t, "permutations"+what, all(impl.RunPermutations(p, slices.Repeat([][]int{{1, 0}}, inputs))), []int{}, true)
			expect(t, "words"+what, all(impl.RunWords(p, make([]string, inputs))), []string{}, true)
			expect(t, "lengths"+what, all(impl.WordLengths(p, make([]int, inputs))), []int{}, true)
		}
	}
	p := plan(2, nil, 1, 0, 1)
	expect(t, "inputs, residues", all(impl.RunResidues(p, 7, []int{3, 6})), []int{6, 3, 6}, true)
	expect(t, "inputs, matrices", all(impl.RunMatrices(p, 7, []impl.Matrix{{A: 1}, {D: 6}})), []impl.Matrix{{D: 6}, {A: 1}, {D: 6}}, true)
	expect(t, "inputs, permutations", all(impl.RunPermutations(p, [][]int{{0, 1}, {1, 0}})), [][]int{{1, 0}, {0, 1}, {1, 0}}, true)
	expect(t, "inputs, words", all(impl.RunWords(p, []string{"", "ab"})), []string{"ab", "", "ab"}, true)
	expect(t, "inputs, lengths", all(impl.WordLengths(p, []int{0, 2})), []int{2, 0, 2}, true)
	twice := plan(2, steps(0, 1, 1, 2), 3, 2, 0, 3, 2, 3)
	expect(t, "twice, words", all(impl.RunWords(twice, []string{"a", "b"})), []string{"bab", "ab", "a", "bab", "ab", "bab"}, true)
	expect(t, "twice, residues", all(impl.RunResidues(twice, 10, []int{3, 4})), []int{8, 2, 3, 8, 2, 8}, true)
}

// TestPlansWithOtherNumbersOfInputsDoNotRun has fewer inputs than the plan has, more, and just as many.
func TestPlansWithOtherNumbersOfInputsDoNotRun(t *testing.T) {
	for inputs := 1; inputs <= impl.MaxInputs; inputs++ {
		for count := range impl.MaxInputs + 2 {
			for _, p := range []impl.Plan{plan(inputs, nil), plan(inputs, nil, 0), plan(inputs, steps(0, 0), inputs)} {
				residues, ok := impl.RunResidues(p, 3, make([]int, count))
				matrices, fine := impl.RunMatrices(p, 3, make([]impl.Matrix, count))
				permutations, right := impl.RunPermutations(p, slices.Repeat([][]int{{0}}, count))
				words, well := impl.RunWords(p, make([]string, count))
				lengths, good := impl.WordLengths(p, make([]int, count))
				want := 0
				if count == inputs {
					want = len(p.Outputs)
				}
				what := fmt.Sprint(count, " inputs of ", p)
				expect(t, what, all(ok, fine, right, well, good), slices.Repeat([]any{count == inputs}, 5)...)
				expect(t, what+", results", all(len(residues), len(matrices), len(permutations), len(words), len(lengths)), slices.Repeat([]any{want}, 5)...)
			}
		}
	}
	many := make([]int, 1000000)
	expectZero(t, "very many residues", all(impl.RunResidues(plan(6, nil, 0), 3, many)))
	expectZero(t, "very many lengths", all(impl.WordLengths(plan(6, nil, 0), many)))
}

func TestRunsAtTheLimits(t *testing.T) {
	full := squarings(impl.MaxSteps)
	greatest := powerPlan(impl.MaxExponent)
	most := plan(6, steps(0, 1, 2, 6, 3, 7, 4, 8, 5, 9), 10, 5, 10, 9, 0, 10)
	for _, m := range []int{2, 3, impl.MaxModulus - 1, impl.MaxModulus} {
		what := fmt.Sprint(" modulo ", m)
		square := timesModulo(m)(m-1, m-1)
		expect(t, "MaxSteps"+what, all(impl.RunResidues(full, m, []int{m - 1})), []int{square}, true)
		expect(t, "MaxExponent"+what, all(impl.RunResidues(greatest, m, []int{m - 1})), []int{bigPower(m-1, impl.MaxExponent, m)}, true)
		expect(t, "MaxInputs"+what, all(impl.RunResidues(most, m, slices.Repeat([]int{m - 1}, 6))), outputsByLetters(most, slices.Repeat([]int{m - 1}, 6), timesModulo(m)), true)
		a := impl.Matrix{A: m - 1, B: m - 1, C: m - 1, D: m - 1}
		expect(t, "matrices, MaxSteps"+what, all(impl.RunMatrices(full, m, []impl.Matrix{a})), []impl.Matrix{matrixTimes(m)(a, a)}, true)
		expect(t, "matrices, MaxExponent"+what, all(impl.RunMatrices(greatest, m, []impl.Matrix{a})), []impl.Matrix{steadyPower(a, impl.MaxExponent, m)}, true)
		expect(t, "matrices, MaxInputs"+what, all(impl.RunMatrices(most, m, slices.Repeat([]impl.Matrix{a}, 6))), outputsByLetters(most, slices.Repeat([]impl.Matrix{a}, 6), matrixTimes(m)), true)
	}
	for _, points := range []int{1, 2, impl.MaxPoints - 1, impl.MaxPoints} {
		round := roundOf(points)
		expect(t, fmt.Sprint("MaxExponent, points ", points), all(impl.RunPermutations(greatest, [][]int{round})), [][]int{movedBy(round, impl.MaxExponent)}, true)
		expect(t, fmt.Sprint("MaxInputs, points ", points), all(impl.RunPermutations(most, slices.Repeat([][]int{round}, 6))), outputsByLetters(most, slices.Repeat([][]int{round}, 6), permutationTimes), true)
	}
}

// steadyPower multiplies as often as the exponent says.
func steadyPower(a impl.Matrix, e int, m int) impl.Matrix {
	product := impl.Matrix{A: 1, D: 1}
	for range e {
		product = matrixTimes(m)(product, a)
	}
	return product
}

// movedBy leads each point as often as the exponent says.
func movedBy(list []int, e int) []int {
	moved := make([]int, len(list))
	for i := range list {
		at := i
		for range e {
			at = list[at]
		}
		moved[i] = at
	}
	return moved
}

func TestPowersModulo(t *testing.T) {
	for m := 2; m <= 8; m++ {
		for _, x := range upTo(m) {
			for e := range 20 {
				product := 1
				for range e {
					product = product * x % m
				}
				expect(t, fmt.Sprint("power ", e, " of ", x, " modulo ", m), all(impl.PowersModulo([]int{e}, m, []int{x})), product, true)
			}
		}
		for _, list := range allLists(4, min(m, 5)) {
			expect(t, fmt.Sprint("powers ", list, " modulo ", m), all(impl.PowersModulo(list[:2], m, list[2:])), bigPowers(list[:2], m, list[2:]), true)
		}
	}
	random := &mixer{11}
	for range 5000 {
		m, count := mixedModulus(random), 1+random.below(impl.MaxInputs)
		exponents, inputs := mixedResidues(random, count, impl.MaxExponent+1), mixedResidues(random, count, m)
		expect(t, fmt.Sprint("powers ", exponents, " of ", inputs, " modulo ", m), all(impl.PowersModulo(exponents, m, inputs)), bigPowers(exponents, m, inputs), true)
	}
}

func bigPowers(exponents []int, m int, inputs []int) int {
	product := 1
	for i, e := range exponents {
		product = product * bigPower(inputs[i], e, m) % m
	}
	return product
}

func TestPowersModuloAtTheEdges(t *testing.T) {
	for _, m := range []int{2, impl.MaxModulus - 1, impl.MaxModulus} {
		what := fmt.Sprint(" modulo ", m)
		expect(t, "power 0 of 0"+what, all(impl.PowersModulo([]int{0}, m, []int{0})), 1, true)
		expect(t, "power 1 of 0"+what, all(impl.PowersModulo([]int{1}, m, []int{0})), 0, true)
		expect(t, "power MaxExponent of 0"+what, all(impl.PowersModulo([]int{impl.MaxExponent}, m, []int{0})), 0, true)
		expect(t, "power MaxExponent"+what, all(impl.PowersModulo([]int{impl.MaxExponent}, m, []int{m - 1})), 1, true)
		expect(t, "power MaxExponent - 1"+what, all(impl.PowersModulo([]int{impl.MaxExponent - 1}, m, []int{m - 1})), m-1, true)
		expect(t, "powers 0 of MaxInputs"+what, all(impl.PowersModulo(make([]int, 6), m, make([]int, 6))), 1, true)
		expect(t, "powers of MaxInputs"+what, all(impl.PowersModulo(slices.Repeat([]int{impl.MaxExponent - 1}, 6), m, slices.Repeat([]int{m - 1}, 6))), 1, true)
		expectZero(t, "powers of MaxInputs + 1"+what, all(impl.PowersModulo(make([]int, 7), m, make([]int, 7))))
		expectZero(t, "powers of none"+what, all(impl.PowersModulo(nil, m, nil)))
	}
	for exponents := range impl.MaxInputs + 2 {
		for inputs := range impl.MaxInputs + 2 {
			_, ok := impl.PowersModulo(slices.Repeat([]int{1}, exponents), 3, slices.Repeat([]int{1}, inputs))
			expect(t, fmt.Sprint(exponents, " exponents and ", inputs, " residues"), all(ok), exponents == inputs && 1 <= inputs && inputs <= 6)
		}
	}
	expectZero(t, "very many", all(impl.PowersModulo(make([]int, 1000000), 3, make([]int, 1000000))))
}

// orderOf goes through the powers until one of them comes again.
func orderOf(x int, m int) (int, bool) {
	seen := map[int]bool{}
	value := x
	for e := 1; !seen[value]; e++ {
		if value == 1 {
			return e, true
		}
		seen[value] = true
		value = value * x % m
	}
	return 0, false
}

func TestOrderModulo(t *testing.T) {
	for _, m := range append(upTo(130)[2:], 511, 512, 625, 997, 1001, 1024) {
		for x := range m {
			e, ok := orderOf(x, m)
			expect(t, fmt.Sprint("order of ", x, " modulo ", m), all(impl.OrderModulo(x, m)), e, ok)
		}
	}
	random := &mixer{12}
	for range 200 {
		m := mixedModulus(random)
		x := random.below(m)
		e, ok := orderOf(x, m)
		expect(t, fmt.Sprint("order of ", x, " modulo ", m), all(impl.OrderModulo(x, m)), e, ok)
	}
}

func TestOrderModuloAtTheEdges(t *testing.T) {
	for _, c := range [][3]int{
		{1, 2, 1}, {1, 3, 1}, {2, 3, 2}, {2, 7, 3}, {3, 7, 6}, {6, 7, 2},
		{1, impl.MaxModulus, 1}, {impl.MaxModulus - 1, impl.MaxModulus, 2}, {3, impl.MaxModulus, 500},
		// 9973 is prime, and all its residues but 0 are powers of 11.
		{11, 9973, 9972}, {9972, 9973, 2},
	} {
		expect(t, fmt.Sprint("order of ", c[0], " modulo ", c[1]), all(impl.OrderModulo(c[0], c[1])), c[2], true)
	}
	for _, c := range [][2]int{{0, 2}, {0, 3}, {2, 4}, {3, 6}, {6, 8}, {6, 9}, {2, impl.MaxModulus}, {5, impl.MaxModulus}, {0, impl.MaxModulus}, {impl.MaxModulus - 2, impl.MaxModulus}} {
		expectZero(t, fmt.Sprint("order of ", c[0], " modulo ", c[1]), all(impl.OrderModulo(c[0], c[1])))
	}
}

func matricesModulo(m int) []impl.Matrix {
	var list []impl.Matrix
	for _, n := range allLists(4, m) {
		list = append(list, impl.Matrix{A: n[0], B: n[1], C: n[2], D: n[3]})
	}
	return list
}

func TestMatrixProduct(t *testing.T) {
	for m := 2; m <= 3; m++ {
		for _, a := range matricesModulo(m) {
			for _, b := range matricesModulo(m) {
				expect(t, fmt.Sprint(a, " times ", b, " modulo ", m), all(impl.MatrixProduct(a, b, m)), matrixTimes(m)(a, b), true)
			}
		}
	}
	random := &mixer{13}
	for range 3000 {
		m := mixedModulus(random)
		pair := mixedMatrices(random, 2, m)
		expect(t, fmt.Sprint(pair, " modulo ", m), all(impl.MatrixProduct(pair[0], pair[1], m)), matrixTimes(m)(pair[0], pair[1]), true)
	}
	expect(t, "rows by columns", all(impl.MatrixProduct(impl.Matrix{A: 1, B: 2, C: 3, D: 4}, impl.Matrix{A: 5, B: 6, C: 7, D: 8}, 100)), impl.Matrix{A: 19, B: 22, C: 43, D: 50}, true)
	expect(t, "the other way round", all(impl.MatrixProduct(impl.Matrix{A: 5, B: 6, C: 7, D: 8}, impl.Matrix{A: 1, B: 2, C: 3, D: 4}, 100)), impl.Matrix{A: 23, B: 34, C: 31, D: 46}, true)
	last := impl.MaxModulus - 1
	a := impl.Matrix{A: last, B: last, C: last, D: last}
	expect(t, "MaxModulus", all(impl.MatrixProduct(a, a, impl.MaxModulus)), impl.Matrix{A: 2, B: 2, C: 2, D: 2}, true)
}

func TestMatrixPower(t *testing.T) {
	for m := 2; m <= 3; m++ {
		for _, a := range matricesModulo(m) {
			for e := range 12 {
				expect(t, fmt.Sprint("power ", e, " of ", a, " modulo ", m), all(impl.MatrixPower(a, e, m)), steadyPower(a, e, m), true)
			}
		}
	}
	random := &mixer{14}
	for range 300 {
		m := mixedModulus(random)
		a, e := mixedMatrices(random, 1, m)[0], random.below(3000)
		expect(t, fmt.Sprint("power ", e, " of ", a, " modulo ", m), all(impl.MatrixPower(a, e, m)), steadyPower(a, e, m), true)
	}
	for _, m := range []int{2, impl.MaxModulus} {
		for _, a := range []impl.Matrix{{}, {A: 1, D: 1}, {A: 1, B: 1, C: 1}, {A: m - 1, B: m - 1, C: m - 1, D: m - 1}, {B: 1}} {
			what := fmt.Sprint(" of ", a, " modulo ", m)
			expect(t, "power 0"+what, all(impl.MatrixPower(a, 0, m)), impl.Matrix{A: 1, D: 1}, true)
			expect(t, "power 1"+what, all(impl.MatrixPower(a, 1, m)), a, true)
			expect(t, "power MaxExponent"+what, all(impl.MatrixPower(a, impl.MaxExponent, m)), steadyPower(a, impl.MaxExponent, m), true)
		}
	}
	expect(t, "Fibonacci", all(impl.MatrixPower(impl.Matrix{A: 1, B: 1, C: 1}, 15, impl.MaxModulus)), impl.Matrix{A: 987, B: 610, C: 610, D: 377}, true)
}

func isPermutation(list []int) bool {
	sorted := slices.Sorted(slices.Values(list))
	return 1 <= len(list) && len(list) <= impl.MaxPoints && same(sorted, upTo(len(list)))
}

func TestIsPermutation(t *testing.T) {
	numbers := []int{-1, 0, 1, 2, 3, 4}
	for length := range 6 {
		for _, indices := range allLists(length, len(numbers)) {
			var list []int
			for _, at := range indices {
				list = append(list, numbers[at])
			}
			expect(t, fmt.Sprint("permutation ", list), all(impl.IsPermutation(list)), isPermutation(list))
		}
	}
	for points := range 20 {
		for _, list := range [][]int{upTo(points), roundOf(points)} {
			expect(t, fmt.Sprint("points ", list), all(impl.IsPermutation(list)), 1 <= points && points <= 8)
		}
	}
	for _, list := range permutationsOf(impl.MaxPoints) {
		if !impl.IsPermutation(list) {
			t.Fatal("no permutation", list)
		}
	}
}

// roundOf leads each point to the next one.
func roundOf(points int) []int {
	list := upTo(points)
	for i := range list {
		list[i] = (i + 1) % points
	}
	return list
}

func TestThenPermutation(t *testing.T) {
	for points := 1; points <= 4; points++ {
		for _, a := range permutationsOf(points) {
			for _, b := range permutationsOf(points) {
				expect(t, fmt.Sprint(a, " then ", b), all(impl.ThenPermutation(a, b)), permutationTimes(a, b), true)
			}
		}
	}
	m := &mixer{15}
	for range 2000 {
		pair := mixedPermutations(m, 2, 5+m.below(4))
		expect(t, fmt.Sprint(pair), all(impl.ThenPermutation(pair[0], pair[1])), permutationTimes(pair[0], pair[1]), true)
	}
	expect(t, "one way", all(impl.ThenPermutation([]int{1, 2, 0}, []int{1, 0, 2})), []int{0, 2, 1}, true)
	expect(t, "the other way", all(impl.ThenPermutation([]int{1, 0, 2}, []int{1, 2, 0})), []int{2, 1, 0}, true)
	for a := range impl.MaxPoints + 2 {
		for b := range impl.MaxPoints + 2 {
			_, ok := impl.ThenPermutation(upTo(a), upTo(b))
			expect(t, fmt.Sprint(a, " and ", b, " points"), all(ok), a == b && 1 <= a && a <= impl.MaxPoints)
		}
	}
}

func TestPermutationPower(t *testing.T) {
	for points := 1; points <= 5; points++ {
		for _, a := range permutationsOf(points) {
			for e := range 14 {
				expect(t, fmt.Sprint("power ", e, " of ", a), all(impl.PermutationPower(a, e)), movedBy(a, e), true)
			}
		}
	}
	m := &mixer{16}
	for range 500 {
		a, e := mixedPermutation(m, 6+m.below(3)), m.below(3000)
		expect(t, fmt.Sprint("power ", e, " of ", a), all(impl.PermutationPower(a, e)), movedBy(a, e), true)
	}
	for _, a := range [][]int{{0}, {0, 1}, {1, 0}, roundOf(7), upTo(8), roundOf(8), {1, 2, 0, 4, 5, 6, 7, 3}} {
		expect(t, fmt.Sprint("power 0 of ", a), all(impl.PermutationPower(a, 0)), upTo(len(a)), true)
		expect(t, fmt.Sprint("power 1 of ", a), all(impl.PermutationPower(a, 1)), a, true)
		for _, e := range []int{impl.MaxExponent - 1, impl.MaxExponent} {
			expect(t, fmt.Sprint("power ", e, " of ", a), all(impl.PermutationPower(a, e)), movedBy(a, e), true)
		}
	}
}

// roundsOf returns the least number that all lengths of cycles divide.
func roundsOf(list []int) int {
	order := 1
	for i := range list {
		length := 1
		for at := list[i]; at != i; at = list[at] {
			length++
		}
		step := order
		for order%length != 0 {
			order += step
		}
	}
	return order
}

func TestPermutationOrder(t *testing.T) {
	greatest := 0
	for points := 1; points <= impl.MaxPoints; points++ {
		for _, a := range permutationsOf(points) {
			order := roundsOf(a)
			greatest = max(greatest, order)
			if e, ok := impl.PermutationOrder(a); e != order || !ok {
				t.Fatalf("order of %v: %d, not %d", a, e, order)
			}
		}
	}
	expect(t, "greatest", all(greatest), 15)
	for _, points := range []int{1, 2, 7, impl.MaxPoints} {
		expect(t, fmt.Sprint("each of ", points, " points to itself"), all(impl.PermutationOrder(upTo(points))), 1, true)
		expect(t, fmt.Sprint(points, " points round"), all(impl.PermutationOrder(roundOf(points))), points, true)
	}
	expectZero(t, "one point too many", all(impl.PermutationOrder(upTo(impl.MaxPoints+1))))
}

func commute(list [][]int) bool {
	for _, a := range list {
		for _, b := range list {
			if !same(permutationTimes(a, b), permutationTimes(b, a)) {
				return false
			}
		}
	}
	return true
}

func TestDoCommute(t *testing.T) {
	for points := 1; points <= 4; points++ {
		list := permutationsOf(points)
		for _, indices := range allLists(2, len(list)) {
			pair := [][]int{list[indices[0]], list[indices[1]]}
			expect(t, fmt.Sprint(pair), all(impl.DoCommute(pair)), commute(pair), true)
		}
	}
	three := permutationsOf(3)
	for _, indices := range allLists(3, len(three)) {
		triple := [][]int{three[indices[0]], three[indices[1]], three[indices[2]]}
		expect(t, fmt.Sprint(triple), all(impl.DoCommute(triple)), commute(triple), true)
	}
	m := &mixer{17}
	for range 1000 {
		list := mixedPermutations(m, m.below(7), 1+m.below(4))
		expect(t, fmt.Sprint(list), all(impl.DoCommute(list)), commute(list), true)
	}
}

func TestDoCommuteAtTheEdges(t *testing.T) {
	expect(t, "none, nil", all(impl.DoCommute(nil)), true, true)
	expect(t, "none, empty", all(impl.DoCommute([][]int{})), true, true)
	for _, a := range [][]int{{0}, {1, 0}, roundOf(8)} {
		expect(t, fmt.Sprint("one: ", a), all(impl.DoCommute([][]int{a})), true, true)
		expect(t, fmt.Sprint("MaxInputs: ", a), all(impl.DoCommute(slices.Repeat([][]int{a}, 6))), true, true)
		expectZero(t, fmt.Sprint("MaxInputs + 1: ", a), all(impl.DoCommute(slices.Repeat([][]int{a}, 7))))
	}
	expectZero(t, "very many", all(impl.DoCommute(slices.Repeat([][]int{{0}}, 1000000))))
	// Just one pair does not commute.
	for i := range impl.MaxInputs {
		for j := range i {
			list := slices.Repeat([][]int{{0, 1, 2}}, impl.MaxInputs)
			list[i], list[j] = []int{1, 2, 0}, []int{1, 0, 2}
			expect(t, fmt.Sprint("not ", i, " and ", j), all(impl.DoCommute(list)), false, true)
			expectZero(t, fmt.Sprint("not ", i, " and ", j, ", one too many"), all(impl.DoCommute(append(list, []int{0, 1, 2}))))
		}
	}
	// An invalid one counts, even behind two that do not commute.
	pair := [][]int{{1, 2, 0}, {1, 0, 2}}
	for _, list := range [][]int{{}, {0, 1}, {0, 1, 2, 3}, {0, 1, 1}, {1, 2, 3}} {
		expectZero(t, fmt.Sprint("third: ", list), all(impl.DoCommute(append(slices.Clone(pair), list))))
		expectZero(t, fmt.Sprint("alone or first: ", list), all(impl.DoCommute(append([][]int{list}, pair...))))
	}
}

func TestPermutationsOfDifferentNumbersOfPointsDoNotRun(t *testing.T) {
	for a := 1; a <= impl.MaxPoints; a++ {
		for b := 1; b <= impl.MaxPoints; b++ {
			for _, p := range []impl.Plan{plan(2, nil), plan(2, nil, 0), plan(2, steps(0, 0), 2), plan(2, steps(0, 1), 2)} {
				_, ok := impl.RunPermutations(p, [][]int{upTo(a), roundOf(b)})
				expect(t, fmt.Sprint(a, " and ", b, " points: ", p), all(ok), a == b)
			}
			list := append(slices.Repeat([][]int{upTo(a)}, 5), upTo(b))
			_, ok := impl.RunPermutations(plan(6, nil, 0), list)
			_, fine := impl.DoCommute(list)
			expect(t, fmt.Sprint(a, " and at last ", b, " points"), all(ok, fine), a == b, a == b)
		}
	}
}

func TestWordsOfAnyKindRun(t *testing.T) {
	p := plan(2, steps(0, 1, 1, 2), 2, 3)
	for _, pair := range [][2]string{
		{"", ""}, {"a", ""}, {"", "b"}, {"\x00", "\xff"}, {"\xc3", "\xa4"}, {"\xe2\x82", "\xac"}, {"\n", " "}, {"ä", "€"}, {"\xff\xfe", "\x80"},
	} {
		want := []string{pair[0] + pair[1], pair[1] + pair[0] + pair[1]}
		expect(t, fmt.Sprintf("words %q", pair), all(impl.RunWords(p, pair[:])), want, true)
	}
	expect(t, "empty words", all(impl.RunWords(plan(1, doublings(19), 19, 0), []string{""})), []string{"", ""}, true)
	expect(t, "empty words, MaxSteps", all(impl.RunWords(squarings(impl.MaxSteps), []string{""})), []string{""}, true)
	expect(t, "no bytes", all(impl.WordLengths(plan(1, doublings(19), 19, 0), []int{0})), []int{0, 0}, true)
	expect(t, "MaxExponent of no bytes", all(impl.WordLengths(powerPlan(impl.MaxExponent), []int{0})), []int{0}, true)
}

// bothOfLengths runs a plan on words of some lengths, and on the lengths.
func bothOfLengths(p impl.Plan, lengths ...int) []any {
	var words []string
	for i, n := range lengths {
		words = append(words, strings.Repeat(string(rune('a'+i)), n))
	}
	outputs, ok := impl.RunWords(p, words)
	counts, fine := impl.WordLengths(p, lengths)
	var own []int
	for _, word := range outputs {
		own = append(own, len(word))
	}
	return all(own, ok, counts, fine)
}

func TestWordsAtTheLimits(t *testing.T) {
	input, double, both := plan(1, nil, 0), plan(1, steps(0, 0), 1), plan(2, steps(0, 1), 2)
	none := []int{}
	for length, ok := range map[int]bool{0: true, 1: true, impl.MaxText - 1: true, impl.MaxText: true, impl.MaxText + 1: false, 2 * impl.MaxText: false} {
		want := none
		if ok {
			want = []int{length}
		}
		expect(t, fmt.Sprint("an input of ", length), bothOfLengths(input, length), want, ok, want, ok)
		expect(t, fmt.Sprint("an input that no output needs, of ", length), bothOfLengths(plan(1, nil), length), none, ok, none, ok)
		expect(t, fmt.Sprint("behind nothing: ", length), bothOfLengths(both, 0, length), want, ok, want, ok)
		expect(t, fmt.Sprint("before nothing: ", length), bothOfLengths(both, length, 0), want, ok, want, ok)
	}
	half := impl.MaxText / 2
	expect(t, "twice the half", bothOfLengths(double, half), []int{impl.MaxText}, true, []int{impl.MaxText}, true)
	expect(t, "twice more than the half", bothOfLengths(double, half+1), none, false, none, false)
	expect(t, "both are MaxText", bothOfLengths(both, 1, impl.MaxText-1), []int{impl.MaxText}, true, []int{impl.MaxText}, true)
	expect(t, "both are MaxText + 1", bothOfLengths(both, 1, impl.MaxText), none, false, none, false)
	expect(t, "both are greatest", bothOfLengths(both, impl.MaxText, impl.MaxText), none, false, none, false)
	expect(t, "power MaxText", bothOfLengths(powerPlan(impl.MaxText), 1), []int{impl.MaxText}, true, []int{impl.MaxText}, true)
	expect(t, "power MaxText + 1", bothOfLengths(powerPlan(impl.MaxText+1), 1), none, false, none, false)
	expect(t, "MaxExponent", bothOfLengths(powerPlan(impl.MaxExponent), 1), none, false, none, false)
	text := strings.Repeat("\xff\x00", half)
	expect(t, "MaxText bytes of no characters", all(impl.RunWords(input, []string{text})), []string{text}, true)
	expectZero(t, "one more", all(impl.RunWords(input, []string{text + "\x00"})))
	// 1000 characters of 3 bytes are too long.
	expectZero(t, "bytes, not characters", all(impl.RunWords(input, []string{strings.Repeat("€", 1000)})))
	expect(t, "MaxText bytes of characters", all(impl.RunWords(input, []string{strings.Repeat("ä", half)})), []string{strings.Repeat("ä", half)}, true)
}

func TestValuesThatNoOutputNeedsAreNotTooLong(t *testing.T) {
	none := []int{}
	for _, outputs := range [][]int{{}, {0}, {0, 0, 1}} {
		last := plan(1, steps(0, 0, 0, 1), outputs...)
		first := plan(1, steps(0, 0, 0, 0), outputs...)
		expect(t, fmt.Sprint("a cube, outputs ", outputs), bothOfLengths(last, 667), none, false, none, false)
		expect(t, fmt.Sprint("two squares, outputs ", outputs), bothOfLengths(first, 1001), none, false, none, false)
		got := bothOfLengths(last, 666)
		expect(t, fmt.Sprint("short enough, outputs ", outputs), all(got[1], got[3]), true, true)
	}
	unused := plan(2, steps(0, 0, 1, 1), 3)
	expect(t, "the step before is too long", bothOfLengths(unused, 1001, 1), none, false, none, false)
	expect(t, "it is not", bothOfLengths(unused, 1000, 1), []int{2}, true, []int{2}, true)
}
