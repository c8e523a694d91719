package tests

import (
	"fmt"
	"math/big"
	"slices"
	"strings"
	"testing"

	"loop.example/g01098/impl"
)

func TestExampleOfChapter10(t *testing.T) {
	for n, value := range []int{2, 3, 7, 18} {
		expect(t, fmt.Sprint("rule of 3 at ", n), all(impl.LucasByRule(3, n, 100)), value, true)
		expect(t, fmt.Sprint("ladder of 3 at ", n), all(impl.LucasByLadder(3, n, 100)), value, true)
	}
	expect(t, "ladder", all(impl.LadderOf(6)), []int{1, 3, 6}, true)
	expect(t, "chain", all(impl.LadderChain(6)), []int{1, 2, 3, 4, 6}, true)
	expect(t, "replies", all(impl.RunScript("binary 15\npowers\nfactor 15\nturn\nfly\n")), []string{"6", "15", "5", "5", "what"}, true)
}

func TestLimitsOfChapter10(t *testing.T) {
	expect(t, "limits", all(impl.MaxIndex, impl.MaxRule, impl.MaxScript, impl.MaxLines), 1000000, 2000, 3000, 40)
}

// lucasList returns all Lucas values of indices up to n, by the rule alone, as whole numbers.
func lucasList(p int, n int) []*big.Int {
	list := []*big.Int{big.NewInt(2), big.NewInt(int64(p))}
	for len(list) <= n {
		next := new(big.Int).Mul(list[1], list[len(list)-1])
		list = append(list, next.Sub(next, list[len(list)-2]))
	}
	return list[:n+1]
}

// lucasTrace is V(n) for great n: it is the trace of the power n of a matrix with the trace p and the determinant 1.
func lucasTrace(p int, n int, m int) int {
	modulus := big.NewInt(int64(m))
	power := bigMatrixPower([4]int{p, -1, 1, 0}, n, modulus)
	trace := new(big.Int).Add(power[0], power[3])
	return int(trace.Mod(trace, modulus).Int64())
}

func bigMatrixPower(entries [4]int, n int, modulus *big.Int) [4]*big.Int {
	a := [4]*big.Int{}
	for i, e := range entries {
		a[i] = big.NewInt(int64(e))
	}
	power := [4]*big.Int{big.NewInt(1), big.NewInt(0), big.NewInt(0), big.NewInt(1)}
	for _, digit := range binary(n) {
		power = bigMatrixProduct(power, power, modulus)
		if digit == '1' {
			power = bigMatrixProduct(power, a, modulus)
		}
	}
	return power
}

func bigMatrixProduct(a [4]*big.Int, b [4]*big.Int, modulus *big.Int) [4]*big.Int {
	var c [4]*big.Int
	for i := range 4 {
		row, column := i/2*2, i%2
		sum := new(big.Int).Mul(a[row], b[column])
		sum.Add(sum, new(big.Int).Mul(a[row+1], b[column+2]))
		c[i] = sum.Mod(sum, modulus)
	}
	return c
}

func lucasModuli() []int {
	return []int{1, 2, 3, 4, 5, 10, 97, 100, 1000, 65536, 999983, 999999, 1000000}
}

func greatFirsts() []int {
	return []int{-1000000, -999999, -65536, -1000, -101, -100, 100, 101, 1000, 99999, 999983, 999999, 1000000}
}

func TestLucasValuesOfSmallIndices(t *testing.T) {
	firsts := greatFirsts()
	for p := -12; p <= 12; p++ {
		firsts = append(firsts, p)
	}
	for _, p := range firsts {
		for n, value := range lucasList(p, 70) {
			for _, m := range lucasModuli() {
				want := remainder(value, m)
				what := fmt.Sprint("V(", n, ") of ", p, " by ", m)
				expect(t, what+", rule", all(impl.LucasByRule(p, n, m)), want, true)
				expect(t, what+", ladder", all(impl.LucasByLadder(p, n, m)), want, true)
			}
		}
	}
}

func TestLucasValuesUpToMaxRule(t *testing.T) {
	for _, p := range []int{-1000000, -7, -3, 0, 1, 3, 4, 999, 1000000} {
		for n, value := range lucasList(p, impl.MaxRule) {
			m := 999 + n*n%991
			want := remainder(value, m)
			byRule, ok := impl.LucasByRule(p, n, m)
			byLadder, fine := impl.LucasByLadder(p, n, m)
			if byRule != want || byLadder != want || !ok || !fine {
				t.Fatalf("V(%d) of %d by %d is %d, not %d, %v and %d, %v", n, p, m, want, byRule, ok, byLadder, fine)
			}
		}
	}
}

func TestLucasByLadderUpToMaxIndex(t *testing.T) {
	for _, k := range [][2]int{{3, 1000000}, {-1000000, 999983}, {999, 1000}} {
		p, m := k[0], k[1]
		this, next := 2, ((p%m)+m)%m
		for n := range impl.MaxIndex + 1 {
			if got, ok := impl.LucasByLadder(p, n, m); got != this || !ok {
				t.Fatalf("V(%d) of %d by %d is %d, not %d, %v", n, p, m, this, got, ok)
			}
			this, next = next, (((p*next-this)%m)+m)%m
		}
	}
}

// edgeIndices has the powers of 2, one less and one more, up to a limit, and 0 and the limit.
func edgeIndices(most int) []int {
	list := []int{0, most - 1, most}
	for power := 1; power <= most; power *= 2 {
		for n := power - 1; n <= min(power+1, most); n++ {
			list = append(list, n)
		}
	}
	return list
}

func TestLucasValuesAtTheEdges(t *testing.T) {
	for _, n := range edgeIndices(impl.MaxIndex) {
		for _, p := range append(greatFirsts(), -3, -2, -1, 0, 1, 2, 3) {
			for _, m := range lucasModuli() {
				want := lucasTrace(p, n, m)
				expect(t, fmt.Sprint("ladder of ", p, n, m), all(impl.LucasByLadder(p, n, m)), want, true)
				if n <= impl.MaxRule {
					expect(t, fmt.Sprint("rule of ", p, n, m), all(impl.LucasByRule(p, n, m)), want, true)
				}
			}
		}
	}
}

// bothLucas has the values by the rule and by the ladder.
func bothLucas(p int, n int, m int) []any {
	byRule, ok := impl.LucasByRule(p, n, m)
	byLadder, fine := impl.LucasByLadder(p, n, m)
	return all(byRule, ok, byLadder, fine)
}

func TestLucasValuesThatAreKnown(t *testing.T) {
	for n := range 100 {
		what := fmt.Sprint(" at ", n)
		expect(t, "modulus 1"+what, bothLucas(17-n, n, 1), 0, true, 0, true)
		expect(t, "p of 2"+what, bothLucas(2, n, 1000), 2, true, 2, true)
		minus := []int{2, 998}[n%2]
		expect(t, "p of -2"+what, bothLucas(-2, n, 1000), minus, true, minus, true)
		quarter := []int{2, 0, 5, 0}[n%4]
		expect(t, "p of 0"+what, bothLucas(0, n, 7), quarter, true, quarter, true)
		sixth := []int{2, 1, 8, 7, 8, 1}[n%6]
		expect(t, "p of 1"+what, bothLucas(1, n, 9), sixth, true, sixth, true)
	}
	expect(t, "V(0) by 2", bothLucas(5, 0, 2), 0, true, 0, true)
	expect(t, "V(0) by 3", bothLucas(5, 0, 3), 2, true, 2, true)
	expect(t, "V(1) of p as great as m", bothLucas(7, 1, 7), 0, true, 0, true)
	expect(t, "V(1) of p greater than m", bothLucas(1000000, 1, 999999), 1, true, 1, true)
	expect(t, "V(1) of a negative p", bothLucas(-3, 1, 7), 4, true, 4, true)
	expect(t, "V(1) of -1000000", bothLucas(-1000000, 1, 1000000), 0, true, 0, true)
	expect(t, "V(1) of -1000000 by less", bothLucas(-1000000, 1, 999999), 999998, true, 999998, true)
	expect(t, "V(2) of -3", bothLucas(-3, 2, 1000), 7, true, 7, true)
	expect(t, "V(3) of -3", bothLucas(-3, 3, 1000), 982, true, 982, true)
}

func ladderFor(n int) []int {
	digits := binary(n)
	var list []int
	for length := range len(digits) {
		list = append(list, numberOf(digits[:length+1]))
	}
	return list
}

// ladderNumbers has small numbers, edges and mixed numbers up to MaxIndex.
func ladderNumbers() []int {
	list := countTo(3000)
	for _, n := range edgeIndices(impl.MaxIndex) {
		if n > 0 {
			list = append(list, n)
		}
	}
	m := &mixer{10}
	for range 2000 {
		list = append(list, 1+m.below(impl.MaxIndex))
	}
	return list
}

func TestLadders(t *testing.T) {
	for _, n := range ladderNumbers() {
		expect(t, fmt.Sprint("ladder of ", n), all(impl.LadderOf(n)), ladderFor(n), true)
	}
	expect(t, "ladder of 1", all(impl.LadderOf(1)), []int{1}, true)
	expect(t, "ladder of 2", all(impl.LadderOf(2)), []int{1, 2}, true)
	expect(t, "ladder of 3", all(impl.LadderOf(3)), []int{1, 3}, true)
	greatest := []int{1, 3, 7, 15, 30, 61, 122, 244, 488, 976, 1953, 3906, 7812, 15625, 31250, 62500, 125000, 250000, 500000, 1000000}
	expect(t, "ladder of MaxIndex", all(impl.LadderOf(impl.MaxIndex)), greatest, true)
}

func TestFibonacciPairs(t *testing.T) {
	this, next := big.NewInt(0), big.NewInt(1)
	for n := range 400 {
		for _, m := range lucasModuli() {
			what := fmt.Sprint("pair of ", n, " by ", m)
			expect(t, what, all(impl.FibonacciPair(n, m)), remainder(this, m), remainder(next, m), true)
		}
		this, next = next, new(big.Int).Add(this, next)
	}
}

func TestFibonacciPairsUpToMaxIndex(t *testing.T) {
	for _, m := range []int{1000000, 999983} {
		this, next := 0, 1
		for n := range impl.MaxIndex + 1 {
			if a, b, ok := impl.FibonacciPair(n, m); a != this || b != next || !ok {
				t.Fatalf("F(%d) by %d is %d before %d, not %d before %d, %v", n, m, this, next, a, b, ok)
			}
			this, next = next, (this+next)%m
		}
	}
}

func TestFibonacciPairsAtTheEdges(t *testing.T) {
	expect(t, "pair of 0", all(impl.FibonacciPair(0, 10)), 0, 1, true)
	expect(t, "pair of 0 by 1", all(impl.FibonacciPair(0, 1)), 0, 0, true)
	expect(t, "pair of 0 by 2", all(impl.FibonacciPair(0, 2)), 0, 1, true)
	expect(t, "pair of 1", all(impl.FibonacciPair(1, 10)), 1, 1, true)
	expect(t, "pair of 2", all(impl.FibonacciPair(2, 10)), 1, 2, true)
	expect(t, "pair of MaxIndex by 1", all(impl.FibonacciPair(impl.MaxIndex, 1)), 0, 0, true)
	for _, n := range edgeIndices(impl.MaxIndex) {
		for _, m := range lucasModuli() {
			power := bigMatrixPower([4]int{1, 1, 1, 0}, n, big.NewInt(int64(m)))
			expect(t, fmt.Sprint("pair of ", n, " by ", m), all(impl.FibonacciPair(n, m)), remainder(power[1], m), remainder(power[0], m), true)
		}
	}
}

// TestLucasAndFibonacci needs no reference: V(n) for p = 3 is F(2n - 1) + F(2n + 1).
func TestLucasAndFibonacci(t *testing.T) {
	for _, n := range append(edgeIndices(impl.MaxIndex/2), 777, 123456) {
		for _, m := range lucasModuli() {
			value, ok := impl.LucasByLadder(3, n, m)
			even, odd, fine := impl.FibonacciPair(2*n, m)
			if !ok || !fine || value != ((2*odd-even)%m+m)%m {
				t.Errorf("V(%d) by %d is %d, F(%d) and the next one are %d and %d", n, m, value, 2*n, even, odd)
			}
		}
	}
}

// lucasPair finds the sum of a number of a chain that LucasSteps should tell.
func lucasPair(list []int, k int) (impl.Step, bool) {
	best := impl.Step{A: -1, B: -1}
	for _, pair := range pairsOf(list, k) {
		difference := list[pair[1]] - list[pair[0]]
		if (difference == 0 || slices.Contains(list, difference)) && pair[1] > best.B {
			best = impl.Step{A: pair[0], B: pair[1]}
		}
	}
	return best, best.B >= 0
}

// lucasStepsOf returns nothing for lists that are no Lucas chains.
func lucasStepsOf(list []int) ([]impl.Step, bool) {
	if !isChain(list) {
		return nil, false
	}
	var chosen []impl.Step
	for k := 1; k < len(list); k++ {
		s, ok := lucasPair(list, k)
		if !ok {
			return nil, false
		}
		chosen = append(chosen, s)
	}
	return chosen, true
}

// expectLucasChain compares all that is told of a list with references, and reports whether it is a Lucas chain.
func expectLucasChain(t *testing.T, list []int) bool {
	t.Helper()
	chosen, ok := lucasStepsOf(list)
	expect(t, fmt.Sprint("a Lucas chain: ", list), all(impl.IsLucasChain(list)), ok)
	expect(t, fmt.Sprint("Lucas steps of ", list), all(impl.LucasSteps(list)), chosen, ok)
	for _, k := range [][2]int{{3, 1000}, {-5, 999983}, {1000000, 1000000}, {-4, 1}} {
		p, m := k[0], k[1]
		var values []int
		if ok {
			for _, n := range list {
				values = append(values, lucasTrace(p, n, m))
			}
		}
		expect(t, fmt.Sprint("run of ", list, " for ", p, " by ", m), all(impl.RunLucas(list, p, m)), values, ok)
	}
	return ok
}

func TestLucasChainsOfSmallChains(t *testing.T) {
	counts := map[bool]int{}
	others := 0
	for _, list := range smallChains(6) {
		ok := expectLucasChain(t, list)
		counts[ok]++
		if chosen, _ := lucasStepsOf(list); ok && !same(chosen, stepsOf(list)) {
			others++
		}
	}
	if counts[true] < 50 || counts[false] < 50 || others < 2 {
		t.Error("too few chains of a kind:", counts, others)
	}
}

func TestIsLucasChainOfAllShortLists(t *testing.T) {
	for length := range 6 {
		for _, list := range allLists(length, 9) {
			if _, ok := lucasStepsOf(list); impl.IsLucasChain(list) != ok {
				t.Fatalf("IsLucasChain(%v) is not %v", list, ok)
			}
		}
	}
}

func TestLucasChainsAtTheEdges(t *testing.T) {
	expect(t, "1 alone", all(impl.IsLucasChain([]int{1})), true)
	expect(t, "steps of 1", all(impl.LucasSteps([]int{1})), []impl.Step{}, true)
	expect(t, "run of 1", all(impl.RunLucas([]int{1}, -3, 10)), []int{7}, true)
	expect(t, "run of 1 by 1", all(impl.RunLucas([]int{1}, -3, 1)), []int{0}, true)
	// 6 is 3 + 3, 2 + 4 and 1 + 5; all differences are there.
	expect(t, "several sums", all(impl.LucasSteps(countTo(6))), steps(0, 0, 0, 1, 0, 2, 0, 3, 0, 4), true)
	// 6 is 5 + 1, too, but 4 is not there.
	expect(t, "the sum of twice 3", all(impl.LucasSteps([]int{1, 2, 3, 5, 6})), steps(0, 0, 0, 1, 1, 2, 2, 2), true)
	expect(t, "other steps there", all(impl.ChainSteps([]int{1, 2, 3, 5, 6})), steps(0, 0, 0, 1, 1, 2, 0, 3), true)
	expect(t, "5 of 2 and 3", all(impl.LucasSteps([]int{1, 2, 3, 5, 8})), steps(0, 0, 0, 1, 1, 2, 2, 3), true)
	// The difference 3 stands behind the number 1.
	expect(t, "5 of 1 and 4", all(impl.LucasSteps([]int{1, 2, 3, 4, 5})), steps(0, 0, 0, 1, 0, 2, 0, 3), true)
	expect(t, "twice each", all(impl.LucasSteps([]int{1, 2, 4, 8})), steps(0, 0, 1, 1, 2, 2), true)
	// 5 is only 1 + 4, and 3 is not there; a later 3 is against the order.
	for _, list := range [][]int{{1, 2, 4, 5}, {1, 2, 4, 5, 10}, {1, 2, 3, 6, 7}, {1, 2, 4, 5, 3}, {1, 2, 4, 3, 5}, {1, 2, 4, 5, 6, 9}} {
		expect(t, fmt.Sprint("no Lucas chain: ", list), all(impl.IsLucasChain(list)), false)
		expectZero(t, fmt.Sprint("steps of ", list), all(impl.LucasSteps(list)))
		expectZero(t, fmt.Sprint("run of ", list), all(impl.RunLucas(list, 3, 100)))
	}
	expect(t, "a Lucas chain: 7 of 3 and 4", all(impl.LucasSteps([]int{1, 2, 3, 4, 7})), steps(0, 0, 0, 1, 0, 2, 2, 3), true)
	for _, list := range append(sampleChains(), countTo(impl.MaxChain), chainTo(1<<19), ladderChainOf(impl.MaxIndex), append(ladderChainOf(impl.MaxIndex/2), impl.MaxIndex)) {
		expectLucasChain(t, list)
	}
	for _, list := range [][]int{countTo(impl.MaxChain + 1), append(ladderChainOf(impl.MaxIndex/2), impl.MaxIndex/2+1, impl.MaxIndex+1), append(ladderChainOf(impl.MaxIndex), 2*impl.MaxIndex)} {
		expectZero(t, fmt.Sprint(list), all(impl.IsLucasChain(list)))
	}
}

// TestDifferencesStandBefore checks that what a value needs is made before it.
func TestDifferencesStandBefore(t *testing.T) {
	for _, list := range smallChains(7) {
		chosen, ok := impl.LucasSteps(list)
		for k, s := range chosen {
			difference := list[s.B] - list[s.A]
			if list[s.A]+list[s.B] != list[k+1] || difference != 0 && !slices.Contains(list[:k+1], difference) {
				t.Fatalf("step %d of %v is %v, %v", k, list, s, ok)
			}
		}
	}
}

func TestRunLucasByRule(t *testing.T) {
	ran := 0
	for _, list := range smallChains(7) {
		p, m := len(list)*endOf(list)-60, 2+endOf(list)*37%1000
		values, ok := impl.RunLucas(list, p, m)
		if ok != impl.IsLucasChain(list) {
			t.Fatalf("run of %v: %v", list, ok)
		}
		for i, value := range values {
			if want, _ := impl.LucasByRule(p, list[i], m); value != want {
				t.Fatalf("run of %v for %d by %d has %d at %d, not %d", list, p, m, value, i, want)
			}
		}
		ran += len(values)
	}
	if ran < 1000 {
		t.Error("too few values", ran)
	}
}

func ladderChainOf(n int) []int {
	set := setOf([]int{n})
	for _, k := range ladderFor(n) {
		if k != n {
			set[k], set[k+1] = true, true
		}
	}
	return sortedKeys(set)
}

func TestLadderChains(t *testing.T) {
	for _, n := range ladderNumbers() {
		chain, ok := impl.LadderChain(n)
		expect(t, fmt.Sprint("chain of ", n), all(chain, ok), ladderChainOf(n), true)
		if !impl.IsLucasChain(chain) {
			t.Errorf("no Lucas chain: %v", chain)
		}
		values, ok := impl.RunLucas(chain, -7, 999983)
		if last, fine := impl.LucasByLadder(-7, n, 999983); !ok || !fine || endOf(values) != last {
			t.Errorf("run of the chain of %d ends with %d, not %d", n, endOf(values), last)
		}
	}
	expect(t, "chain of 1", all(impl.LadderChain(1)), []int{1}, true)
	expect(t, "chain of 2", all(impl.LadderChain(2)), []int{1, 2}, true)
	expect(t, "chain of 3", all(impl.LadderChain(3)), []int{1, 2, 3}, true)
	expect(t, "chain of 4", all(impl.LadderChain(4)), []int{1, 2, 3, 4}, true)
	expect(t, "chain of 7", all(impl.LadderChain(7)), []int{1, 2, 3, 4, 7}, true)
	expect(t, "chain of 8", all(impl.LadderChain(8)), []int{1, 2, 3, 4, 5, 8}, true)
	expect(t, "chain of 9", all(impl.LadderChain(9)), []int{1, 2, 3, 4, 5, 9}, true)
	expect(t, "chain of 16", all(impl.LadderChain(16)), []int{1, 2, 3, 4, 5, 8, 9, 16}, true)
	expect(t, "chain of MaxIndex", all(impl.LadderChain(impl.MaxIndex)), ladderChainOf(1000000), true)
}

func TestLucasPlanCosts(t *testing.T) {
	for _, n := range ladderNumbers() {
		digits := binary(n)
		cost := len(digits) + strings.Count(digits, "1") - 2
		expect(t, fmt.Sprint("costs of ", n), all(impl.LucasPlanCosts(n)), len(ladderChainOf(n))-1, cost, true)
	}
	expect(t, "costs of 1", all(impl.LucasPlanCosts(1)), 0, 0, true)
	expect(t, "costs of 2", all(impl.LucasPlanCosts(2)), 1, 1, true)
	expect(t, "costs of 15", all(impl.LucasPlanCosts(15)), 6, 6, true)
	expect(t, "costs of MaxIndex", all(impl.LucasPlanCosts(impl.MaxIndex)), len(ladderChainOf(1000000))-1, 25, true)
}
