package tests

import (
	"fmt"
	"math/bits"
	"slices"
	"strings"
	"testing"

	"loop.example/g01098/impl"
)

func TestExampleOfChapter2(t *testing.T) {
	list := []int{1, 2, 3, 6, 7}
	expect(t, "text", all(impl.ChainText(list)), "1 2 3 6 7", true)
	expect(t, "chain", all(impl.ParseChain("1 2 3 6 7")), list, true)
	expect(t, "steps", all(impl.ChainSteps(list)), steps(0, 0, 0, 1, 2, 2, 0, 3), true)
	p, ok := impl.ChainPlan(list)
	expect(t, "plan", all(p, ok), plan(1, steps(0, 0, 0, 1, 2, 2, 0, 3), 4), true)
	expect(t, "text of the plan", all(impl.PlanText(p)), "1:0*0,0*1,2*2,0*3:4", true)
	expect(t, "small steps", all(impl.SmallSteps(list)), 2, true)
}

func TestLimitsOfChains(t *testing.T) {
	if impl.MaxChain != 41 {
		t.Error("MaxChain", impl.MaxChain)
	}
	for _, list := range append(sampleChains(), chainTo(1<<19), chainTo(1<<19-1), []int{1, 2, 4, 6, 7, 13}) {
		if !impl.IsChain(list) {
			t.Errorf("no chain: %v", list)
		}
	}
	for name, list := range invalidChains() {
		if impl.IsChain(list) {
			t.Errorf("a chain: %s", name)
		}
	}
}

func TestIsChainOfAllShortLists(t *testing.T) {
	for length := range 6 {
		for _, list := range allLists(length, 8) {
			if impl.IsChain(list) != isChain(list) {
				t.Fatalf("IsChain(%v) is not %v", list, isChain(list))
			}
		}
	}
}

// smallChains returns all chains of at most so many numbers.
func smallChains(most int) [][]int {
	lists := [][]int{{1}}
	last := lists
	for range most - 1 {
		var longer [][]int
		for _, list := range last {
			for n := endOf(list) + 1; n <= 2*endOf(list); n++ {
				if next := append(append([]int{}, list...), n); isChain(next) {
					longer = append(longer, next)
				}
			}
		}
		lists = append(lists, longer...)
		last = longer
	}
	return lists
}

func manyChains() [][]int {
	return append(smallChains(6), sampleChains()...)
}

// greatestB chooses the sum with the greatest B.
func greatestB(list []int, k int) impl.Step {
	best := impl.Step{B: -1}
	for _, pair := range pairsOf(list, k) {
		if pair[1] > best.B {
			best = impl.Step{A: pair[0], B: pair[1]}
		}
	}
	return best
}

func stepsOf(list []int) []impl.Step {
	var chosen []impl.Step
	for k := 1; k < len(list); k++ {
		chosen = append(chosen, greatestB(list, k))
	}
	return chosen
}

func TestStepsOfChains(t *testing.T) {
	for _, list := range manyChains() {
		var counts []int
		stepByStep := true
		for k := range list {
			pairs := pairsOf(list, k)
			counts = append(counts, len(pairs))
			near := slices.ContainsFunc(pairs, func(pair [2]int) bool { return pair[0] == k-1 || pair[1] == k-1 })
			stepByStep = stepByStep && (k == 0 || near)
		}
		expect(t, fmt.Sprint("steps of ", list), all(impl.ChainSteps(list)), stepsOf(list), true)
		expect(t, fmt.Sprint("sums of ", list), all(impl.CountSums(list)), counts, true)
		expect(t, fmt.Sprint("step by step: ", list), all(impl.IsStepByStep(list)), stepByStep, true)
	}
}

func TestStepsAtTheEdges(t *testing.T) {
	expect(t, "steps of 1", all(impl.ChainSteps([]int{1})), []impl.Step{}, true)
	expect(t, "sums of 1", all(impl.CountSums([]int{1})), []int{0}, true)
	expect(t, "1 is step by step", all(impl.IsStepByStep([]int{1})), true, true)
	// 6 is 3 + 3, 2 + 4 and 1 + 5.
	expect(t, "several sums", all(impl.ChainSteps(countTo(6))), steps(0, 0, 0, 1, 0, 2, 0, 3, 0, 4), true)
	expect(t, "their counts", all(impl.CountSums(countTo(6))), []int{0, 1, 1, 2, 2, 3}, true)
	expect(t, "5 + 1 before 3 + 3", all(impl.ChainSteps([]int{1, 2, 3, 5, 6})), steps(0, 0, 0, 1, 1, 2, 0, 3), true)
	expect(t, "6 is 3 + 3", all(impl.ChainSteps([]int{1, 2, 3, 6})), steps(0, 0, 0, 1, 2, 2), true)
	expect(t, "8 is 4 + 4", all(impl.ChainSteps([]int{1, 2, 4, 5, 8})), steps(0, 0, 1, 1, 0, 2, 2, 2), true)
	expect(t, "8 is not a step from 5", all(impl.IsStepByStep([]int{1, 2, 4, 5, 8})), false, true)
	expect(t, "10 is a step from 8", all(impl.IsStepByStep([]int{1, 2, 4, 5, 8, 10})), false, true)
	expect(t, "9 is a step from 8", all(impl.IsStepByStep([]int{1, 2, 4, 8, 9})), true, true)
	expect(t, "6 is 5 + 1, too", all(impl.IsStepByStep([]int{1, 2, 3, 5, 6})), true, true)
	expect(t, "41 numbers", all(impl.IsStepByStep(countTo(impl.MaxChain))), true, true)
	counts, ok := impl.CountSums(countTo(impl.MaxChain))
	expect(t, "counts of 41", all(counts[40], counts[39], ok), 20, 20, true)
	greatest := append(chainTo(impl.MaxExponent/2), impl.MaxExponent)
	last, ok := impl.ChainSteps(greatest)
	expect(t, "step to MaxExponent", all(last[len(last)-1], ok), impl.Step{A: len(greatest) - 2, B: len(greatest) - 2}, true)
}

// neededOf goes from a number to those of its step.
func neededOf(list []int, k int, needed map[int]bool) {
	needed[list[k]] = true
	if k > 0 {
		s := greatestB(list, k)
		neededOf(list, s.A, needed)
		neededOf(list, s.B, needed)
	}
}

func sortedKeys(set map[int]bool) []int {
	var list []int
	for n := range set {
		list = append(list, n)
	}
	slices.Sort(list)
	return list
}

func TestNeededPart(t *testing.T) {
	lists := smallChains(7)
	for _, list := range append(lists, chainTo(999), append(chainTo(1<<18-1), 1<<18)) {
		needed := map[int]bool{}
		neededOf(list, len(list)-1, needed)
		expect(t, fmt.Sprint("needed of ", list), all(impl.NeededPart(list)), sortedKeys(needed), true)
	}
	expect(t, "1 alone", all(impl.NeededPart([]int{1})), []int{1}, true)
	expect(t, "all", all(impl.NeededPart(chainTo(impl.MaxExponent))), chainTo(impl.MaxExponent), true)
	expect(t, "5 is not needed", all(impl.NeededPart([]int{1, 2, 4, 5, 8})), []int{1, 2, 4, 8}, true)
	// 8 could be 4 + 4, but its step is 2 + 6.
	expect(t, "6 is needed", all(impl.NeededPart([]int{1, 2, 4, 6, 8})), []int{1, 2, 4, 6, 8}, true)
	expect(t, "41 numbers", all(impl.NeededPart(countTo(impl.MaxChain))), countTo(impl.MaxChain), true)
	doubled := append(countTo(20), 40)
	expect(t, "half and end", all(impl.NeededPart(doubled)), doubled, true)
}

func TestExtendAndInsert(t *testing.T) {
	for _, list := range smallChains(5) {
		for n := 1; n <= 2*endOf(list)+2; n++ {
			longer := append(append([]int{}, list...), n)
			if isChain(longer) {
				expect(t, fmt.Sprint(list, " and ", n), all(impl.ExtendChain(list, n)), longer, true)
			} else {
				expectZero(t, fmt.Sprint(list, " and ", n), all(impl.ExtendChain(list, n)))
			}
			slices.Sort(longer)
			if isChain(longer) {
				expect(t, fmt.Sprint(n, " in ", list), all(impl.InsertNumber(list, n)), longer, true)
			} else {
				expectZero(t, fmt.Sprint(n, " in ", list), all(impl.InsertNumber(list, n)))
			}
		}
	}
}

func TestExtendAndInsertAtTheLimits(t *testing.T) {
	forty := countTo(impl.MaxChain - 1)
	expect(t, "41st number", all(impl.ExtendChain(forty, 41)), countTo(41), true)
	expect(t, "41st number, inserted", all(impl.InsertNumber(append(countTo(39), 41), 40)), countTo(41), true)
	expectZero(t, "42nd number", all(impl.ExtendChain(countTo(41), 42)))
	expectZero(t, "42nd number, inserted behind", all(impl.InsertNumber(countTo(41), 42)))
	expectZero(t, "42nd number, inserted", all(impl.InsertNumber(append(countTo(40), 42), 41)))
	half := chainTo(impl.MaxExponent / 2)
	expect(t, "MaxExponent", all(impl.ExtendChain(half, impl.MaxExponent)), chainTo(impl.MaxExponent), true)
	expect(t, "MaxExponent, inserted", all(impl.InsertNumber(half, impl.MaxExponent)), chainTo(impl.MaxExponent), true)
	above := append(chainTo(impl.MaxExponent/2), impl.MaxExponent/2+1)
	expectZero(t, "MaxExponent + 1", all(impl.ExtendChain(above, impl.MaxExponent+1)))
	expectZero(t, "MaxExponent + 1, inserted", all(impl.InsertNumber(above, impl.MaxExponent+1)))
	expectZero(t, "1 again", all(impl.InsertNumber([]int{1}, 1)))
	expectZero(t, "extended by its end", all(impl.ExtendChain([]int{1}, 1)))
	expect(t, "2 behind 1", all(impl.InsertNumber([]int{1}, 2)), []int{1, 2}, true)
	// With the missing number these would be chains.
	expectZero(t, "inserted into no chain", all(impl.InsertNumber([]int{1, 3}, 2)))
	expectZero(t, "1 inserted into no chain", all(impl.InsertNumber([]int{2, 4}, 1)))
	expectZero(t, "1 behind nothing", all(impl.ExtendChain(nil, 1)))
	expectZero(t, "1 inserted into nothing", all(impl.InsertNumber(nil, 1)))
}

func setOf(lists ...[]int) map[int]bool {
	set := map[int]bool{}
	for _, list := range lists {
		for _, n := range list {
			set[n] = true
		}
	}
	return set
}

func TestMeetAndUnion(t *testing.T) {
	lists := smallChains(5)
	for _, a := range lists {
		for _, b := range lists {
			common := slices.DeleteFunc(append([]int{}, a...), func(n int) bool { return !slices.Contains(b, n) })
			meet, ok := impl.MeetChains(a, b)
			if ok != isChain(common) || ok && !same(meet, common) || !ok && len(meet) > 0 {
				t.Fatalf("%v meets %v in %v, %v", a, b, meet, ok)
			}
			union, ok := impl.UnionChains(a, b)
			if !ok || !same(union, sortedKeys(setOf(a, b))) || !isChain(union) {
				t.Fatalf("union of %v and %v: %v, %v", a, b, union, ok)
			}
		}
	}
}

func TestMeetAndUnionAtTheEdges(t *testing.T) {
	expect(t, "1 and 1 meet", all(impl.MeetChains([]int{1}, []int{1})), []int{1}, true)
	expect(t, "1 and 1", all(impl.UnionChains([]int{1}, []int{1})), []int{1}, true)
	expect(t, "1 and more meet", all(impl.MeetChains([]int{1}, countTo(41))), []int{1}, true)
	expect(t, "41 and 1", all(impl.UnionChains(countTo(41), []int{1})), countTo(41), true)
	expect(t, "41 and 41 of the same", all(impl.UnionChains(countTo(41), countTo(41))), countTo(41), true)
	expect(t, "41 and 41 of the same meet", all(impl.MeetChains(countTo(41), countTo(41))), countTo(41), true)
	expectZero(t, "5 is left alone", all(impl.MeetChains([]int{1, 2, 3, 5}, []int{1, 2, 4, 5})))
	expectZero(t, "5 is left alone", all(impl.MeetChains([]int{1, 2, 4, 5}, []int{1, 2, 3, 5})))
	powers := []int{1, 2, 4, 5, 10, 20, 40, 80, 160, 320, 640, 1280}
	expect(t, "41 in both", all(impl.UnionChains(countTo(35), powers)), append(countTo(35), powers[6:]...), true)
	expect(t, "41 in both, exchanged", all(impl.UnionChains(powers, countTo(35))), append(countTo(35), powers[6:]...), true)
	expectZero(t, "42 in both", all(impl.UnionChains(countTo(36), powers)))
	expectZero(t, "42 in both, exchanged", all(impl.UnionChains(powers, countTo(36))))
	expect(t, "41 and MaxExponent", all(impl.UnionChains(chainTo(impl.MaxExponent), []int{1, 2, 4})), sortedKeys(setOf(chainTo(impl.MaxExponent), []int{4})), true)
	// No chains, though what would be returned is one.
	expectZero(t, "no chain meets", all(impl.MeetChains([]int{1, 2, 5}, []int{1, 2})))
	expectZero(t, "a chain meets none", all(impl.MeetChains([]int{1, 2}, []int{1, 2, 5})))
	expectZero(t, "no chain and the rest", all(impl.UnionChains([]int{1, 3}, []int{1, 2})))
	expectZero(t, "the rest and no chain", all(impl.UnionChains([]int{1, 2}, []int{1, 3})))
	expectZero(t, "nothing and a chain", all(impl.UnionChains(nil, []int{1, 2})))
	expectZero(t, "too many and a part", all(impl.MeetChains(countTo(42), []int{1, 2})))
}

func TestScaleChain(t *testing.T) {
	lists := smallChains(5)
	for _, list := range lists {
		for _, by := range lists {
			want := append([]int{}, list...)
			for _, n := range by {
				if n > 1 {
					want = append(want, n*endOf(list))
				}
			}
			got, ok := impl.ScaleChain(list, by)
			if !ok || !same(got, want) || !isChain(got) {
				t.Fatalf("%v by %v: %v, %v", list, by, got, ok)
			}
		}
	}
}

func TestScaleChainAtTheLimits(t *testing.T) {
	expect(t, "1 by 1", all(impl.ScaleChain([]int{1}, []int{1})), []int{1}, true)
	expect(t, "1 by 41", all(impl.ScaleChain([]int{1}, countTo(41))), countTo(41), true)
	expect(t, "41 by 1", all(impl.ScaleChain(countTo(41), []int{1})), countTo(41), true)
	expectZero(t, "41 by 2", all(impl.ScaleChain(countTo(41), []int{1, 2})))
	expectZero(t, "41 by 41", all(impl.ScaleChain(countTo(41), countTo(41))))
	many, ok := impl.ScaleChain(countTo(21), countTo(21))
	expect(t, "21 by 21", all(len(many), endOf(many), ok), 41, 441, true)
	expectZero(t, "21 by 22", all(impl.ScaleChain(countTo(21), countTo(22))))
	expectZero(t, "22 by 21", all(impl.ScaleChain(countTo(22), countTo(21))))
	great, ok := impl.ScaleChain(chainTo(1000), chainTo(1000))
	expect(t, "1000 by 1000", all(endOf(great), ok), impl.MaxExponent, true)
	expectZero(t, "101 by 9901", all(impl.ScaleChain(chainTo(101), chainTo(9901))))
	expectZero(t, "greatest by 2", all(impl.ScaleChain(chainTo(impl.MaxExponent), []int{1, 2})))
	expectZero(t, "2 by greatest", all(impl.ScaleChain([]int{1, 2}, chainTo(impl.MaxExponent))))
	expect(t, "greatest by 1", all(impl.ScaleChain(chainTo(impl.MaxExponent), []int{1})), chainTo(impl.MaxExponent), true)
}

func TestPlansOfChains(t *testing.T) {
	for _, list := range manyChains() {
		p, ok := impl.ChainPlan(list)
		expect(t, fmt.Sprint("plan of ", list), all(p, ok), plan(1, stepsOf(list), len(list)-1), true)
		expect(t, fmt.Sprint("power of ", list), all(impl.OutputExponents(p)), [][]int{{endOf(list)}}, true)
		expect(t, fmt.Sprint("chain of the plan of ", list), all(impl.ChainOfPlan(p)), list, true)
	}
	expect(t, "1 alone", all(impl.ChainPlan([]int{1})), plan(1, nil, 0), true)
	longest, ok := impl.ChainPlan(countTo(impl.MaxChain))
	expect(t, "MaxSteps", all(len(longest.Steps), ok), impl.MaxSteps, true)
}

func TestChainOfPlan(t *testing.T) {
	for _, p := range append(smallPlans(2, 4, 1), samplePlans()...) {
		if p.Inputs > 1 {
			expectZero(t, fmt.Sprint("chain of ", p), all(impl.ChainOfPlan(p)))
			continue
		}
		powers := map[int]bool{}
		for v := range p.Inputs + len(p.Steps) {
			row, _ := impl.ValueExponents(p, v)
			powers[row[0]] = true
		}
		list, ok := impl.ChainOfPlan(p)
		expect(t, fmt.Sprint("chain of ", p), all(list, ok), sortedKeys(powers), true)
		if !isChain(list) {
			t.Errorf("no chain of %v: %v", p, list)
		}
	}
	expect(t, "no steps, no outputs", all(impl.ChainOfPlan(plan(1, nil))), []int{1}, true)
	expect(t, "unused values", all(impl.ChainOfPlan(plan(1, steps(0, 0, 1, 1, 0, 1), 0))), []int{1, 2, 3, 4}, true)
	expect(t, "40 equal values", all(impl.ChainOfPlan(squarings(impl.MaxSteps))), []int{1, 2}, true)
	for inputs := 2; inputs <= impl.MaxInputs; inputs++ {
		expectZero(t, "more inputs", all(impl.ChainOfPlan(plan(inputs, steps(0, 0), 0))))
	}
}

// sequenceOf is the whole plan with the values of the targets, without the steps that they do not need.
func sequenceOf(list []int, targets []int) impl.Plan {
	p := plan(1, stepsOf(list))
	for _, n := range targets {
		p.Outputs = append(p.Outputs, slices.Index(list, n))
	}
	return trimmedOf(p)
}

func TestSequencePlan(t *testing.T) {
	for _, list := range smallChains(5) {
		for count := range 3 {
			for _, targets := range allLists(count, endOf(list)+2) {
				inside := !slices.ContainsFunc(targets, func(n int) bool { return !slices.Contains(list, n) })
				got, ok := impl.SequencePlan(list, targets)
				if !inside {
					expectZero(t, fmt.Sprint(targets, " in ", list), all(got, ok))
					continue
				}
				var rows [][]int
				for _, n := range targets {
					rows = append(rows, []int{n})
				}
				expect(t, fmt.Sprint(targets, " in ", list), all(got, ok), sequenceOf(list, targets), true)
				expect(t, fmt.Sprint("powers of ", targets, " in ", list), all(impl.OutputExponents(got)), rows, true)
			}
		}
	}
}

func TestSequencePlanAtTheEdges(t *testing.T) {
	list := []int{1, 2, 4, 5, 8}
	expect(t, "no targets", all(impl.SequencePlan(list, nil)), plan(1, nil), true)
	expect(t, "no targets of 1", all(impl.SequencePlan([]int{1}, []int{})), plan(1, nil), true)
	expect(t, "1", all(impl.SequencePlan(list, []int{1})), plan(1, nil, 0), true)
	expect(t, "1 of 1, six times", all(impl.SequencePlan([]int{1}, []int{1, 1, 1, 1, 1, 1})), plan(1, nil, 0, 0, 0, 0, 0, 0), true)
	expect(t, "8 without 5", all(impl.SequencePlan(list, []int{8})), plan(1, steps(0, 0, 1, 1, 2, 2), 3), true)
	expect(t, "twice, in no order", all(impl.SequencePlan(list, []int{8, 1, 5, 8})), plan(1, steps(0, 0, 1, 1, 0, 2, 2, 2), 4, 0, 3, 4), true)
	expect(t, "six targets", all(impl.SequencePlan(list, []int{8, 5, 4, 2, 1, 8})), plan(1, steps(0, 0, 1, 1, 0, 2, 2, 2), 4, 3, 2, 1, 0, 4), true)
	expectZero(t, "seven targets", all(impl.SequencePlan(list, []int{8, 5, 4, 2, 1, 8, 8})))
	expectZero(t, "seven times 1", all(impl.SequencePlan([]int{1}, []int{1, 1, 1, 1, 1, 1, 1})))
	expectZero(t, "many targets", all(impl.SequencePlan(list, slices.Repeat([]int{1}, 100000))))
	expectZero(t, "not in the list", all(impl.SequencePlan(list, []int{8, 3})))
	expectZero(t, "behind the end", all(impl.SequencePlan(list, []int{9, 8})))
	expect(t, "greatest", all(impl.SequencePlan(countTo(41), []int{41, 40})), plan(1, stepsOf(countTo(41)), 40, 39), true)
}

func TestSmallSteps(t *testing.T) {
	for _, list := range manyChains() {
		small := 0
		for k := 1; k < len(list); k++ {
			if len(fmt.Sprintf("%b", list[k])) == len(fmt.Sprintf("%b", list[k-1])) {
				small++
			}
		}
		got, ok := impl.SmallSteps(list)
		expect(t, fmt.Sprint("small steps of ", list), all(got, ok), small, true)
		// All other steps make the number one bit longer.
		length, ok := impl.BitLength(endOf(list))
		expect(t, fmt.Sprint("length of ", list), all(len(list)-1, ok), length-1+got, true)
	}
	expect(t, "1 alone", all(impl.SmallSteps([]int{1})), 0, true)
	expect(t, "doublings", all(impl.SmallSteps(chainTo(1<<19))), 0, true)
	expect(t, "41 numbers", all(impl.SmallSteps(countTo(41))), 35, true)
}

func TestBits(t *testing.T) {
	for n := 1; n <= impl.MaxExponent; n = n + 1 + n/200 {
		checkBits(t, n)
	}
	for k := range 20 {
		checkBits(t, 1<<k)
		checkBits(t, 1<<k+1)
		if k > 0 {
			checkBits(t, 1<<k-1)
		}
	}
	expect(t, "length of 1", all(impl.BitLength(1)), 1, true)
	expect(t, "length of 2", all(impl.BitLength(2)), 2, true)
	expect(t, "length of MaxExponent", all(impl.BitLength(impl.MaxExponent)), 20, true)
	expect(t, "digits of 1", all(impl.DigitSum(1)), 1, true)
	expect(t, "digits of MaxExponent", all(impl.DigitSum(impl.MaxExponent)), bits.OnesCount(1000000), true)
}

func checkBits(t *testing.T, n int) {
	t.Helper()
	digits := fmt.Sprintf("%b", n)
	expect(t, fmt.Sprint("length of ", n), all(impl.BitLength(n)), len(digits), true)
	expect(t, fmt.Sprint("digits of ", n), all(impl.DigitSum(n)), strings.Count(digits, "1"), true)
}

func chainTextOf(list []int) string {
	return strings.Trim(fmt.Sprint(list), "[]")
}

func TestTextsOfChains(t *testing.T) {
	for _, list := range manyChains() {
		text := chainTextOf(list)
		expect(t, "text of "+text, all(impl.ChainText(list)), text, true)
		expect(t, "chain of "+text, all(impl.ParseChain(text)), list, true)
	}
	expect(t, "1 alone", all(impl.ChainText([]int{1})), "1", true)
	expect(t, "chain 1 alone", all(impl.ParseChain("1")), []int{1}, true)
}

func TestTextsOfNoChains(t *testing.T) {
	texts := []string{
		"", " ", "  ", "-", "+", "0", "2", "-1", "+1", "01", "1.", "1.0", "1e0", "0x1", "1_0", "one", "１", "\xff", "\x00", "[1]", "[1 2]", "nil",
		" 1", "1 ", "1  2", "1 2 ", " 1 2", "1 2  3", "1\t2", "1\n2", "1\n", "\n1", "1 2\n", "1 2\x00", "1,2", "1, 2", "1;2", "1-2", "1 - 2", "1\u00a02",
		"1 02", "1 +2", "01 2", "+1 2", "1 -2", "1 2 +3", "1 2 03", "1 2 3.0", "1 2 0x3", "1 2 a", "1 a 2", "a 1 2",
		"1 3", "1 2 5", "1 1", "1 2 2", "2 1", "1 2 1", "0 1", "1 0", "2 4",
		"1 18446744073709551618", "1 2 99999999999999999999999", "18446744073709551617", "1 4294967298", "1 9223372036854775807", "1 -9223372036854775808",
		strings.Repeat("1", 100000), strings.Repeat(" ", 100000), strings.Repeat("1 ", 100000), "1" + strings.Repeat(" 2", 100000),
	}
	for _, text := range texts {
		expectZero(t, fmt.Sprintf("chain of %.40q", text), all(impl.ParseChain(text)))
	}
	for name, list := range invalidChains() {
		expectZero(t, "chain of "+name, all(impl.ParseChain(chainTextOf(list))))
	}
}

func TestShortTextsOfChains(t *testing.T) {
	chains := map[string][]int{}
	for _, list := range smallChains(4) {
		chains[chainTextOf(list)] = list
	}
	letters := "01234 +-"
	for length := range 6 {
		for _, indices := range allLists(length, len(letters)) {
			text := ""
			for _, i := range indices {
				text += letters[i : i+1]
			}
			list, isText := chains[text]
			got, ok := impl.ParseChain(text)
			if ok != isText || !same(got, list) {
				t.Fatalf("ParseChain(%q) is %v, %v", text, got, ok)
			}
		}
	}
}
