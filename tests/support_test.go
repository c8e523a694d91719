package tests

import (
	"fmt"
	"reflect"
	"strings"
	"testing"

	"loop.example/g01098/impl"
)

// steps makes steps of pairs of numbers.
func steps(pairs ...int) []impl.Step {
	var list []impl.Step
	for i := 0; i < len(pairs); i += 2 {
		list = append(list, impl.Step{A: pairs[i], B: pairs[i+1]})
	}
	return list
}

func plan(inputs int, list []impl.Step, outputs ...int) impl.Plan {
	return impl.Plan{Inputs: inputs, Steps: list, Outputs: outputs}
}

// all gathers the results of one call.
func all(results ...any) []any { return results }

// same compares as text, so that a nil slice and an empty one are the same.
func same(a any, b any) bool { return fmt.Sprintf("%v", a) == fmt.Sprintf("%v", b) }

func expect(t *testing.T, what string, got []any, want ...any) {
	t.Helper()
	if !same(got, want) {
		t.Errorf("%s: got %v, want %v", what, got, want)
	}
}

func expectZero(t *testing.T, what string, got []any) {
	t.Helper()
	var zeros []any
	for _, x := range got {
		zeros = append(zeros, reflect.Zero(reflect.TypeOf(x)).Interface())
	}
	expect(t, what, got, zeros...)
}

// powerPlan makes the power n of one input by its binary digits.
func powerPlan(n int) impl.Plan {
	var list []impl.Step
	v := 0
	for _, digit := range fmt.Sprintf("%b", n)[1:] {
		list = append(list, impl.Step{A: v, B: v})
		v = len(list)
		if digit == '1' {
			list = append(list, impl.Step{A: 0, B: v})
			v = len(list)
		}
	}
	return plan(1, list, v)
}

// squarings makes a plan of equal steps, the square of the input over and over again.
func squarings(count int) impl.Plan {
	return plan(1, make([]impl.Step, count), count)
}

// wordsOf runs a plan on letters, so that exponents are counts of letters.
func wordsOf(p impl.Plan) []string {
	var words []string
	for i := range p.Inputs {
		words = append(words, string(rune('a'+i)))
	}
	for _, s := range p.Steps {
		words = append(words, words[s.A]+words[s.B])
	}
	return words
}

func lettersOf(word string, inputs int) []int {
	counts := make([]int, inputs)
	for i := range counts {
		counts[i] = strings.Count(word, string(rune('a'+i)))
	}
	return counts
}

// lettersOfOutputs returns what OutputExponents should return.
func lettersOfOutputs(p impl.Plan) [][]int {
	words := wordsOf(p)
	var rows [][]int
	for _, o := range p.Outputs {
		rows = append(rows, lettersOf(words[o], p.Inputs))
	}
	return rows
}

// smallPlans returns all plans with at most so many inputs, steps and outputs.
func smallPlans(inputs int, most int, outputs int) []impl.Plan {
	var plans []impl.Plan
	for i := 1; i <= inputs; i++ {
		for count := 0; count <= most; count++ {
			for _, list := range allSteps(i, count) {
				for o := 0; o <= outputs; o++ {
					for _, out := range allLists(o, i+count) {
						plans = append(plans, plan(i, list, out...))
					}
				}
			}
		}
	}
	return plans
}

func allSteps(inputs int, count int) [][]impl.Step {
	if count == 0 {
		return [][]impl.Step{nil}
	}
	var lists [][]impl.Step
	for _, before := range allSteps(inputs, count-1) {
		for b := range inputs + count - 1 {
			for a := range b + 1 {
				list := append([]impl.Step{}, before...)
				lists = append(lists, append(list, impl.Step{A: a, B: b}))
			}
		}
	}
	return lists
}

// allLists returns all lists of so many numbers in 0..below-1.
func allLists(length int, below int) [][]int {
	if length == 0 {
		return [][]int{nil}
	}
	var lists [][]int
	for _, before := range allLists(length-1, below) {
		for n := range below {
			list := append([]int{}, before...)
			lists = append(lists, append(list, n))
		}
	}
	return lists
}
