package tests

import (
	"fmt"
	"math"
	"slices"
	"strings"
	"testing"

	"loop.example/g01098/impl"
)

func TestExampleOfChapter1(t *testing.T) {
	cube := plan(1, steps(0, 0, 0, 1), 2)
	expect(t, "values", all(impl.ValueExponents(cube, 1)), []int{2}, true)
	expect(t, "outputs", all(impl.OutputExponents(cube)), [][]int{{3}}, true)
	expect(t, "text", all(impl.PlanText(cube)), "1:0*0,0*1:2", true)
	composed, ok := impl.ComposePlans(cube, cube)
	expect(t, "composed", all(composed, ok), plan(1, steps(0, 0, 0, 1, 2, 2, 2, 3), 4), true)
	expect(t, "composed outputs", all(impl.OutputExponents(composed)), [][]int{{9}}, true)
}

func TestLimitsOfPlans(t *testing.T) {
	valid := map[string]impl.Plan{
		"MaxInputs":                 plan(impl.MaxInputs, nil, 5),
		"MaxSteps":                  squarings(impl.MaxSteps),
		"MaxOutputs":                plan(1, nil, make([]int, impl.MaxOutputs)...),
		"MaxExponent":               powerPlan(impl.MaxExponent),
		"MaxExponent of the second": onLastOfTwo(powerPlan(impl.MaxExponent)),
		"no steps, no outputs":      plan(1, nil),
		"steps, no outputs":         plan(1, steps(0, 0)),
		"outputs in no order":       plan(2, steps(0, 1), 2, 0, 1, 2),
		"MaxExponent twice":         productPower(impl.MaxExponent),
		"same step twice":           plan(1, steps(0, 0, 0, 0), 1),
		"not trim":                  plan(1, steps(0, 0, 0, 0, 1, 2), 0),
	}
	for name, p := range valid {
		if !impl.IsPlan(p) {
			t.Errorf("no plan: %s", name)
		}
	}
	for name, p := range invalidPlans() {
		if impl.IsPlan(p) {
			t.Errorf("a plan: %s", name)
		}
	}
	if c := []int{impl.MaxInputs, impl.MaxSteps, impl.MaxOutputs, impl.MaxExponent}; !same(c, []int{6, 40, 6, 1000000}) {
		t.Error("constants", c)
	}
}

// productPower has two exponents n: the limit is for each of them, not for their sum.
func productPower(n int) impl.Plan {
	power := powerPlan(n)
	list := steps(0, 1)
	for _, s := range power.Steps {
		list = append(list, impl.Step{A: s.A + 2, B: s.B + 2})
	}
	return plan(2, list, power.Outputs[0]+2)
}

func TestExponentsAtTheLimits(t *testing.T) {
	expect(t, "greatest", all(impl.OutputExponents(powerPlan(impl.MaxExponent))), [][]int{{1000000}}, true)
	expect(t, "second", all(impl.OutputExponents(onLastOfTwo(powerPlan(impl.MaxExponent)))), [][]int{{0, 1000000}}, true)
	expect(t, "both", all(impl.OutputExponents(productPower(impl.MaxExponent))), [][]int{{1000000, 1000000}}, true)
	six := plan(6, steps(0, 1, 2, 3, 4, 5, 6, 7, 8, 9, 5, 10), 11, 0, 5)
	expect(t, "six inputs", all(impl.OutputExponents(six)), [][]int{{1, 1, 1, 1, 1, 2}, {1, 0, 0, 0, 0, 0}, {0, 0, 0, 0, 0, 1}}, true)
	expect(t, "40 steps", all(impl.OutputExponents(squarings(impl.MaxSteps))), [][]int{{2}}, true)
	expect(t, "value of 40 steps", all(impl.ValueExponents(squarings(impl.MaxSteps), 40)), []int{2}, true)
	expect(t, "no outputs", all(impl.OutputExponents(plan(1, steps(0, 0)))), [][]int{}, true)
	expect(t, "equal outputs", all(impl.OutputExponents(plan(1, steps(0, 0), 1, 0, 1))), [][]int{{2}, {1}, {2}}, true)
}

func TestExponentsOfSmallPlans(t *testing.T) {
	for _, p := range smallPlans(2, 3, 2) {
		words := wordsOf(p)
		for v, word := range words {
			expect(t, fmt.Sprint("value ", v, " of ", p), all(impl.ValueExponents(p, v)), lettersOf(word, p.Inputs), true)
		}
		expect(t, fmt.Sprint("outputs of ", p), all(impl.OutputExponents(p)), lettersOfOutputs(p), true)
		for _, v := range []int{-1, len(words), math.MinInt, math.MaxInt} {
			expectZero(t, fmt.Sprint("value ", v), all(impl.ValueExponents(p, v)))
		}
	}
}

func TestSamePowers(t *testing.T) {
	plans := smallPlans(2, 2, 2)
	rows := make([]string, len(plans))
	for i, p := range plans {
		rows[i] = fmt.Sprint(p.Inputs, lettersOfOutputs(p))
	}
	for i, p := range plans {
		for j, q := range plans {
			if same, ok := impl.SamePowers(p, q); !ok || same != (rows[i] == rows[j]) {
				t.Fatalf("SamePowers(%v, %v) is %v, %v", p, q, same, ok)
			}
		}
	}
	expect(t, "two ways to 4", all(impl.SamePowers(plan(1, steps(0, 0, 1, 1), 2), plan(1, steps(0, 0, 0, 1, 0, 2), 3))), true, true)
	expect(t, "no outputs, other inputs", all(impl.SamePowers(plan(1, nil), plan(2, nil))), false, true)
	expect(t, "other order", all(impl.SamePowers(plan(2, nil, 0, 1), plan(2, nil, 1, 0))), false, true)
	expect(t, "greatest", all(impl.SamePowers(powerPlan(impl.MaxExponent), powerPlan(impl.MaxExponent-1))), false, true)
}

func TestCountsOf(t *testing.T) {
	expect(t, "no steps", all(impl.CountsOf(plan(3, nil, 2))), 0, 0, true)
	expect(t, "40 squarings", all(impl.CountsOf(squarings(impl.MaxSteps))), 40, 0, true)
	expect(t, "unused steps count", all(impl.CountsOf(plan(2, steps(0, 0, 0, 1, 1, 2, 3, 3, 0, 2)))), 2, 3, true)
	for _, p := range smallPlans(2, 3, 0) {
		equal := 0
		for _, s := range p.Steps {
			if s.A == s.B {
				equal++
			}
		}
		expect(t, fmt.Sprint("counts of ", p), all(impl.CountsOf(p)), equal, len(p.Steps)-equal, true)
	}
}

// depthOf follows a value down to the inputs.
func depthOf(p impl.Plan, v int) int {
	if v < p.Inputs {
		return 0
	}
	s := p.Steps[v-p.Inputs]
	return 1 + max(depthOf(p, s.A), depthOf(p, s.B))
}

func TestDepthOf(t *testing.T) {
	expect(t, "no outputs", all(impl.DepthOf(plan(1, steps(0, 0, 1, 1)))), 0, true)
	expect(t, "an input", all(impl.DepthOf(plan(1, steps(0, 0), 0))), 0, true)
	expect(t, "deepest unused", all(impl.DepthOf(plan(1, steps(0, 0, 1, 1, 2, 2), 1))), 1, true)
	expect(t, "40 steps abreast", all(impl.DepthOf(squarings(impl.MaxSteps))), 1, true)
	expect(t, "19 doublings", all(impl.DepthOf(plan(1, doublings(19), 19))), 19, true)
	expect(t, "B is deeper", all(impl.DepthOf(plan(1, steps(0, 0, 1, 1, 0, 2), 3))), 3, true)
	expect(t, "A is deeper", all(impl.DepthOf(plan(1, steps(0, 0, 1, 1, 0, 0, 2, 3), 4))), 3, true)
	for _, p := range smallPlans(2, 3, 2) {
		depth := 0
		for _, o := range p.Outputs {
			depth = max(depth, depthOf(p, o))
		}
		expect(t, fmt.Sprint("depth of ", p), all(impl.DepthOf(p)), depth, true)
	}
}

// neededFor marks a value and all that it is made of.
func neededFor(p impl.Plan, v int, marks []bool) {
	marks[v] = true
	if v >= p.Inputs {
		neededFor(p, p.Steps[v-p.Inputs].A, marks)
		neededFor(p, p.Steps[v-p.Inputs].B, marks)
	}
}

func usedOf(p impl.Plan) []int {
	marks := make([]bool, p.Inputs+len(p.Steps))
	for _, o := range p.Outputs {
		neededFor(p, o, marks)
	}
	var list []int
	for i := range p.Steps {
		if marks[p.Inputs+i] {
			list = append(list, i)
		}
	}
	return list
}

// withoutStep drops an unused step, one place after another.
func withoutStep(p impl.Plan, i int) impl.Plan {
	down := func(v int) int {
		if v > p.Inputs+i {
			return v - 1
		}
		return v
	}
	q := plan(p.Inputs, nil)
	for j, s := range p.Steps {
		if j != i {
			q.Steps = append(q.Steps, impl.Step{A: down(s.A), B: down(s.B)})
		}
	}
	for _, o := range p.Outputs {
		q.Outputs = append(q.Outputs, down(o))
	}
	return q
}

func trimmedOf(p impl.Plan) impl.Plan {
	used := usedOf(p)
	for i := len(p.Steps) - 1; i >= 0; i-- {
		if !slices.Contains(used, i) {
			p = withoutStep(p, i)
		}
	}
	return p
}

func TestUsedStepsAndTrimPlan(t *testing.T) {
	for _, p := range smallPlans(2, 3, 2) {
		used := usedOf(p)
		trimmed, ok := impl.TrimPlan(p)
		expect(t, fmt.Sprint("used of ", p), all(impl.UsedSteps(p)), used, true)
		expect(t, fmt.Sprint("trim: ", p), all(impl.IsTrim(p)), len(used) == len(p.Steps), true)
		expect(t, fmt.Sprint("trimmed ", p), all(trimmed, ok), trimmedOf(p), true)
		expect(t, fmt.Sprint("trimmed ", p, " is trim"), all(impl.IsTrim(trimmed)), true, true)
		expect(t, fmt.Sprint("powers of trimmed ", p), all(impl.SamePowers(p, trimmed)), true, true)
	}
}

func TestTrimPlanAtTheEdges(t *testing.T) {
	expect(t, "no outputs", all(impl.TrimPlan(plan(2, steps(0, 0, 0, 1)))), plan(2, nil), true)
	expect(t, "an input", all(impl.TrimPlan(plan(2, steps(0, 0, 0, 1), 1, 1))), plan(2, nil, 1, 1), true)
	expect(t, "last of 40", all(impl.TrimPlan(squarings(impl.MaxSteps))), plan(1, steps(0, 0), 1), true)
	expect(t, "all of 25", all(impl.TrimPlan(powerPlan(impl.MaxExponent))), powerPlan(impl.MaxExponent), true)
	expect(t, "a gap", all(impl.TrimPlan(plan(1, steps(0, 0, 0, 0, 1, 1, 2, 2, 3, 3), 5, 3))), plan(1, steps(0, 0, 1, 1, 2, 2), 3, 2), true)
	expect(t, "used of 40", all(impl.UsedSteps(squarings(impl.MaxSteps))), []int{39}, true)
	expect(t, "trim without steps", all(impl.IsTrim(plan(1, nil))), true, true)
	expect(t, "not trim without outputs", all(impl.IsTrim(plan(1, steps(0, 0)))), false, true)
}

// firstsOf compares the words of values by their letters.
func firstsOf(p impl.Plan) []int {
	words := wordsOf(p)
	list := make([]int, len(words))
	for i := range words {
		for !same(lettersOf(words[list[i]], p.Inputs), lettersOf(words[i], p.Inputs)) {
			list[i]++
		}
	}
	return list
}

func sharedOf(p impl.Plan) impl.Plan {
	firsts := firstsOf(p)
	q := plan(p.Inputs, nil)
	for _, s := range p.Steps {
		a, b := firsts[s.A], firsts[s.B]
		if b < a {
			a, b = b, a
		}
		q.Steps = append(q.Steps, impl.Step{A: a, B: b})
	}
	for _, o := range p.Outputs {
		q.Outputs = append(q.Outputs, firsts[o])
	}
	return trimmedOf(q)
}

func TestFirstExponentsAndSharePlan(t *testing.T) {
	for _, p := range smallPlans(2, 3, 2) {
		shared, ok := impl.SharePlan(p)
		expect(t, fmt.Sprint("firsts of ", p), all(impl.FirstExponents(p)), firstsOf(p), true)
		expect(t, fmt.Sprint("shared ", p), all(shared, ok), sharedOf(p), true)
		expect(t, fmt.Sprint("powers of shared ", p), all(impl.SamePowers(p, shared)), true, true)
		expect(t, fmt.Sprint("shared ", p, " is trim"), all(impl.IsTrim(shared)), true, true)
	}
	for _, list := range allSteps(1, 5) {
		p := plan(1, list, 5, 4)
		expect(t, fmt.Sprint("firsts of ", p), all(impl.FirstExponents(p)), firstsOf(p), true)
		expect(t, fmt.Sprint("shared ", p), all(impl.SharePlan(p)), sharedOf(p), true)
	}
}

func TestSharePlanAtTheEdges(t *testing.T) {
	// The first value with the exponent 2 is not used until it takes the place of the second one.
	unused := plan(1, steps(0, 0, 0, 0, 2, 2), 3)
	expect(t, "first one not used", all(impl.SharePlan(unused)), plan(1, steps(0, 0, 1, 1), 2), true)
	expect(t, "its firsts", all(impl.FirstExponents(unused)), []int{0, 1, 1, 3}, true)
	// Values 2 and 4 are the cube; 3 times 4 becomes 3 times 2, and is exchanged.
	exchanged := plan(1, steps(0, 0, 0, 1, 1, 1, 0, 1, 3, 4), 5)
	expect(t, "exchanged", all(impl.SharePlan(exchanged)), plan(1, steps(0, 0, 0, 1, 1, 1, 2, 3), 4), true)
	expect(t, "outputs replaced", all(impl.SharePlan(plan(1, steps(0, 0, 0, 0), 2, 1, 2))), plan(1, steps(0, 0), 1, 1, 1), true)
	expect(t, "no outputs", all(impl.SharePlan(plan(1, steps(0, 0, 0, 0)))), plan(1, nil), true)
	expect(t, "no steps", all(impl.SharePlan(plan(2, nil, 1, 1))), plan(2, nil, 1, 1), true)
	expect(t, "40 equal steps", all(impl.SharePlan(squarings(impl.MaxSteps))), plan(1, steps(0, 0), 1), true)
	// Equal sums of exponents are not equal exponents.
	expect(t, "two inputs", all(impl.SharePlan(plan(2, steps(0, 0, 1, 1, 0, 1), 4, 3, 2))), plan(2, steps(0, 0, 1, 1, 0, 1), 4, 3, 2), true)
	expect(t, "firsts of two inputs", all(impl.FirstExponents(plan(2, steps(0, 0, 1, 1, 0, 1)))), []int{0, 1, 2, 3, 4}, true)
	expect(t, "firsts of 40", all(impl.FirstExponents(squarings(impl.MaxSteps))), append([]int{0}, slices.Repeat([]int{1}, 40)...), true)
}

// shifted puts the steps of q behind those of p; its inputs are the values of p that are told.
func shifted(p impl.Plan, q impl.Plan, inputs []int) ([]impl.Step, []int) {
	at := func(v int) int {
		if v < q.Inputs {
			return inputs[v]
		}
		return v - q.Inputs + p.Inputs + len(p.Steps)
	}
	list := append([]impl.Step{}, p.Steps...)
	for _, s := range q.Steps {
		a, b := at(s.A), at(s.B)
		if b < a {
			a, b = b, a
		}
		list = append(list, impl.Step{A: a, B: b})
	}
	var outputs []int
	for _, o := range q.Outputs {
		outputs = append(outputs, at(o))
	}
	return list, outputs
}

// letters by which those of p are counted as often as q uses its outputs.
func composedLetters(p impl.Plan, q impl.Plan) [][]int {
	inner := lettersOfOutputs(p)
	var rows [][]int
	for _, counts := range lettersOfOutputs(q) {
		row := make([]int, p.Inputs)
		for k, times := range counts {
			for i := range row {
				row[i] += times * inner[k][i]
			}
		}
		rows = append(rows, row)
	}
	return rows
}

func TestComposeSmallPlans(t *testing.T) {
	plans := smallPlans(2, 2, 2)
	for _, p := range plans {
		for _, q := range plans {
			got, ok := impl.ComposePlans(p, q)
			if len(p.Outputs) != q.Inputs {
				if ok || !same(got, impl.Plan{}) {
					t.Fatalf("composed %v, %v: %v", p, q, got)
				}
				continue
			}
			list, outputs := shifted(p, q, p.Outputs)
			if !ok || !same(got, plan(p.Inputs, list, outputs...)) {
				t.Fatalf("composed %v, %v: %v", p, q, got)
			}
			if rows, fine := impl.OutputExponents(got); !fine || !same(rows, composedLetters(p, q)) {
				t.Fatalf("powers of composed %v, %v: %v", p, q, rows)
			}
		}
	}
}

func TestComposePlansAtTheEdges(t *testing.T) {
	id := plan(1, nil, 0)
	expect(t, "exchanged", all(impl.ComposePlans(plan(2, nil, 1, 0), plan(2, steps(0, 1), 2))), plan(2, steps(0, 1), 2), true)
	expect(t, "equal outputs", all(impl.ComposePlans(plan(1, steps(0, 0), 1, 1), plan(2, steps(0, 1), 2, 0))), plan(1, steps(0, 0, 1, 1), 2, 1), true)
	expect(t, "without steps", all(impl.ComposePlans(id, id)), id, true)
	expect(t, "no outputs behind", all(impl.ComposePlans(powerPlan(3), plan(1, steps(0, 0)))), plan(1, steps(0, 0, 0, 1, 2, 2)), true)
	expectZero(t, "no outputs before", all(impl.ComposePlans(plan(1, nil), id)))
	expectZero(t, "too few outputs", all(impl.ComposePlans(id, plan(2, nil, 0))))
	expectZero(t, "too many outputs", all(impl.ComposePlans(plan(2, nil, 0, 1), id)))
	six := plan(6, nil, 5, 4, 3, 2, 1, 0)
	expect(t, "six by six", all(impl.ComposePlans(six, six)), plan(6, nil, 0, 1, 2, 3, 4, 5), true)
}

func TestComposePlansAtTheLimits(t *testing.T) {
	flat := func(count int) impl.Plan { return plan(1, make([]impl.Step, count), 0) }
	forty := plan(1, make([]impl.Step, 40), 0)
	expect(t, "20 and 20 steps", all(impl.ComposePlans(flat(20), flat(20))), forty, true)
	expect(t, "40 and 0 steps", all(impl.ComposePlans(flat(40), flat(0))), forty, true)
	expectZero(t, "20 and 21 steps", all(impl.ComposePlans(flat(20), flat(21))))
	expectZero(t, "40 and 1 steps", all(impl.ComposePlans(flat(40), flat(1))))
	expectZero(t, "40 and 40 steps", all(impl.ComposePlans(flat(40), flat(40))))
	greatest, ok := impl.ComposePlans(powerPlan(1000), powerPlan(1000))
	expect(t, "MaxExponent", all(ok), true)
	expect(t, "its powers", all(impl.OutputExponents(greatest)), [][]int{{impl.MaxExponent}}, true)
	// 101 * 9901 is MaxExponent + 1.
	expectZero(t, "MaxExponent + 1", all(impl.ComposePlans(powerPlan(101), powerPlan(9901))))
	expectZero(t, "MaxExponent + 1, no output", all(impl.ComposePlans(powerPlan(101), plan(1, powerPlan(9901).Steps, 0))))
	expectZero(t, "MaxExponent + 1, second input", all(impl.ComposePlans(onLastOfTwo(powerPlan(101)), powerPlan(9901))))
}

func TestJoinSmallPlans(t *testing.T) {
	plans := smallPlans(2, 2, 2)
	for _, p := range plans {
		for _, q := range plans {
			got, ok := impl.JoinPlans(p, q)
			if p.Inputs != q.Inputs {
				if ok || !same(got, impl.Plan{}) {
					t.Fatalf("joined %v, %v: %v", p, q, got)
				}
				continue
			}
			list, outputs := shifted(p, q, upTo(q.Inputs))
			want := plan(p.Inputs, list, append(append([]int{}, p.Outputs...), outputs...)...)
			if !ok || !same(got, want) {
				t.Fatalf("joined %v, %v: %v", p, q, got)
			}
			if rows, fine := impl.OutputExponents(got); !fine || !same(rows, append(lettersOfOutputs(p), lettersOfOutputs(q)...)) {
				t.Fatalf("powers of joined %v, %v: %v", p, q, rows)
			}
		}
	}
}

func TestJoinPlansAtTheLimits(t *testing.T) {
	flat := func(count int) impl.Plan { return plan(1, make([]impl.Step, count)) }
	wide := func(count int) impl.Plan { return plan(1, nil, make([]int, count)...) }
	expect(t, "20 and 20 steps", all(impl.JoinPlans(flat(20), flat(20))), flat(40), true)
	expect(t, "0 and 40 steps", all(impl.JoinPlans(flat(0), flat(40))), flat(40), true)
	expectZero(t, "20 and 21 steps", all(impl.JoinPlans(flat(20), flat(21))))
	expectZero(t, "40 and 40 steps", all(impl.JoinPlans(flat(40), flat(40))))
	expect(t, "3 and 3 outputs", all(impl.JoinPlans(wide(3), wide(3))), wide(6), true)
	expect(t, "6 and 0 outputs", all(impl.JoinPlans(wide(6), wide(0))), wide(6), true)
	expectZero(t, "3 and 4 outputs", all(impl.JoinPlans(wide(3), wide(4))))
	expectZero(t, "6 and 6 outputs", all(impl.JoinPlans(wide(6), wide(6))))
	expect(t, "no outputs", all(impl.JoinPlans(plan(6, nil), plan(6, nil))), plan(6, nil), true)
	expectZero(t, "other inputs", all(impl.JoinPlans(plan(6, nil), plan(5, nil))))
	expect(t, "outputs are inputs", all(impl.JoinPlans(plan(2, steps(0, 0), 1, 2), plan(2, steps(0, 1), 2, 1))), plan(2, steps(0, 0, 0, 1), 1, 2, 3, 1), true)
	expect(t, "MaxExponent is kept", all(impl.JoinPlans(plan(1, powerPlan(impl.MaxExponent).Steps, 25), wide(1))), plan(1, powerPlan(impl.MaxExponent).Steps, 25, 0), true)
}

func TestPickOutputs(t *testing.T) {
	for _, p := range smallPlans(1, 2, 3) {
		for length := range 4 {
			for _, list := range allLists(length, len(p.Outputs)) {
				var outputs []int
				for _, i := range list {
					outputs = append(outputs, p.Outputs[i])
				}
				got, ok := impl.PickOutputs(p, list)
				expect(t, fmt.Sprint("picked ", list, " of ", p), all(got, ok), plan(1, p.Steps, outputs...), true)
			}
		}
		expectZero(t, "index behind the outputs", all(impl.PickOutputs(p, []int{len(p.Outputs)})))
	}
	six := plan(1, steps(0, 0), 1, 0, 0, 0, 0, 0)
	expect(t, "six times the first", all(impl.PickOutputs(six, make([]int, 6))), plan(1, steps(0, 0), 1, 1, 1, 1, 1, 1), true)
	expectZero(t, "seven outputs", all(impl.PickOutputs(six, make([]int, 7))))
	expectZero(t, "many outputs", all(impl.PickOutputs(six, make([]int, 100000))))
	for _, i := range []int{-1, 6, math.MinInt, math.MaxInt} {
		expectZero(t, fmt.Sprint("index ", i), all(impl.PickOutputs(six, []int{0, i})))
	}
	expect(t, "no steps are dropped", all(impl.PickOutputs(plan(1, steps(0, 0), 1, 0), []int{1})), plan(1, steps(0, 0), 0), true)
}

// reordered puts the steps into the order, unless one would stand too early.
func reordered(p impl.Plan, order []int) (impl.Plan, bool) {
	at := func(v int) int {
		if v < p.Inputs {
			return v
		}
		return p.Inputs + slices.Index(order, v-p.Inputs)
	}
	q := plan(p.Inputs, nil)
	for i, n := range order {
		a, b := at(p.Steps[n].A), at(p.Steps[n].B)
		if max(a, b) >= p.Inputs+i {
			return impl.Plan{}, false
		}
		q.Steps = append(q.Steps, impl.Step{A: min(a, b), B: max(a, b)})
	}
	for _, o := range p.Outputs {
		q.Outputs = append(q.Outputs, at(o))
	}
	return q, true
}

func isOrder(order []int) bool {
	sorted := slices.Sorted(slices.Values(order))
	return len(slices.Compact(sorted)) == len(order)
}

func TestReorderSmallPlans(t *testing.T) {
	for _, p := range append(smallPlans(2, 3, 1), plan(1, steps(0, 0, 0, 0, 1, 2, 0, 2), 4, 3, 0, 4, 1)) {
		for _, order := range allLists(len(p.Steps), len(p.Steps)) {
			want, fine := impl.Plan{}, false
			if isOrder(order) {
				want, fine = reordered(p, order)
			}
			got, ok := impl.ReorderSteps(p, order)
			expect(t, fmt.Sprint(p, " in the order ", order), all(got, ok), want, fine)
			if ok {
				expect(t, fmt.Sprint("powers of ", p, " in the order ", order), all(impl.SamePowers(p, got)), true, true)
			}
		}
	}
}

func TestReorderStepsAtTheEdges(t *testing.T) {
	p := plan(1, steps(0, 0, 0, 0, 1, 2), 3, 1)
	expect(t, "exchanged", all(impl.ReorderSteps(p, []int{1, 0, 2})), plan(1, steps(0, 0, 0, 0, 1, 2), 3, 2), true)
	expect(t, "B would be less", all(impl.ReorderSteps(plan(2, steps(0, 0, 1, 1, 2, 3), 4, 2), []int{1, 0, 2})), plan(2, steps(1, 1, 0, 0, 2, 3), 4, 3), true)
	expect(t, "no steps", all(impl.ReorderSteps(plan(2, nil, 1), nil)), plan(2, nil, 1), true)
	expectZero(t, "no steps, one told", all(impl.ReorderSteps(plan(2, nil, 1), []int{0})))
	for _, order := range [][]int{nil, {0, 1}, {0, 1, 2, 3}, {0, 1, 1}, {0, 0, 1}, {0, 1, 3}, {-1, 0, 1}, {0, 1, math.MaxInt}, {math.MinInt, 1, 2}, {2, 0, 1}, {0, 2, 1}} {
		expectZero(t, fmt.Sprint("order ", order), all(impl.ReorderSteps(p, order)))
	}
	back := upTo(impl.MaxSteps)
	slices.Reverse(back)
	expect(t, "40 steps back", all(impl.ReorderSteps(squarings(impl.MaxSteps), back)), plan(1, make([]impl.Step, 40), 1), true)
}

func textOf(p impl.Plan) string {
	var products []string
	for _, s := range p.Steps {
		products = append(products, fmt.Sprintf("%d*%d", s.A, s.B))
	}
	var outputs []string
	for _, o := range p.Outputs {
		outputs = append(outputs, fmt.Sprint(o))
	}
	text := fmt.Sprintf("%d:%s:%s", p.Inputs, strings.Join(products, ","), strings.Join(outputs, ","))
	if len(outputs) == 0 {
		text += "-"
	}
	if len(products) == 0 {
		text = strings.Replace(text, "::", ":-:", 1)
	}
	return text
}

func TestTextsOfPlans(t *testing.T) {
	plans := append(smallPlans(2, 3, 2), samplePlans()...)
	for _, p := range append(plans, plan(1, doublings(19), 19, 10, 9), plan(6, nil, 5)) {
		text := textOf(p)
		expect(t, "text of "+text, all(impl.PlanText(p)), text, true)
		expect(t, "plan of "+text, all(impl.ParsePlan(text)), p, true)
	}
	expect(t, "nothing", all(impl.PlanText(plan(1, nil))), "1:-:-", true)
	expect(t, "no steps", all(impl.PlanText(plan(6, nil, 5, 0, 5))), "6:-:5,0,5", true)
	expect(t, "no outputs", all(impl.ParsePlan("2:0*1,2*2:-")), plan(2, steps(0, 1, 2, 2)), true)
}

func TestTextsOfNoPlans(t *testing.T) {
	texts := []string{
		"", "-", "1", ":", "::", "1:", "1::", "1:-", "1:-:", "1::-", ":-:-", "1:-:-:", "1:-:-:-", ":1:-:-", "1:-:0:0",
		"01:-:-", "+1:-:-", "-1:-:-", "-0:-:-", " 1:-:-", "1 :-:-", "1: -:-", "1:- :-", "1:-: -", "1:-:- ", "\n1:-:-", "1:-:-\n", "1:-:-\x00",
		"1:--:-", "1:-:--", "1:-,-:-", "1:-:-,-", "1:-,0*0:1", "1:0*0,-:1", "1:0*0:-,1", "1:0*0:1,-", "a:-:-", "1:a:-", "1:-:a",
		"1:0*0,:1", "1:,0*0:1", "1:,:1", "1:0*0,,0*1:1", "1:0*0:1,", "1:0*0:,1", "1:0*0:,", "1:0*0:0,,1",
		"1:0*:1", "1:*0:1", "1:*:1", "1:0:1", "1:0*0*0:1", "1:0**0:1", "1:0*0*:1", "1:*0*0:1", "1:0.0:1", "1:0x0:1",
		"1:00*0:1", "1:0*00:1", "1:+0*0:1", "1:0*+0:1", "1:-0*0:1", "1:0*-0:1", "1:0*0:01", "1:0*0:+1", "1:0*0:-1", "1:0*0:-0",
		"1: 0*0:1", "1:0 *0:1", "1:0* 0:1", "1:0*0 :1", "1:0*0: 1", "1:0*0:1 ", "1:0*0, 0*1:2", "1:0*0:0, 1", "1:0*0:0 1", "1:0*0;0*1:2",
		"1.0:-:-", "1e0:-:-", "0x1:-:-", "0b1:-:-", "1_0:-:-", "1:0*0:0_1", "１:-:-", "1:0*0:１", "\xff:-:-", "1:-:\xff", "1：-：-",
		"18446744073709551617:-:-", "4294967297:-:-", "1:0*18446744073709551616:1", "1:0*0:18446744073709551617", "99999999999999999999999:-:-",
		"0:-:-", "7:-:-", "1:1*1:1", "1:0*1:1", "2:1*0:2", "1:0*0:2", "1:-:1", "1:-:0,0,0,0,0,0,0",
		"(1:-:-)", "1:(0*0):1", "1:-:[]", "1:nil:-", "1:0*0:1#", strings.Repeat("1", 100000), strings.Repeat(":", 100000), "1:-:" + strings.Repeat("0,", 100000) + "0",
	}
	for _, text := range texts {
		expectZero(t, fmt.Sprintf("plan of %.40q", text), all(impl.ParsePlan(text)))
	}
	for name, p := range invalidPlans() {
		expectZero(t, "plan of "+name, all(impl.ParsePlan(textOf(p))))
	}
}

func TestTextsNearPlans(t *testing.T) {
	text := "2:0*1,2*2,0*3:4,0,1"
	p := plan(2, steps(0, 1, 2, 2, 0, 3), 4, 0, 1)
	for i := range text {
		for _, c := range []string{"", "0", "1", "2", "+", "-", " ", ",", ":", "*", "\t", "x"} {
			for _, near := range []string{text[:i] + c + text[i:], text[:i] + c + text[i+1:]} {
				got, ok := impl.ParsePlan(near)
				if ok && (textOf(got) != near || !impl.IsPlan(got)) {
					t.Errorf("ParsePlan(%q) is %v", near, got)
				}
				if !ok && !same(got, impl.Plan{}) {
					t.Errorf("ParsePlan(%q) fails with %v", near, got)
				}
			}
		}
	}
	expect(t, "plan of the text itself", all(impl.ParsePlan(text)), p, true)
}
