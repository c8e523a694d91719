package tests

import (
	"fmt"
	"math"
	"slices"
	"testing"

	"loop.example/g01098/impl"
)

// mixer draws numbers by remainders, the same ones each time.
type mixer struct{ state uint64 }

func (m *mixer) below(n int) int {
	m.state = m.state*6364136223846793005 + 1442695040888963407
	return int(m.state>>33) % n
}

// mixedPlan draws a plan of any size; one that uses all its values can be turned round.
func mixedPlan(m *mixer, useAll bool) impl.Plan {
	p := plan(1+m.below(impl.MaxInputs), nil)
	unused := upTo(p.Inputs)
	totals := slices.Repeat([]int{1}, p.Inputs)
	for range m.below(impl.MaxSteps + 1) {
		a, b := m.below(len(totals)), m.below(len(totals))
		if useAll && len(unused) == impl.MaxOutputs {
			a = unused[m.below(len(unused))]
		}
		// From there on totals grow by at most 1 in each step.
		if totals[a]+totals[b] > impl.MaxExponent-100 {
			b = 0
		}
		unused = slices.DeleteFunc(unused, func(v int) bool { return v == a || v == b })
		unused = append(unused, len(totals))
		totals = append(totals, totals[a]+totals[b])
		p.Steps = append(p.Steps, impl.Step{A: min(a, b), B: max(a, b)})
	}
	if useAll {
		p.Outputs = unused
	}
	for range m.below(impl.MaxOutputs + 1 - len(p.Outputs)) {
		p.Outputs = append(p.Outputs, m.below(len(totals)))
	}
	return p
}

// dualPlans has small plans, plans of all sizes, and those of other tests.
func dualPlans() []impl.Plan {
	plans := append(smallPlans(2, 3, 2), samplePlans()...)
	m := &mixer{1}
	for range 2000 {
		plans = append(plans, mixedPlan(m, true), mixedPlan(m, false))
	}
	return plans
}

// usersOf returns the outputs that a value is, and the steps whose sides it is.
func usersOf(p impl.Plan, v int) ([]int, []int) {
	var outputs, list []int
	for i, o := range p.Outputs {
		if o == v {
			outputs = append(outputs, i)
		}
	}
	for i, s := range p.Steps {
		for _, side := range []int{s.A, s.B} {
			if side == v {
				list = append(list, i)
			}
		}
	}
	return outputs, list
}

func usesOf(p impl.Plan) []int {
	counts := make([]int, p.Inputs+len(p.Steps))
	for v := range counts {
		outputs, list := usersOf(p, v)
		counts[v] = len(outputs) + len(list)
	}
	return counts
}

// turnedOf writes down the turned plan, and has no result for plans that cannot be turned round.
func turnedOf(p impl.Plan) (drawing, []int, bool) {
	d := drawing{inputs: len(p.Outputs)}
	belongs := make([]int, p.Inputs+len(p.Steps))
	for v := len(belongs) - 1; v >= 0; v-- {
		factors, list := usersOf(p, v)
		for _, i := range list {
			factors = append(factors, belongs[p.Inputs+i])
		}
		if len(factors) == 0 {
			return drawing{}, nil, false
		}
		belongs[v] = factors[0]
		for _, f := range factors[1:] {
			belongs[v] = d.times(belongs[v], f)
		}
	}
	return d, belongs[:p.Inputs], true
}

// transposed goes through columns, not rows.
func transposed(rows [][]int) [][]int {
	var columns [][]int
	for i := range rows[0] {
		var column []int
		for _, row := range rows {
			column = append(column, row[i])
		}
		columns = append(columns, column)
	}
	return columns
}

func TestExampleOfChapter5(t *testing.T) {
	p, ok := impl.ParsePlan("1:0*0,0*1:2,1")
	expect(t, "its powers", all(impl.OutputExponents(p)), [][]int{{3}, {2}}, true)
	q, fine := impl.TurnPlan(p)
	expect(t, "turned", all(q, ok, fine), plan(2, steps(0, 1, 2, 2, 0, 3), 4), true, true)
	expect(t, "its text", all(impl.PlanText(q)), "2:0*1,2*2,0*3:4", true)
	expect(t, "its powers", all(impl.OutputExponents(q)), [][]int{{3, 2}}, true)
	expect(t, "its cost", all(impl.TurnedCost(p)), 3, true)
}

func TestUsesAndTurnedPlans(t *testing.T) {
	turnable := 0
	for _, p := range dualPlans() {
		what := fmt.Sprint(" of ", p)
		expect(t, "uses"+what, all(impl.UsesOf(p)), usesOf(p), true)
		d, outputs, can := turnedOf(p)
		expect(t, "turning"+what, all(impl.CanTurn(p)), can, true)
		if !can {
			expectZero(t, "turned"+what, all(impl.TurnPlan(p)))
			expectZero(t, "cost"+what, all(impl.TurnedCost(p)))
			continue
		}
		turnable++
		expect(t, "turned"+what, all(impl.TurnPlan(p)), d.result(outputs...)...)
		expect(t, "cost"+what, all(impl.TurnedCost(p)), len(d.list), true)
	}
	if turnable < 1000 {
		t.Errorf("only %d plans can be turned round", turnable)
	}
}

// TestTurnedPlansHaveExchangedExponents says the promise itself.
func TestTurnedPlansHaveExchangedExponents(t *testing.T) {
	for _, p := range dualPlans() {
		can, _ := impl.CanTurn(p)
		cost, ok := impl.TurnedCost(p)
		q, fine := impl.TurnPlan(p)
		if ok != can || fine != (can && cost <= impl.MaxSteps) {
			t.Fatalf("%v: turning is %v, the cost %d, %v, the turned plan %v", p, can, cost, ok, fine)
		}
		if !fine {
			continue
		}
		rows, ok := impl.OutputExponents(p)
		expect(t, fmt.Sprint("powers of turned ", p), all(impl.OutputExponents(q)), transposed(rows), ok)
		expect(t, fmt.Sprint("steps of turned ", p), all(len(q.Steps), len(q.Steps)), cost, len(p.Steps)+len(p.Outputs)-p.Inputs)
		again, ok := impl.TurnPlan(q)
		if !ok {
			t.Fatalf("turned %v cannot be turned back", p)
		}
		expect(t, fmt.Sprint("turned twice: ", p), all(impl.SamePowers(p, again)), true, true)
		expect(t, fmt.Sprint("steps of turned twice: ", p), all(len(again.Steps)), len(p.Steps))
	}
}

func TestUsesAtTheEdges(t *testing.T) {
	expect(t, "nothing", all(impl.UsesOf(plan(1, nil))), []int{0}, true)
	expect(t, "a squaring", all(impl.UsesOf(plan(1, steps(0, 0)))), []int{2, 0}, true)
	expect(t, "an output twice", all(impl.UsesOf(plan(1, steps(0, 0), 1, 1))), []int{2, 2}, true)
	expect(t, "an input as all outputs", all(impl.UsesOf(plan(2, nil, 1, 1, 1, 1, 1, 1))), []int{0, 6}, true)
	expect(t, "steps and an output", all(impl.UsesOf(plan(2, steps(0, 1, 2, 2, 0, 2), 2, 4))), []int{2, 1, 4, 0, 1}, true)
	expect(t, "40 squarings", all(impl.UsesOf(squarings(impl.MaxSteps))), append([]int{80}, append(make([]int, 39), 1)...), true)
	expect(t, "six inputs", all(impl.UsesOf(plan(6, steps(0, 5, 5, 6), 7, 0, 5))), []int{2, 0, 0, 0, 0, 3, 1, 1}, true)
}

func TestTurnPlanAtTheEdges(t *testing.T) {
	for name, p := range map[string]impl.Plan{
		"no outputs":                   plan(1, nil),
		"steps, no outputs":            plan(1, steps(0, 0, 0, 1)),
		"an input not used":            plan(2, steps(0, 0), 2),
		"the last input not used":      plan(6, steps(0, 1, 2, 3, 6, 7, 4, 8), 9),
		"the last value not used":      plan(1, steps(0, 0, 0, 1), 1),
		"a value between not used":     plan(1, steps(0, 0, 0, 0), 2),
		"an input not used, no steps":  plan(2, nil, 0, 0),
		"used by steps not used":       plan(2, steps(0, 0, 1, 1, 0, 2), 4),
		"all but the last of 40 steps": squarings(impl.MaxSteps),
	} {
		expect(t, "turning with "+name, all(impl.CanTurn(p)), false, true)
		expectZero(t, "turned with "+name, all(impl.TurnPlan(p)))
		expectZero(t, "cost with "+name, all(impl.TurnedCost(p)))
	}
	for text, want := range map[string]string{
		"1:-:0":                       "1:-:0",
		"1:-:0,0":                     "2:0*1:2",
		"1:-:0,0,0":                   "3:0*1,2*3:4",
		"1:0*0:1":                     "1:0*0:1",
		"1:0*0,1*1:2":                 "1:0*0,1*1:2",
		"1:0*0:1,1":                   "2:0*1,2*2:3",
		"1:0*0:0,1":                   "2:0*1,1*2:3",
		"1:0*0:1,0":                   "2:0*1,0*2:3",
		"2:-:0,1":                     "2:-:0,1",
		"2:-:1,0":                     "2:-:1,0",
		"2:-:1,0,1":                   "3:0*2:1,3",
		"2:0*1:2":                     "1:-:0,0",
		"2:0*1:2,0":                   "2:0*1:2,0",
		"2:0*1,2*2,0*3:4":             "1:0*0,0*1:2,1",
		"6:0*1,2*6,3*7,4*8,5*9:10":    "1:-:0,0,0,0,0,0",
		"1:0*0,0*1,0*1:2,3":           "2:0*1,2*2,0*3,1*4:5",
		"2:0*0,1*1,0*3,2*4:5":         "1:0*0,0*0,0*2:3,1",
		"3:0*2,1*2:4,3":               "2:0*1:1,0,2",
		"1:0*0,1*1,0*2,0*3:3,4,0,4,2": "5:1*3,0*5,4*6,7*7,2*8,8*9,6*10,5*11:12",
	} {
		p, ok := impl.ParsePlan(text)
		q, fine := impl.TurnPlan(p)
		got, right := impl.PlanText(q)
		expect(t, "turned "+text, all(got, ok, fine, right), want, true, true, true)
	}
}

// countingUp makes the powers 2, 3, .. of one input, each one by the one before and the input.
func countingUp(count int, outputs ...int) impl.Plan {
	var list []impl.Step
	for i := range count {
		list = append(list, impl.Step{A: 0, B: i})
	}
	return plan(1, list, outputs...)
}

func TestTurnPlanAtTheLimits(t *testing.T) {
	for cost, p := range map[int]impl.Plan{
		39: countingUp(39, 39),
		40: countingUp(40, 40),
		41: countingUp(40, 40, 0),
		42: countingUp(40, 40, 40, 40),
		45: countingUp(40, 1, 2, 3, 4, 5, 40),
	} {
		d, outputs, ok := turnedOf(p)
		expect(t, fmt.Sprint("steps for ", cost), all(len(d.list), ok), cost, true)
		expect(t, fmt.Sprint("can turn for ", cost), all(impl.CanTurn(p)), true, true)
		expect(t, fmt.Sprint("cost ", cost), all(impl.TurnedCost(p)), cost, true)
		expect(t, fmt.Sprint("turned for ", cost), all(impl.TurnPlan(p)), d.result(outputs...)...)
	}
	// As many inputs as outputs, and so as many steps as before: 35 of them with all six inputs in them.
	six := plan(6, steps(0, 1, 2, 6, 3, 7, 4, 8, 5, 9), 0, 1, 2, 3, 4)
	for i := range 35 {
		six.Steps = append(six.Steps, impl.Step{A: 0, B: 10 + i})
	}
	six.Outputs = append(six.Outputs, 45)
	q, ok := impl.TurnPlan(six)
	expect(t, "MaxInputs, MaxSteps and MaxOutputs", all(q.Inputs, len(q.Steps), len(q.Outputs), ok), 6, 40, 6, true)
	expect(t, "their powers", all(impl.OutputExponents(q)), [][]int{{1, 0, 0, 0, 0, 36}, {0, 1, 0, 0, 0, 1}, {0, 0, 1, 0, 0, 1}, {0, 0, 0, 1, 0, 1}, {0, 0, 0, 0, 1, 1}, {0, 0, 0, 0, 0, 1}}, true)
	greatest := powerPlan(impl.MaxExponent)
	greatest.Outputs = append(greatest.Outputs, greatest.Outputs[0])
	q, ok = impl.TurnPlan(greatest)
	expect(t, "MaxExponent", all(len(q.Steps), ok), 26, true)
	expect(t, "its powers", all(impl.OutputExponents(q)), [][]int{{impl.MaxExponent, impl.MaxExponent}}, true)
}

func TestTransposeRows(t *testing.T) {
	m := &mixer{2}
	for rows := 1; rows <= 41; rows++ {
		for columns := range 42 {
			list := make([][]int, rows)
			for i := range list {
				for range columns {
					list[i] = append(list[i], m.below(1000)-500)
				}
			}
			what := fmt.Sprint(rows, " lists of ", columns)
			if rows > 40 || columns > 40 {
				expectZero(t, what, all(impl.TransposeRows(list)))
				continue
			}
			got, ok := impl.TransposeRows(list)
			expect(t, what, all(got, ok), transposed(list), true)
			if columns > 0 {
				expect(t, what+", twice", all(impl.TransposeRows(got)), list, true)
			}
		}
	}
}

func TestTransposeRowsAtTheEdges(t *testing.T) {
	expect(t, "one number", all(impl.TransposeRows([][]int{{7}})), [][]int{{7}}, true)
	expect(t, "any integers", all(impl.TransposeRows([][]int{{math.MinInt, -1}, {math.MaxInt, 0}})), [][]int{{math.MinInt, math.MaxInt}, {-1, 0}}, true)
	expect(t, "no elements", all(impl.TransposeRows([][]int{{}})), [][]int{}, true)
	expect(t, "no elements, nil", all(impl.TransposeRows([][]int{nil, {}, nil})), [][]int{}, true)
	expect(t, "no elements in 40", all(impl.TransposeRows(make([][]int, 40))), [][]int{}, true)
	for name, rows := range map[string][][]int{
		"no lists":                nil,
		"no lists, empty":         {},
		"41 without elements":     make([][]int, 41),
		"many without elements":   make([][]int, 100000),
		"a shorter one":           {{1, 2}, {3}},
		"a longer one":            {{1}, {2, 3}},
		"an empty one first":      {{}, {1}},
		"an empty one last":       {{1}, {2}, nil},
		"41 elements":             {make([]int, 41)},
		"41 elements in one of 2": {make([]int, 40), make([]int, 41)},
		"many elements":           {make([]int, 100000), make([]int, 100000)},
	} {
		expectZero(t, name, all(impl.TransposeRows(rows)))
	}
}

// pathsFrom goes up from a value, and tells for each value how many paths lead to it.
func pathsFrom(p impl.Plan, a int) []int {
	paths := make([]int, p.Inputs+len(p.Steps))
	for v := range paths {
		if v >= p.Inputs {
			paths[v] = paths[p.Steps[v-p.Inputs].A] + paths[p.Steps[v-p.Inputs].B]
		}
		if v == a {
			paths[v] = 1
		}
	}
	return paths
}

// walksFrom goes all paths one by one.
func walksFrom(p impl.Plan, a int, b int) int {
	if a == b {
		return 1
	}
	count := 0
	_, list := usersOf(p, a)
	for _, i := range list {
		count += walksFrom(p, p.Inputs+i, b)
	}
	return count
}

func TestCountPaths(t *testing.T) {
	plans := append(smallPlans(2, 3, 1), samplePlans()...)
	m := &mixer{3}
	for range 200 {
		plans = append(plans, mixedPlan(m, false))
	}
	for _, p := range plans {
		for a := range p.Inputs + len(p.Steps) {
			for b, count := range pathsFrom(p, a) {
				if n, ok := impl.CountPaths(p, a, b); n != count || !ok {
					t.Fatalf("paths of %v from %d to %d: %d, not %d", p, a, b, n, count)
				}
			}
		}
	}
	for _, p := range smallPlans(2, 3, 1) {
		for _, ends := range allLists(2, p.Inputs+len(p.Steps)) {
			expect(t, fmt.Sprint("paths of ", p, ends), all(impl.CountPaths(p, ends[0], ends[1])), walksFrom(p, ends[0], ends[1]), true)
		}
	}
}

// TestPathsFromInputsAreExponents says what paths are counted for.
func TestPathsFromInputsAreExponents(t *testing.T) {
	for _, p := range dualPlans() {
		for v := range p.Inputs + len(p.Steps) {
			row, ok := impl.ValueExponents(p, v)
			for i, e := range row {
				if n, fine := impl.CountPaths(p, i, v); !ok || !fine || n != e {
					t.Fatalf("paths of %v from %d to %d: %d, not %d", p, i, v, n, e)
				}
			}
		}
	}
}

func TestCountPathsAtTheEdges(t *testing.T) {
	cube := plan(1, steps(0, 0, 0, 1))
	for _, c := range [][3]int{{0, 0, 1}, {1, 1, 1}, {2, 2, 1}, {0, 1, 2}, {0, 2, 3}, {1, 2, 1}, {1, 0, 0}, {2, 0, 0}, {2, 1, 0}} {
		expect(t, fmt.Sprint("paths of the cube from ", c[0], " to ", c[1]), all(impl.CountPaths(cube, c[0], c[1])), c[2], true)
	}
	expect(t, "from an input to another one", all(impl.CountPaths(plan(2, nil), 0, 1)), 0, true)
	expect(t, "to a step of other inputs", all(impl.CountPaths(plan(3, steps(0, 1), 3), 2, 3)), 0, true)
	expect(t, "outputs are no ends", all(impl.CountPaths(plan(1, steps(0, 0), 1, 1, 1), 0, 1)), 2, true)
	expect(t, "beside each other", all(impl.CountPaths(squarings(impl.MaxSteps), 39, 40)), 0, true)
	expect(t, "MaxSteps", all(impl.CountPaths(squarings(impl.MaxSteps), 0, 40)), 2, true)
	expect(t, "MaxExponent", all(impl.CountPaths(powerPlan(impl.MaxExponent), 0, 25)), impl.MaxExponent, true)
	expect(t, "past the first step", all(impl.CountPaths(powerPlan(impl.MaxExponent), 1, 25)), 1<<18, true)
}

// foldedOf writes down FoldOutputs; exponents are added for all inputs.
func foldedOf(p impl.Plan) []any {
	if len(p.Outputs) == 0 {
		return all(impl.Plan{}, false)
	}
	rows, _ := impl.OutputExponents(p)
	for _, column := range transposed(rows) {
		sum := 0
		for _, e := range column {
			sum += e
		}
		if sum > impl.MaxExponent {
			return all(impl.Plan{}, false)
		}
	}
	d := drawing{p.Inputs, slices.Clone(p.Steps)}
	value := p.Outputs[0]
	for _, o := range p.Outputs[1:] {
		value = d.times(value, o)
	}
	return d.result(value)
}

func TestFoldOutputs(t *testing.T) {
	for _, p := range dualPlans() {
		expect(t, fmt.Sprint("folded ", p), all(impl.FoldOutputs(p)), foldedOf(p)...)
	}
}

func TestFoldOutputsAtTheEdges(t *testing.T) {
	expect(t, "cube and square", all(impl.FoldOutputs(plan(1, steps(0, 0, 0, 1), 2, 1))), plan(1, steps(0, 0, 0, 1, 1, 2), 3), true)
	expect(t, "one output", all(impl.FoldOutputs(plan(2, steps(0, 0, 1, 1), 0))), plan(2, steps(0, 0, 1, 1), 0), true)
	expect(t, "the same one twice", all(impl.FoldOutputs(plan(2, nil, 1, 1))), plan(2, steps(1, 1), 2), true)
	expect(t, "the same one three times", all(impl.FoldOutputs(plan(1, steps(0, 0), 1, 1, 1))), plan(1, steps(0, 0, 1, 1, 1, 2), 3), true)
	expect(t, "inputs in no order", all(impl.FoldOutputs(plan(3, nil, 2, 0, 1))), plan(3, steps(0, 2, 1, 3), 4), true)
	expectZero(t, "no outputs", all(impl.FoldOutputs(plan(1, steps(0, 0)))))
	expectZero(t, "no steps, no outputs", all(impl.FoldOutputs(plan(6, nil))))
	full := countingUp(impl.MaxSteps, 40)
	expect(t, "one output of MaxSteps", all(impl.FoldOutputs(full)), full, true)
	expectZero(t, "two outputs of MaxSteps", all(impl.FoldOutputs(countingUp(40, 1, 1))))
	got, ok := impl.FoldOutputs(countingUp(35, 0, 1, 2, 3, 4, 5))
	expect(t, "MaxSteps by MaxOutputs", all(got.Steps[35:], len(got.Steps), got.Outputs, ok), steps(0, 1, 2, 36, 3, 37, 4, 38, 5, 39), 40, []int{40}, true)
	expectZero(t, "MaxSteps + 1 by MaxOutputs", all(impl.FoldOutputs(countingUp(36, 0, 1, 2, 3, 4, 5))))
	half := powerPlan(impl.MaxExponent / 2)
	half.Outputs = append(half.Outputs, half.Outputs[0])
	got, ok = impl.FoldOutputs(half)
	expect(t, "two halves of MaxExponent", all(ok), true)
	expect(t, "their powers", all(impl.OutputExponents(got)), [][]int{{impl.MaxExponent}}, true)
	half.Outputs = append(half.Outputs, 0)
	expectZero(t, "MaxExponent + 1", all(impl.FoldOutputs(half)))
	both := productPower(impl.MaxExponent)
	both.Outputs = append(both.Outputs, 1)
	expectZero(t, "MaxExponent + 1 of the second input", all(impl.FoldOutputs(both)))
}

// collapsedOf gives each value its new number and adds up its exponents.
func collapsedOf(p impl.Plan) []any {
	at := func(v int) int { return max(v-p.Inputs+1, 0) }
	q := plan(1, nil)
	for _, s := range p.Steps {
		q.Steps = append(q.Steps, impl.Step{A: at(s.A), B: at(s.B)})
	}
	for _, o := range p.Outputs {
		q.Outputs = append(q.Outputs, at(o))
	}
	for v := range p.Inputs + len(p.Steps) {
		row, _ := impl.ValueExponents(p, v)
		sum := 0
		for _, e := range row {
			sum += e
		}
		if sum > impl.MaxExponent {
			return all(impl.Plan{}, false)
		}
	}
	return all(q, true)
}

func TestCollapseInputs(t *testing.T) {
	for _, p := range dualPlans() {
		expect(t, fmt.Sprint("collapsed ", p), all(impl.CollapseInputs(p)), collapsedOf(p)...)
	}
}

func TestCollapseInputsAtTheEdges(t *testing.T) {
	expect(t, "one input", all(impl.CollapseInputs(plan(1, steps(0, 0), 1, 0))), plan(1, steps(0, 0), 1, 0), true)
	expect(t, "two inputs", all(impl.CollapseInputs(plan(2, steps(0, 1, 2, 2), 3, 1, 0))), plan(1, steps(0, 0, 1, 1), 2, 0, 0), true)
	expect(t, "six inputs", all(impl.CollapseInputs(plan(6, steps(3, 5, 2, 6, 0, 0), 7, 6, 5, 4, 0, 8))), plan(1, steps(0, 0, 0, 1, 0, 0), 2, 1, 0, 0, 0, 3), true)
	expect(t, "six inputs, nothing else", all(impl.CollapseInputs(plan(6, nil))), plan(1, nil), true)
	expect(t, "no steps", all(impl.CollapseInputs(plan(3, nil, 2, 0, 1, 1, 1, 2))), plan(1, nil, 0, 0, 0, 0, 0, 0), true)
	expect(t, "MaxSteps", all(impl.CollapseInputs(squarings(impl.MaxSteps))), squarings(impl.MaxSteps), true)
	half := productPower(impl.MaxExponent / 2)
	got, ok := impl.CollapseInputs(half)
	expect(t, "two halves of MaxExponent", all(ok), true)
	expect(t, "their powers", all(impl.OutputExponents(got)), [][]int{{impl.MaxExponent}}, true)
	half.Steps = append(half.Steps, impl.Step{A: 0, B: half.Outputs[0]})
	expectZero(t, "MaxExponent + 1, no output", all(impl.CollapseInputs(half)))
	expectZero(t, "MaxExponent twice", all(impl.CollapseInputs(productPower(impl.MaxExponent))))
}

// vectorOf writes down VectorPlan.
func vectorOf(powers []int) []any {
	squares := squaresOf(powers)
	if squares[1] == false {
		return squares
	}
	d, outputs, _ := turnedOf(squares[0].(impl.Plan))
	return d.result(outputs...)
}

func costsOf(powers []int) []any {
	together, vector := togetherOf(powers), vectorOf(powers)
	if together[1] == false || vector[1] == false {
		return all(0, 0, false)
	}
	return all(len(together[0].(impl.Plan).Steps), len(vector[0].(impl.Plan).Steps), true)
}

func expectVector(t *testing.T, powers ...int) {
	t.Helper()
	got := all(impl.VectorPlan(powers))
	expect(t, fmt.Sprint("vector ", powers), got, vectorOf(powers)...)
	expect(t, fmt.Sprint("costs of ", powers), all(impl.VectorCosts(powers)), costsOf(powers)...)
	if got[1] == true {
		rows, ok := impl.OutputExponents(got[0].(impl.Plan))
		expect(t, fmt.Sprint("powers of vector ", powers), all(rows, ok), [][]int{powers}, true)
	}
}

func TestVectorPlan(t *testing.T) {
	for _, powers := range manyTargets() {
		expectVector(t, powers...)
	}
}

func TestVectorPlanAtTheEdges(t *testing.T) {
	expect(t, "1", all(impl.VectorPlan([]int{1})), plan(1, nil, 0), true)
	expect(t, "4", all(impl.VectorPlan([]int{4})), plan(1, steps(0, 0, 1, 1), 2), true)
	expect(t, "1 and 1", all(impl.VectorPlan([]int{1, 1})), plan(2, steps(0, 1), 2), true)
	expect(t, "2 and 1", all(impl.VectorPlan([]int{2, 1})), plan(2, steps(0, 1, 0, 2), 3), true)
	expect(t, "3 and 2", all(impl.VectorPlan([]int{3, 2})), plan(2, steps(0, 1, 2, 2, 0, 3), 4), true)
	expect(t, "six", all(impl.VectorPlan([]int{1, 1, 1, 1, 1, 1})), plan(6, steps(0, 1, 2, 6, 3, 7, 4, 8, 5, 9), 10), true)
	expect(t, "equal ones", all(impl.VectorPlan([]int{2, 2})), plan(2, steps(0, 1, 2, 2), 3), true)
	expect(t, "costs of 1", all(impl.VectorCosts([]int{1})), 0, 0, true)
	expect(t, "costs of six", all(impl.VectorCosts([]int{3, 1, 3, 2, 1, 1})), 8, 8, true)
	expect(t, "only together", all(impl.VectorCosts([]int{5, 0})), 0, 0, false)
	expect(t, "only together, 0 first", all(impl.VectorCosts([]int{0, 1})), 0, 0, false)
	for name, powers := range invalidTargets() {
		expectZero(t, name, all(impl.VectorPlan(powers)))
		expectZero(t, "costs: "+name, all(impl.VectorCosts(powers)))
	}
}

func TestVectorPlanAtTheLimits(t *testing.T) {
	// 18 squares, 18 products, and for each other power as many factors as digits 1.
	ones := 1<<19 - 1
	p, ok := impl.VectorPlan([]int{ones, 7, 1})
	expect(t, "MaxSteps", all(len(p.Steps), ok), 40, true)
	expect(t, "costs, MaxSteps", all(impl.VectorCosts([]int{ones, 7, 1})), 40, 40, true)
	squares, ok := impl.SquaresPlan([]int{ones, 7, 3})
	expect(t, "squares that are turned to MaxSteps + 1", all(len(squares.Steps), ok), 39, true)
	expect(t, "their cost", all(impl.TurnedCost(squares)), 41, true)
	expectZero(t, "MaxSteps + 1", all(impl.VectorPlan([]int{ones, 7, 3})))
	expectZero(t, "costs, MaxSteps + 1", all(impl.VectorCosts([]int{ones, 7, 3})))
	expectZero(t, "no squares", all(impl.VectorPlan([]int{ones, ones, ones})))
	p, ok = impl.VectorPlan([]int{impl.MaxExponent, 1, 1, 1, 1, 1})
	expect(t, "MaxExponent, MaxOutputs", all(p.Inputs, len(p.Steps), ok), 6, 30, true)
	expect(t, "costs, MaxExponent", all(impl.VectorCosts([]int{impl.MaxExponent, impl.MaxExponent})), 32, 32, true)
}

// liveOf looks for a use of each value behind the cut.
func liveOf(p impl.Plan, k int) []int {
	var live []int
	for v := range p.Inputs + k {
		outputs, list := usersOf(p, v)
		if len(outputs) > 0 || len(list) > 0 && endOf(list) >= k {
			live = append(live, v)
		}
	}
	return live
}

// splitOf numbers the values behind the cut by their place among those that are there.
func splitOf(p impl.Plan, k int) []any {
	live := liveOf(p, k)
	if len(live) < 1 || len(live) > 6 {
		return all(impl.Plan{}, impl.Plan{}, false)
	}
	there := slices.Clone(live)
	q := plan(len(live), nil)
	for i, s := range p.Steps[k:] {
		q.Steps = append(q.Steps, impl.Step{A: slices.Index(there, s.A), B: slices.Index(there, s.B)})
		there = append(there, p.Inputs+k+i)
	}
	for _, o := range p.Outputs {
		q.Outputs = append(q.Outputs, slices.Index(there, o))
	}
	return all(plan(p.Inputs, p.Steps[:k], live...), q, true)
}

func TestLiveValuesAndSplitPlans(t *testing.T) {
	split, failed := 0, 0
	for _, p := range dualPlans() {
		width := 0
		for k := range len(p.Steps) + 1 {
			what := fmt.Sprint(" of ", p, " at ", k)
			live := liveOf(p, k)
			width = max(width, len(live))
			expect(t, "live"+what, all(impl.LiveAt(p, k)), live, true)
			first, second, ok := impl.SplitPlan(p, k)
			expect(t, "split"+what, all(first, second, ok), splitOf(p, k)...)
			if !ok {
				failed++
				continue
			}
			split++
			expect(t, "composed again"+what, all(impl.ComposePlans(first, second)), p, true)
		}
		expect(t, fmt.Sprint("width of ", p), all(impl.WidthOf(p)), width, true)
	}
	if split < 10000 || failed < 10000 {
		t.Errorf("%d are split and %d are not", split, failed)
	}
}

func TestLiveAtAndSplitPlanAtTheEdges(t *testing.T) {
	p := plan(2, steps(0, 0, 1, 2, 3, 3), 4, 3)
	for k, live := range [][]int{{0, 1}, {1, 2}, {3}, {3, 4}} {
		expect(t, fmt.Sprint("live at ", k), all(impl.LiveAt(p, k)), live, true)
	}
	expect(t, "width", all(impl.WidthOf(p)), 2, true)
	expect(t, "before the first step", all(impl.SplitPlan(p, 0)), plan(2, nil, 0, 1), p, true)
	expect(t, "behind the last one", all(impl.SplitPlan(p, 3)), plan(2, p.Steps, 3, 4), plan(2, nil, 1, 0), true)
	expect(t, "between", all(impl.SplitPlan(p, 2)), plan(2, steps(0, 0, 1, 2), 3), plan(1, steps(0, 0), 1, 0), true)
	unused := plan(3, steps(1, 1, 2, 2), 3, 3)
	expect(t, "inputs not used", all(impl.SplitPlan(unused, 0)), plan(3, nil, 1, 2), plan(2, steps(0, 0, 1, 1), 2, 2), true)
	expect(t, "a step not used", all(impl.SplitPlan(unused, 2)), plan(3, unused.Steps, 3), plan(1, nil, 0, 0), true)
	expect(t, "an output between", all(impl.LiveAt(plan(1, steps(0, 0, 0, 0), 1), 2)), []int{1}, true)
	expect(t, "used by a step not used", all(impl.LiveAt(plan(1, steps(0, 0, 1, 1)), 1)), []int{1}, true)
}

func TestPlansOfWhichNothingIsLive(t *testing.T) {
	expect(t, "nothing", all(impl.LiveAt(plan(2, nil), 0)), []int{}, true)
	expect(t, "width 0", all(impl.WidthOf(plan(2, nil))), 0, true)
	expectZero(t, "split without inputs", all(impl.SplitPlan(plan(2, nil), 0)))
	square := plan(1, steps(0, 0))
	expect(t, "no outputs behind the last step", all(impl.LiveAt(square, 1)), []int{}, true)
	expect(t, "width 1", all(impl.WidthOf(square)), 1, true)
	expectZero(t, "split behind the last step", all(impl.SplitPlan(square, 1)))
	expect(t, "split before", all(impl.SplitPlan(square, 0)), plan(1, nil, 0), square, true)
}

func TestSplitPlanAtTheLimits(t *testing.T) {
	// All six inputs are needed behind the first step, too.
	seven := plan(6, steps(0, 1, 0, 1, 2, 3, 4, 5, 6, 7, 8, 9, 10, 11), 12)
	expect(t, "seven are live", all(impl.LiveAt(seven, 1)), upTo(7), true)
	expectZero(t, "split with seven", all(impl.SplitPlan(seven, 1)))
	expect(t, "width of seven", all(impl.WidthOf(seven)), 7, true)
	expect(t, "six are live", all(impl.LiveAt(seven, 2)), []int{2, 3, 4, 5, 6, 7}, true)
	first, second, ok := impl.SplitPlan(seven, 2)
	expect(t, "split with six", all(first, second, ok), plan(6, steps(0, 1, 0, 1), 2, 3, 4, 5, 6, 7), plan(6, steps(0, 1, 2, 3, 4, 5, 6, 7, 8, 9), 10), true)
	expect(t, "composed again", all(impl.ComposePlans(first, second)), seven, true)
	// Twenty squares, and products of two of them, of two of these, and so on.
	wide := plan(1, make([]impl.Step, 20), 39)
	for v := 1; v < 39; v += 2 {
		wide.Steps = append(wide.Steps, impl.Step{A: v, B: v + 1})
	}
	expect(t, "width 20", all(impl.WidthOf(wide)), 20, true)
	expect(t, "20 are live", all(impl.LiveAt(wide, 20)), upTo(21)[1:], true)
	expectZero(t, "split with 20", all(impl.SplitPlan(wide, 20)))
	for _, k := range []int{0, 1, 5, 34, 39} {
		first, second, ok := impl.SplitPlan(wide, k)
		again, fine := impl.ComposePlans(first, second)
		expect(t, fmt.Sprint("split at ", k), all(again, ok, fine), wide, true, true)
	}
	// Seven are live here: the input and six squares at first, and then squares and products.
	expectZero(t, "split at 6", all(impl.SplitPlan(wide, 6)))
	expectZero(t, "split at 33", all(impl.SplitPlan(wide, 33)))
}
