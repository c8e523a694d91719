package tests

import (
	"fmt"
	"math"
	"reflect"
	"testing"

	"loop.example/g01098/impl"
)

// planCalls has all functions of chapter 1 that are called with a plan.
func planCalls() []call[impl.Plan] {
	square := plan(1, steps(0, 0), 1)
	return []call[impl.Plan]{
		{"IsPlan", func(p impl.Plan) []any { return all(impl.IsPlan(p)) }},
		{"ValueExponents", func(p impl.Plan) []any { return all(impl.ValueExponents(p, 0)) }},
		{"OutputExponents", func(p impl.Plan) []any { return all(impl.OutputExponents(p)) }},
		{"SamePowers, first", func(p impl.Plan) []any { return all(impl.SamePowers(p, square)) }},
		{"SamePowers, second", func(p impl.Plan) []any { return all(impl.SamePowers(square, p)) }},
		{"SamePowers, both", func(p impl.Plan) []any { return all(impl.SamePowers(p, p)) }},
		{"CountsOf", func(p impl.Plan) []any { return all(impl.CountsOf(p)) }},
		{"DepthOf", func(p impl.Plan) []any { return all(impl.DepthOf(p)) }},
		{"UsedSteps", func(p impl.Plan) []any { return all(impl.UsedSteps(p)) }},
		{"IsTrim", func(p impl.Plan) []any { return all(impl.IsTrim(p)) }},
		{"TrimPlan", func(p impl.Plan) []any { return all(impl.TrimPlan(p)) }},
		{"SharePlan", func(p impl.Plan) []any { return all(impl.SharePlan(p)) }},
		{"ComposePlans, first", func(p impl.Plan) []any { return all(impl.ComposePlans(p, takingOutputsOf(p))) }},
		{"ComposePlans, first, more steps", func(p impl.Plan) []any { return all(impl.ComposePlans(p, withStep(takingOutputsOf(p)))) }},
		{"ComposePlans, second", func(p impl.Plan) []any { return all(impl.ComposePlans(givingInputsOf(p), p)) }},
		{"JoinPlans, first", func(p impl.Plan) []any { return all(impl.JoinPlans(p, impl.Plan{Inputs: p.Inputs})) }},
		{"JoinPlans, first, more steps", func(p impl.Plan) []any {
			return all(impl.JoinPlans(p, withStep(impl.Plan{Inputs: p.Inputs})))
		}},
		{"JoinPlans, second", func(p impl.Plan) []any { return all(impl.JoinPlans(impl.Plan{Inputs: p.Inputs}, p)) }},
		{"JoinPlans, second, more steps", func(p impl.Plan) []any {
			return all(impl.JoinPlans(withStep(impl.Plan{Inputs: p.Inputs}), p))
		}},
		{"PickOutputs, none", func(p impl.Plan) []any { return all(impl.PickOutputs(p, nil)) }},
		{"PickOutputs, one", func(p impl.Plan) []any { return all(impl.PickOutputs(p, []int{0})) }},
		{"FirstExponents", func(p impl.Plan) []any { return all(impl.FirstExponents(p)) }},
		{"ReorderSteps", func(p impl.Plan) []any { return all(impl.ReorderSteps(p, upTo(len(p.Steps)))) }},
		{"PlanText", func(p impl.Plan) []any { return all(impl.PlanText(p)) }},
	}
}

func upTo(count int) []int {
	list := make([]int, count)
	for i := range list {
		list[i] = i
	}
	return list
}

func takingOutputsOf(p impl.Plan) impl.Plan {
	return plan(min(max(len(p.Outputs), 1), impl.MaxInputs), nil, 0)
}

// withStep adds values to which numbers of another plan may wrongly point.
func withStep(p impl.Plan) impl.Plan {
	p.Steps = steps(0, 0, 0, 0)
	return p
}

func givingInputsOf(p impl.Plan) impl.Plan {
	return plan(1, nil, make([]int, min(max(p.Inputs, 0), impl.MaxOutputs))...)
}

// invalidPlans returns for each rule of plans some that break just this one.
func invalidPlans() map[string]impl.Plan {
	one := plan(1, steps(0, 0), 1)
	return map[string]impl.Plan{
		"zero":                        {},
		"no inputs":                   plan(0, steps(0, 0), 0),
		"no inputs, nothing else":     plan(0, nil),
		"-1 inputs":                   plan(-1, nil),
		"least number of inputs":      plan(math.MinInt, nil),
		"greatest number of inputs":   plan(math.MaxInt, steps(0, 0), 0),
		"MaxInputs + 1":               plan(impl.MaxInputs+1, nil, 0),
		"MaxSteps + 1":                squarings(impl.MaxSteps + 1),
		"MaxOutputs + 1":              plan(1, nil, make([]int, impl.MaxOutputs+1)...),
		"A greater than B":            plan(2, steps(1, 0), 2),
		"A negative":                  plan(1, steps(-1, 0), 1),
		"A least":                     plan(1, steps(math.MinInt, 0), 1),
		"A and B negative":            plan(1, steps(-2, -1), 1),
		"B its own value":             plan(1, steps(0, 1), 1),
		"A and B their own value":     plan(1, steps(1, 1), 1),
		"B its own value, later":      plan(2, steps(0, 0, 2, 3), 2),
		"B a later value":             plan(1, steps(0, 0, 0, 3, 0, 0), 1),
		"B greatest":                  plan(1, steps(0, math.MaxInt), 1),
		"output negative":             plan(1, one.Steps, -1),
		"output least":                plan(1, one.Steps, 0, math.MinInt),
		"output behind all values":    plan(1, one.Steps, 2),
		"output behind the inputs":    plan(3, nil, 0, 3),
		"output greatest":             plan(1, one.Steps, 1, math.MaxInt),
		"MaxExponent + 1":             powerPlan(impl.MaxExponent + 1),
		"MaxExponent + 1, no output":  plan(1, powerPlan(impl.MaxExponent+1).Steps),
		"MaxExponent + 1, last input": onLastOfTwo(powerPlan(impl.MaxExponent + 1)),
		"exponent far too great":      plan(1, doublings(impl.MaxSteps), 0),
	}
}

// onLastOfTwo has the same steps for the second of two inputs.
func onLastOfTwo(p impl.Plan) impl.Plan {
	q := plan(2, nil)
	for _, s := range p.Steps {
		q.Steps = append(q.Steps, impl.Step{A: s.A + 1, B: s.B + 1})
	}
	for _, o := range p.Outputs {
		q.Outputs = append(q.Outputs, o+1)
	}
	return q
}

func doublings(count int) []impl.Step {
	var list []impl.Step
	for i := range count {
		list = append(list, impl.Step{A: i, B: i})
	}
	return list
}

func TestInvalidPlansGiveZero(t *testing.T) {
	expectZeroOfAll(t, planCalls(), invalidPlans())
}

// roomy returns a copy of p with spare capacity behind its lists, full of numbers that no plan has.
func roomy(p impl.Plan) impl.Plan {
	room := []impl.Step{{A: -7, B: -7}, {A: -7, B: -7}, {A: -7, B: -7}}
	list := append(append([]impl.Step{}, p.Steps...), room...)
	outputs := append(append([]int{}, p.Outputs...), -7, -7, -7)
	return plan(p.Inputs, list[:len(p.Steps):len(list)], outputs[:len(p.Outputs):len(outputs)]...)
}

// whole shows a plan with what stands in its spare capacity.
func whole(p impl.Plan) string {
	return fmt.Sprint(p, p.Steps[:cap(p.Steps)], p.Outputs[:cap(p.Outputs)])
}

func samplePlans() []impl.Plan {
	return []impl.Plan{
		plan(1, nil),
		plan(1, nil, 0),
		plan(2, nil, 1, 0, 1),
		plan(1, steps(0, 0, 0, 1), 2),
		plan(1, steps(0, 0, 0, 0, 1, 2, 2, 2), 4, 3, 0, 4),
		plan(2, steps(0, 1, 0, 0, 0, 1, 3, 4), 5, 4),
		plan(6, steps(0, 5, 1, 4, 6, 7), 8, 8, 8, 8, 8, 8),
		powerPlan(impl.MaxExponent),
		squarings(impl.MaxSteps),
	}
}

func TestPlansStayAsTheyAre(t *testing.T) {
	expectNoTrace(t, planCalls(), samplePlans(), roomy, whole)
}

func TestListsStayAsTheyAre(t *testing.T) {
	p := plan(1, steps(0, 0, 0, 0, 1, 2), 3, 2)
	room := []int{1, 0, -7, -7, -7, -7, -7}
	picked, ok := impl.PickOutputs(p, room[:2])
	if !ok || !same(room, []int{1, 0, -7, -7, -7, -7, -7}) {
		t.Errorf("PickOutputs changes its list to %v", room)
	}
	overwriteAll(all(picked))
	if !same(room, []int{1, 0, -7, -7, -7, -7, -7}) {
		t.Errorf("PickOutputs returns memory of its list")
	}
	order := []int{1, 0, 2, -7, -7, -7}
	moved, ok := impl.ReorderSteps(p, order[:3])
	overwriteAll(all(moved))
	if !ok || !same(order, []int{1, 0, 2, -7, -7, -7}) {
		t.Errorf("ReorderSteps changes its order to %v", order)
	}
}

func TestRowsAreApart(t *testing.T) {
	rows, ok := impl.OutputExponents(plan(2, steps(0, 1), 2, 2, 0, 0))
	if !ok || len(rows) != 4 {
		t.Fatal("rows", rows)
	}
	for i := range rows {
		overwrite(reflect.ValueOf(rows[i]))
		for _, later := range rows[i+1:] {
			if later[0] < 0 || later[1] < 0 {
				t.Fatal("two rows share memory")
			}
		}
	}
}

func TestStrangePlansDoNotPanic(t *testing.T) {
	strange := []int{math.MinInt, math.MinInt + 1, -1, 0, 1, 2, 6, 7, 40, 41, math.MaxInt - 1, math.MaxInt}
	for _, inputs := range strange {
		for _, a := range strange {
			for _, b := range strange {
				for _, o := range strange {
					p := plan(inputs, steps(a, b), o)
					valid := 1 <= inputs && inputs <= 6 && 0 <= a && a <= b && b < inputs && 0 <= o && o <= inputs
					if impl.IsPlan(p) != valid {
						t.Fatalf("IsPlan(%v) is not %v", p, valid)
					}
					for _, c := range planCalls() {
						if got := c.run(p); !valid {
							expectZero(t, c.name, got)
						}
					}
				}
			}
		}
	}
}
