package tests

import (
	"fmt"
	"math"
	"slices"
	"testing"

	"loop.example/g01098/impl"
)

// dualCalls has all functions of chapter 5 that are called with a plan.
func dualCalls() []call[impl.Plan] {
	return []call[impl.Plan]{
		{"UsesOf", func(p impl.Plan) []any { return all(impl.UsesOf(p)) }},
		{"CanTurn", func(p impl.Plan) []any { return all(impl.CanTurn(p)) }},
		{"TurnPlan", func(p impl.Plan) []any { return all(impl.TurnPlan(p)) }},
		{"TurnedCost", func(p impl.Plan) []any { return all(impl.TurnedCost(p)) }},
		{"CountPaths, 0", func(p impl.Plan) []any { return all(impl.CountPaths(p, 0, 0)) }},
		{"CountPaths, 1", func(p impl.Plan) []any { return all(impl.CountPaths(p, 0, 1)) }},
		{"CountPaths, last", func(p impl.Plan) []any { return all(impl.CountPaths(p, 0, len(p.Steps))) }},
		{"FoldOutputs", func(p impl.Plan) []any { return all(impl.FoldOutputs(p)) }},
		{"CollapseInputs", func(p impl.Plan) []any { return all(impl.CollapseInputs(p)) }},
		{"LiveAt, 0", func(p impl.Plan) []any { return all(impl.LiveAt(p, 0)) }},
		{"LiveAt, 1", func(p impl.Plan) []any { return all(impl.LiveAt(p, 1)) }},
		{"LiveAt, last", func(p impl.Plan) []any { return all(impl.LiveAt(p, len(p.Steps))) }},
		{"WidthOf", func(p impl.Plan) []any { return all(impl.WidthOf(p)) }},
		{"SplitPlan, 0", func(p impl.Plan) []any { return all(impl.SplitPlan(p, 0)) }},
		{"SplitPlan, 1", func(p impl.Plan) []any { return all(impl.SplitPlan(p, 1)) }},
		{"SplitPlan, last", func(p impl.Plan) []any { return all(impl.SplitPlan(p, len(p.Steps))) }},
	}
}

// cutCalls has all functions of chapter 5 that are called with a number of steps; their plan has four.
func cutCalls() []call[int] {
	p := plan(2, steps(0, 1, 0, 1, 2, 3, 0, 4), 5, 3)
	return []call[int]{
		{"LiveAt", func(k int) []any { return all(impl.LiveAt(p, k)) }},
		{"LiveAt, no steps", func(k int) []any { return all(impl.LiveAt(plan(1, nil, 0), k)) }},
		{"SplitPlan", func(k int) []any { return all(impl.SplitPlan(p, k)) }},
		{"SplitPlan, no steps", func(k int) []any { return all(impl.SplitPlan(plan(1, nil, 0), k)) }},
	}
}

// pathCalls has CountPaths with each end and with both; its plan has six values.
func pathCalls() []call[int] {
	p := plan(2, steps(0, 1, 0, 1, 2, 3, 0, 4), 5, 3)
	return []call[int]{
		{"CountPaths, from", func(v int) []any { return all(impl.CountPaths(p, v, 5)) }},
		{"CountPaths, to", func(v int) []any { return all(impl.CountPaths(p, 0, v)) }},
		{"CountPaths, both", func(v int) []any { return all(impl.CountPaths(p, v, v)) }},
	}
}

// vectorCalls has all functions of chapter 5 that are called with powers.
func vectorCalls() []call[[]int] {
	return []call[[]int]{
		{"VectorPlan", func(list []int) []any { return all(impl.VectorPlan(list)) }},
		{"VectorCosts", func(list []int) []any { return all(impl.VectorCosts(list)) }},
	}
}

func rowCalls() []call[[][]int] {
	return []call[[][]int]{{"TransposeRows", func(rows [][]int) []any { return all(impl.TransposeRows(rows)) }}}
}

func TestInvalidPlansAreNotTurned(t *testing.T) {
	expectZeroOfAll(t, dualCalls(), invalidPlans())
}

func TestInvalidCutsGiveZero(t *testing.T) {
	expectZeroOfAll(t, cutCalls(), map[string]int{
		"-1":            -1,
		"MaxSteps + 1":  impl.MaxSteps + 1,
		"one too many":  5,
		"values":        6,
		"least":         math.MinInt,
		"greatest":      math.MaxInt,
		"near greatest": math.MaxInt - 1,
		"2^32":          1 << 32,
	})
	for count := range impl.MaxSteps + 1 {
		for _, k := range []int{-1, count + 1, count + 2} {
			expectZero(t, fmt.Sprint("live at ", k, " of ", count), all(impl.LiveAt(squarings(count), k)))
			expectZero(t, fmt.Sprint("split at ", k, " of ", count), all(impl.SplitPlan(squarings(count), k)))
		}
	}
}

func TestPathsOfNoValuesGiveZero(t *testing.T) {
	expectZeroOfAll(t, pathCalls(), map[string]int{
		"-1":           -1,
		"one too many": 6,
		"two too many": 7,
		"least":        math.MinInt,
		"greatest":     math.MaxInt,
		"2^32":         1 << 32,
	})
	expectZero(t, "both", all(impl.CountPaths(plan(1, nil), -1, 1)))
}

// turnablePlans are those that samplePlans has too few of, and one of which seven values are live.
func turnablePlans() []impl.Plan {
	return []impl.Plan{
		plan(1, steps(0, 0, 0, 1), 2, 1),
		plan(2, steps(0, 0, 0, 1, 2, 2, 3, 4), 5, 1, 5),
		plan(3, nil, 2, 1, 0),
		plan(6, steps(0, 1, 2, 3, 4, 5), 8, 7, 6),
		plan(6, steps(0, 1, 0, 1, 2, 3, 4, 5, 6, 7, 8, 9, 10, 11), 12),
		countingUp(impl.MaxSteps, 40),
		countingUp(impl.MaxSteps, 40, 40),
		countingUp(35, 0, 1, 2, 3, 4, 35),
	}
}

func TestTurnedPlansStayAsTheyAre(t *testing.T) {
	expectNoTrace(t, dualCalls(), append(samplePlans(), turnablePlans()...), roomy, whole)
}

func TestPowersOfVectorsStayAsTheyAre(t *testing.T) {
	samples := [][]int{nil, {1}, {2, 3}, {3, 1, 3}, {6, 6, 6, 6, 6, 6}, {1000, 1}, {0, 1}, {-1}, {7, 7, 7, 7, 7, 7, 7}}
	expectNoTrace(t, vectorCalls(), samples, roomyList, wholeList)
}

// roomyRows returns a copy with spare capacity behind each list, and behind the lists.
func roomyRows(rows [][]int) [][]int {
	var copied [][]int
	for _, row := range rows {
		copied = append(copied, roomyList(row))
	}
	copied = append(copied, []int{-7}, []int{-7, -7})
	return copied[:len(rows)]
}

func wholeRows(rows [][]int) string {
	var parts []string
	for _, row := range rows[:cap(rows)] {
		parts = append(parts, wholeList(row))
	}
	return fmt.Sprint(rows, parts)
}

func TestRowsStayAsTheyAre(t *testing.T) {
	samples := [][][]int{nil, {{}}, {{1}}, {{1, 2}, {3, 4}, {5, 6}}, {{1, 2, 3}}, {{1}, {2}, {3}}, {{1, 2}, {3}}, {{}, {}}, {{1}, {2, 3}}}
	expectNoTrace(t, rowCalls(), samples, roomyRows, wholeRows)
}

func TestColumnsAreApart(t *testing.T) {
	columns, ok := impl.TransposeRows([][]int{{1, 2, 3}, {4, 5, 6}})
	if !ok || len(columns) != 3 {
		t.Fatal("columns", columns)
	}
	for i := range columns {
		others := fmt.Sprint(columns[:i], columns[i+1:])
		overwriteAll(all(columns[i]))
		if fmt.Sprint(columns[:i], columns[i+1:]) != others {
			t.Fatalf("the column %d shares memory with others", i)
		}
	}
	row := []int{1, 2, 3}
	same, ok := impl.TransposeRows([][]int{row, row})
	overwriteAll(all(same))
	expect(t, "one list twice", all(row, ok), []int{1, 2, 3}, true)
}

func TestBothPartsAreApart(t *testing.T) {
	for _, p := range turnablePlans() {
		for k := range len(p.Steps) + 1 {
			first, second, _ := impl.SplitPlan(p, k)
			before := fmt.Sprint(second)
			overwriteAll(all(first))
			if fmt.Sprint(second) != before {
				t.Fatalf("the parts of %v at %d share memory", p, k)
			}
			first, second, _ = impl.SplitPlan(p, k)
			before = fmt.Sprint(first)
			overwriteAll(all(second))
			if fmt.Sprint(first) != before {
				t.Fatalf("the parts of %v at %d share memory", p, k)
			}
		}
	}
}

func TestStrangePlansAreNotTurned(t *testing.T) {
	strange := []int{math.MinInt, -1, 0, 1, 2, 6, 7, 40, math.MaxInt}
	for _, indices := range allLists(4, len(strange)) {
		p := plan(strange[indices[0]], steps(strange[indices[1]], strange[indices[2]]), strange[indices[3]])
		for _, c := range dualCalls() {
			if got := c.run(p); !impl.IsPlan(p) {
				expectZero(t, c.name, got)
			}
		}
		for _, k := range strange {
			_, ok := impl.LiveAt(p, k)
			_, _, split := impl.SplitPlan(p, k)
			if valid := impl.IsPlan(p) && (k == 0 || k == 1); ok != valid || split && !valid {
				t.Fatalf("live at %d of %v: %v, split: %v", k, p, ok, split)
			}
		}
	}
}

func TestStrangePowersHaveNoVectors(t *testing.T) {
	strange := []int{math.MinInt, -1, 0, 1, 2, 63, 64, impl.MaxExponent, impl.MaxExponent + 1, math.MaxInt}
	for length := range 4 {
		for _, indices := range allLists(length, len(strange)) {
			var list []int
			for _, at := range indices {
				list = append(list, strange[at])
			}
			expect(t, fmt.Sprint("vector ", list), all(impl.VectorPlan(list)), vectorOf(list)...)
			expect(t, fmt.Sprint("costs of ", list), all(impl.VectorCosts(list)), costsOf(list)...)
		}
	}
	expectZero(t, "very many", all(impl.VectorPlan(slices.Repeat([]int{1}, 100000))))
}
