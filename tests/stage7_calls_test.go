package tests

import (
	"fmt"
	"math"
	"slices"
	"testing"

	"loop.example/g01098/impl"
)

// orderedCalls has all functions of chapter 7 that are called with a plan.
func orderedCalls() []call[impl.Plan] {
	return []call[impl.Plan]{
		{"NeededAfter, 0", func(p impl.Plan) []any { return all(impl.NeededAfter(p, 0)) }},
		{"NeededAfter, all", func(p impl.Plan) []any { return all(impl.NeededAfter(p, len(p.Steps))) }},
		{"PressureOf", func(p impl.Plan) []any { return all(impl.PressureOf(p)) }},
		{"AllocatePlan", func(p impl.Plan) []any { return all(impl.AllocatePlan(p)) }},
		{"CheckRegCode", func(p impl.Plan) []any { return all(impl.CheckRegCode(code(1, []int{0}, nil, 0), p)) }},
		{"CheckRegCode, no outputs", func(p impl.Plan) []any { return all(impl.CheckRegCode(code(1, []int{0}, nil), p)) }},
		{"CountOrders", func(p impl.Plan) []any { return all(impl.CountOrders(p)) }},
		{"FewestRegisters", func(p impl.Plan) []any { return all(impl.FewestRegisters(p)) }},
		{"BestOrder", func(p impl.Plan) []any { return all(impl.BestOrder(p)) }},
		{"OrdersWithin, 0", func(p impl.Plan) []any { return all(impl.OrdersWithin(p, 0)) }},
		{"OrdersWithin, 3", func(p impl.Plan) []any { return all(impl.OrdersWithin(p, 3)) }},
		{"OrdersWithin, MaxRegisters", func(p impl.Plan) []any { return all(impl.OrdersWithin(p, impl.MaxRegisters)) }},
	}
}

// codeCalls has all functions of chapter 7 that are called with code.
func codeCalls() []call[impl.RegCode] {
	return []call[impl.RegCode]{
		{"IsRegCode", func(c impl.RegCode) []any { return all(impl.IsRegCode(c)) }},
		{"RegCodePlan", func(c impl.RegCode) []any { return all(impl.RegCodePlan(c)) }},
		{"RunRegCode", func(c impl.RegCode) []any { return all(impl.RunRegCode(c, 7, slices.Repeat([]int{3}, len(c.Inputs)))) }},
		{"CheckRegCode", func(c impl.RegCode) []any { return all(impl.CheckRegCode(c, plan(1, nil, 0))) }},
		{"CheckRegCode, as many inputs", func(c impl.RegCode) []any {
			return all(impl.CheckRegCode(c, plan(min(max(len(c.Inputs), 1), 6), nil)))
		}},
		{"RenameRegisters, as they are", func(c impl.RegCode) []any { return all(impl.RenameRegisters(c, namesFor(c))) }},
		{"RenameRegisters, back", func(c impl.RegCode) []any {
			names := namesFor(c)
			slices.Reverse(names)
			return all(impl.RenameRegisters(c, names))
		}},
		{"PackRegisters", func(c impl.RegCode) []any { return all(impl.PackRegisters(c)) }},
		{"RegCodeText", func(c impl.RegCode) []any { return all(impl.RegCodeText(c)) }},
	}
}

// namesFor has as many names as there are registers, also of code that has too many or none, as far as lists can be so long.
func namesFor(c impl.RegCode) []int { return upTo(min(max(c.Registers, 0), 100)) }

// invalidCodes returns for each rule of code some that break just this one.
func invalidCodes() map[string]impl.RegCode {
	zero := []int{0}
	codes := map[string]impl.RegCode{
		"zero":                         {},
		"no registers":                 code(0, zero, nil),
		"no registers, no inputs":      code(0, nil, nil),
		"-1 registers":                 code(-1, zero, nil),
		"least number of registers":    code(math.MinInt, zero, nil),
		"greatest number of registers": code(math.MaxInt, zero, nil),
		"MaxRegisters + 1":             code(impl.MaxRegisters+1, zero, nil, 0),
		"2^32 + 1 registers":           code(1<<32+1, zero, nil, 0),
		"no inputs":                    code(1, nil, nil),
		"no inputs, an Op":             code(2, nil, ops(0, 0, 0), 0),
		"MaxInputs + 1":                code(7, upTo(impl.MaxInputs+1), nil, 0),
		"very many inputs":             code(1, make([]int, 100000), nil),
		"MaxSteps + 1":                 code(2, zero, slices.Repeat(ops(1, 0, 0), impl.MaxSteps+1), 1),
		"very many Ops":                code(2, zero, slices.Repeat(ops(1, 0, 0), 100000)),
		"MaxOutputs + 1":               code(1, zero, nil, make([]int, impl.MaxOutputs+1)...),
		"very many outputs":            code(1, zero, nil, make([]int, 100000)...),
		"inputs that share":            code(2, []int{0, 0}, nil, 0),
		"inputs that share, not near":  code(3, []int{1, 0, 1}, nil, 0),
		"inputs that share the last":   code(46, []int{45, 0, 1, 2, 3, 45}, nil),
		"A empty":                      code(2, zero, ops(1, 1, 0), 0),
		"B empty":                      code(2, zero, ops(1, 0, 1), 0),
		"both empty":                   code(2, zero, ops(0, 1, 1), 0),
		"both empty, no outputs":       code(3, zero, ops(0, 1, 2)),
		"empty, a later To":            code(3, zero, ops(1, 0, 2, 2, 0, 0), 0),
		"empty, its own To":            code(2, zero, ops(1, 1, 1), 0),
		"an empty output":              code(2, zero, nil, 1),
		"an empty output behind Ops":   code(3, []int{2}, ops(1, 2, 2, 2, 1, 1), 2, 1, 0),
		"MaxExponent + 1":              exponentCode(impl.MaxExponent + 1),
		"MaxExponent + 1, no output":   code(2, zero, exponentCode(impl.MaxExponent+1).Ops),
		"exponent far too great":       code(1, zero, slices.Repeat(ops(0, 0, 0), impl.MaxSteps), 0),
		"an Op too great, not kept":    code(2, zero, append(slices.Repeat(ops(1, 0, 0), 1), slices.Repeat(ops(1, 1, 1), 19)...)),
	}
	for name, r := range noRegisters() {
		codes["input "+name] = code(3, []int{r}, nil)
		codes["later input "+name] = code(3, []int{0, 2, r}, nil, 0)
		codes["To "+name] = code(3, zero, ops(r, 0, 0), 0)
		codes["later To "+name] = code(3, zero, ops(1, 0, 0, r, 0, 0), 0)
		codes["A "+name] = code(3, zero, ops(1, r, 0), 0)
		codes["B "+name] = code(3, zero, ops(1, 0, r), 0)
		codes["A and B "+name] = code(3, zero, ops(1, r, r), 0)
		codes["output "+name] = code(3, zero, nil, r)
		codes["later output "+name] = code(3, zero, ops(2, 0, 0), 0, 2, r)
	}
	return codes
}

// noRegisters are numbers that none of three registers has.
func noRegisters() map[string]int {
	return map[string]int{
		"-1":           -1,
		"-3":           -3,
		"-46":          -46,
		"Registers":    3,
		"one more":     4,
		"MaxRegisters": impl.MaxRegisters,
		"2^32":         1 << 32,
		"least":        math.MinInt,
		"greatest":     math.MaxInt,
	}
}

func strangeNames() [][]int {
	return [][]int{
		nil, {}, {0}, {0, 1}, {0, 1, 2, 3}, {0, 1, 1}, {0, 0, 1}, {2, 2, 2}, {1, 2, 3}, {0, 1, 3}, {-1, 0, 1}, {0, 1, -2}, {0, -1, -2},
		{0, 1, math.MaxInt}, {math.MinInt, 1, 2}, {0, 1, 1<<32 + 2}, {0, 1, 2, 2}, {0, 1, 2, 0}, {0, 1, 2, -1}, make([]int, 100000), upTo(100000),
	}
}

func TestInvalidPlansHaveNoRegisters(t *testing.T) {
	expectZeroOfAll(t, orderedCalls(), invalidPlans())
}

func TestInvalidCodesGiveZero(t *testing.T) {
	expectZeroOfAll(t, codeCalls(), invalidCodes())
	for name, c := range invalidCodes() {
		for _, p := range []impl.Plan{{}, plan(1, nil), plan(1, steps(0, 0), 1), plan(6, nil, 5), plan(7, nil)} {
			expectZero(t, fmt.Sprint("check of ", name, " and ", p), all(impl.CheckRegCode(c, p)))
		}
	}
	for name, p := range invalidPlans() {
		for _, c := range []impl.RegCode{{}, code(1, []int{0}, nil), fullCode(), code(0, nil, nil)} {
			expectZero(t, fmt.Sprint("check of code and ", name), all(impl.CheckRegCode(c, p)))
		}
	}
}

// TestRegistersInEachPlace has all numbers around the range of registers, for each number of registers.
func TestRegistersInEachPlace(t *testing.T) {
	for registers := 1; registers <= impl.MaxRegisters; registers++ {
		for r := -2; r <= impl.MaxRegisters+1; r++ {
			is := 0 <= r && r < registers
			full := is && r == 0
			what := fmt.Sprint(r, " of ", registers)
			expect(t, "input "+what, all(impl.IsRegCode(code(registers, []int{r}, nil))), is)
			expect(t, "To "+what, all(impl.IsRegCode(code(registers, []int{0}, ops(r, 0, 0)))), is)
			expect(t, "A "+what, all(impl.IsRegCode(code(registers, []int{0}, ops(0, r, 0)))), full)
			expect(t, "B "+what, all(impl.IsRegCode(code(registers, []int{0}, ops(0, 0, r)))), full)
			expect(t, "output "+what, all(impl.IsRegCode(code(registers, []int{0}, nil, r))), full)
		}
	}
}

// doneCalls has a plan with four steps.
func doneCalls() []call[int] {
	p := plan(2, steps(0, 1, 0, 1, 2, 3, 0, 4), 5, 3)
	return []call[int]{
		{"NeededAfter", func(done int) []any { return all(impl.NeededAfter(p, done)) }},
		{"NeededAfter, no outputs", func(done int) []any { return all(impl.NeededAfter(plan(2, p.Steps), done)) }},
		{"NeededAfter, six inputs", func(done int) []any { return all(impl.NeededAfter(plan(6, p.Steps, 0, 5), done)) }},
	}
}

func TestInvalidNumbersOfDoneStepsGiveZero(t *testing.T) {
	expectZeroOfAll(t, doneCalls(), map[string]int{
		"-1":            -1,
		"one too many":  5,
		"values":        6,
		"MaxSteps":      impl.MaxSteps,
		"MaxSteps + 1":  impl.MaxSteps + 1,
		"least":         math.MinInt,
		"greatest":      math.MaxInt,
		"near greatest": math.MaxInt - 1,
		"2^32":          1 << 32,
	})
	for count := range impl.MaxSteps + 1 {
		for done := -2; done <= impl.MaxSteps+2; done++ {
			_, ok := impl.NeededAfter(squarings(count), done)
			expect(t, fmt.Sprint(done, " of ", count), all(ok), 0 <= done && done <= count)
		}
	}
}

// withinCalls has OrdersWithin of plans with orders and, in the last one, too many steps.
func withinCalls() []call[int] {
	return []call[int]{
		{"OrdersWithin", func(n int) []any { return all(impl.OrdersWithin(plan(1, steps(0, 0, 0, 0), 1, 2), n)) }},
		{"OrdersWithin, no steps", func(n int) []any { return all(impl.OrdersWithin(plan(1, nil), n)) }},
		{"OrdersWithin, MaxOrdered", func(n int) []any { return all(impl.OrdersWithin(squarings(impl.MaxOrdered), n)) }},
		{"OrdersWithin, too many", func(n int) []any { return all(impl.OrdersWithin(squarings(impl.MaxOrdered+1), n)) }},
	}
}

func TestInvalidNumbersOfRegistersGiveZero(t *testing.T) {
	expectZeroOfAll(t, withinCalls(), map[string]int{
		"-1":               -1,
		"-MaxRegisters":    -impl.MaxRegisters,
		"MaxRegisters + 1": impl.MaxRegisters + 1,
		"MaxRegisters + 2": impl.MaxRegisters + 2,
		"2^32":             1 << 32,
		"2^32 + 3":         1<<32 + 3,
		"least":            math.MinInt,
		"greatest":         math.MaxInt,
	})
	for n := -3; n <= impl.MaxRegisters+3; n++ {
		for _, c := range withinCalls()[:3] {
			got := c.run(n)
			expect(t, fmt.Sprint(c.name, " of ", n), all(got[1]), 0 <= n && n <= impl.MaxRegisters)
		}
	}
}

func TestInvalidModuliAndResiduesDoNotRunCode(t *testing.T) {
	two, none := code(2, []int{1, 0}, ops(0, 0, 1), 0), code(1, []int{0}, nil)
	moduli := []call[int]{
		{"RunRegCode", func(m int) []any { return all(impl.RunRegCode(two, m, []int{0, 0})) }},
		{"RunRegCode, 1", func(m int) []any { return all(impl.RunRegCode(two, m, []int{1, 1})) }},
		{"RunRegCode, no outputs", func(m int) []any { return all(impl.RunRegCode(none, m, []int{0})) }},
	}
	expectZeroOfAll(t, moduli, invalidModuli())
	residues := []call[int]{
		{"RunRegCode, first", func(x int) []any { return all(impl.RunRegCode(two, 7, []int{x, 1})) }},
		{"RunRegCode, last", func(x int) []any { return all(impl.RunRegCode(two, 7, []int{1, x})) }},
		{"RunRegCode, no outputs", func(x int) []any { return all(impl.RunRegCode(none, 7, []int{x})) }},
	}
	expectZeroOfAll(t, residues, map[string]int{"m": 7, "m + 1": 8, "-1": -1, "-m": -7, "MaxModulus": impl.MaxModulus, "2^32": 1 << 32, "least": math.MinInt, "greatest": math.MaxInt})
	for _, m := range []int{2, 7, impl.MaxModulus} {
		for x, ok := range map[int]bool{-1: false, 0: true, m - 1: true, m: false} {
			_, fine := impl.RunRegCode(none, m, []int{x})
			expect(t, fmt.Sprint(x, " modulo ", m), all(fine), ok)
		}
	}
	expectZero(t, "no inputs", all(impl.RunRegCode(none, 7, nil)))
	expectZero(t, "too many inputs", all(impl.RunRegCode(none, 7, []int{1, 1})))
}

// roomyCode returns a copy with spare capacity behind its lists, full of numbers that no code has.
func roomyCode(c impl.RegCode) impl.RegCode {
	list := append(append([]impl.RegOp{}, c.Ops...), ops(-7, -7, -7, -7, -7, -7)...)
	return code(c.Registers, roomyList(c.Inputs), list[:len(c.Ops)], roomyList(c.Outputs)...)
}

// wholeCode shows code with what stands in its spare capacity.
func wholeCode(c impl.RegCode) string {
	return fmt.Sprint(c, c.Ops[:cap(c.Ops)], wholeList(c.Inputs), wholeList(c.Outputs))
}

func sampleCodes() []impl.RegCode {
	return append(mixedCodes(31, 20),
		code(1, []int{0}, nil),
		code(1, []int{0}, nil, 0, 0),
		code(3, []int{2, 0}, nil, 0, 2),
		code(2, []int{0}, ops(1, 0, 0)),
		code(3, []int{0}, ops(2, 0, 0, 0, 2, 0), 0, 2),
		fullCode(),
		exponentCode(impl.MaxExponent),
		code(0, []int{0}, nil, 0),
		code(2, []int{0, 0}, ops(1, 0, 0), 1),
		code(2, []int{0}, ops(1, 0, 2), 1),
	)
}

func TestCodesStayAsTheyAre(t *testing.T) {
	expectNoTrace(t, codeCalls(), sampleCodes(), roomyCode, wholeCode)
}

func TestPlansWithRegistersStayAsTheyAre(t *testing.T) {
	plans := append(samplePlans(), turnablePlans()...)
	expectNoTrace(t, orderedCalls(), append(plans, mirror(), plan(2, steps(0, 1, 0, 0, 1, 1, 2, 3), 5, 4)), roomy, whole)
}

func TestNamesAndInputsOfCodesStayAsTheyAre(t *testing.T) {
	c := code(3, []int{2, 0}, ops(1, 2, 0), 1, 2)
	calls := []call[[]int]{
		{"RenameRegisters", func(list []int) []any { return all(impl.RenameRegisters(c, list)) }},
		{"RunRegCode", func(list []int) []any { return all(impl.RunRegCode(c, 7, list)) }},
		{"RunRegCode, outputs are inputs", func(list []int) []any { return all(impl.RunRegCode(code(2, []int{0, 1}, nil, 0, 1), 7, list)) }},
	}
	samples := append(permutationsOf(3), permutationsOf(2)...)
	expectNoTrace(t, calls, append(samples, nil, []int{6, 6}, []int{7, 0}, []int{0, 1, 1}, []int{0, 1, 2, 3}), roomyList, wholeList)
}

// TestListsOfOneCodeAreApart has code whose inputs and outputs are the same list.
func TestListsOfOneCodeAreApart(t *testing.T) {
	shared := []int{0, 1}
	c := code(2, shared, nil, shared...)
	c.Outputs = shared
	for _, k := range codeCalls() {
		for _, result := range k.run(c) {
			made, ok := result.(impl.RegCode)
			if !ok {
				continue
			}
			outputs := fmt.Sprint(made.Outputs)
			overwriteAll(all(made.Inputs))
			if fmt.Sprint(made.Outputs) != outputs || !same(shared, []int{0, 1}) {
				t.Errorf("%s returns lists that share memory", k.name)
			}
		}
	}
	for _, p := range []impl.Plan{plan(2, nil, 0, 1), plan(2, nil, 1, 0, 1), plan(1, steps(0, 0), 1, 0)} {
		made, ok := impl.AllocatePlan(p)
		outputs := fmt.Sprint(made.Outputs)
		overwriteAll(all(made.Inputs))
		expect(t, fmt.Sprint("outputs of code of ", p), all(fmt.Sprint(made.Outputs), ok), outputs, true)
	}
}

func TestStrangeCodesDoNotPanic(t *testing.T) {
	strange := []int{math.MinInt, -1, 0, 1, 46, 47, math.MaxInt}
	for _, i := range allLists(6, len(strange)) {
		c := code(strange[i[0]], []int{strange[i[1]]}, ops(strange[i[2]], strange[i[3]], strange[i[4]]), strange[i[5]])
		p, ok := tracedOf(c)
		got, fine := impl.RegCodePlan(c)
		if fine != ok || impl.IsRegCode(c) != ok || !fine && (got.Inputs != 0 || got.Steps != nil || got.Outputs != nil) {
			t.Fatalf("plan of %v: %v, %v, not %v", c, got, fine, p)
		}
		if c.Registers != 1 {
			continue
		}
		for _, k := range codeCalls() {
			if got := k.run(c); !ok {
				expectZero(t, k.name, got)
			}
		}
	}
	for _, n := range strangeNumbers() {
		for _, k := range slices.Concat(doneCalls(), withinCalls()) {
			k.run(n)
		}
		for _, o := range strangeNumbers() {
			for _, k := range orderedCalls() {
				p := plan(n, steps(0, 0), o)
				if got := k.run(p); !impl.IsPlan(p) {
					expectZero(t, k.name, got)
				}
			}
		}
	}
}
