package tests

import (
	"fmt"
	"math"
	"slices"
	"testing"

	"loop.example/g01098/impl"
)

// formulaCalls has all functions of chapter 8 that are called with code.
func formulaCalls() []call[impl.Code] {
	x := formula(0)
	return []call[impl.Code]{
		{"IsCode", func(c impl.Code) []any { return all(impl.IsCode(c)) }},
		{"RunCode", func(c impl.Code) []any { return all(impl.RunCode(c, -3, 7)) }},
		{"RunCode, 1", func(c impl.Code) []any { return all(impl.RunCode(c, 0, 1)) }},
		{"PolynomialOf", func(c impl.Code) []any { return all(impl.PolynomialOf(c)) }},
		{"CountOps", func(c impl.Code) []any { return all(impl.CountOps(c)) }},
		{"CodeDepth", func(c impl.Code) []any { return all(impl.CodeDepth(c)) }},
		{"TrimCode", func(c impl.Code) []any { return all(impl.TrimCode(c)) }},
		{"ThenCode, first", func(c impl.Code) []any { return all(impl.ThenCode(c, x)) }},
		{"ThenCode, second", func(c impl.Code) []any { return all(impl.ThenCode(x, c)) }},
		{"ThenCode, behind one", func(c impl.Code) []any { return all(impl.ThenCode(formula(1, number(1)), c)) }},
		{"ThenCode, both", func(c impl.Code) []any { return all(impl.ThenCode(c, c)) }},
		{"SameCode, first", func(c impl.Code) []any { return all(impl.SameCode(c, x)) }},
		{"SameCode, second", func(c impl.Code) []any { return all(impl.SameCode(x, c)) }},
		{"SameCode, both", func(c impl.Code) []any { return all(impl.SameCode(c, c)) }},
	}
}

// coefCalls has all functions of chapter 8 that are called with coefficients.
func coefCalls() []call[[]int] {
	return []call[[]int]{
		{"HornerCode", func(list []int) []any { return all(impl.HornerCode(list)) }},
		{"PowersCode", func(list []int) []any { return all(impl.PowersCode(list)) }},
		{"EstrinCode", func(list []int) []any { return all(impl.EstrinCode(list)) }},
		{"GiantCode, 1", func(list []int) []any { return all(impl.GiantCode(list, 1)) }},
		{"GiantCode, 3", func(list []int) []any { return all(impl.GiantCode(list, 3)) }},
		{"GiantCode, MaxPowers", func(list []int) []any { return all(impl.GiantCode(list, impl.MaxPowers)) }},
		{"ValueAt", func(list []int) []any { return all(impl.ValueAt(list, 3, 100)) }},
		{"ValueAt, 0", func(list []int) []any { return all(impl.ValueAt(list, 0, 1)) }},
	}
}

// planCodeCalls has the function of chapter 8 that is called with a plan.
func planCodeCalls() []call[impl.Plan] {
	return []call[impl.Plan]{
		{"CodeOfPlan", func(p impl.Plan) []any { return all(impl.CodeOfPlan(p)) }},
	}
}

// groupCalls has all functions of chapter 8 that are called with a number k of coefficients in a group.
func groupCalls() []call[int] {
	return []call[int]{
		{"GiantCode", func(k int) []any { return all(impl.GiantCode([]int{1, 2, 3}, k)) }},
		{"GiantCode of one", func(k int) []any { return all(impl.GiantCode([]int{1}, k)) }},
		{"GiantCode of MaxPowers", func(k int) []any { return all(impl.GiantCode(make([]int, impl.MaxPowers), k)) }},
		{"GiantProducts", func(k int) []any { return all(impl.GiantProducts(2, k)) }},
		{"GiantProducts, 0", func(k int) []any { return all(impl.GiantProducts(0, k)) }},
		{"GiantProducts, MaxPowers - 1", func(k int) []any { return all(impl.GiantProducts(impl.MaxPowers-1, k)) }},
	}
}

func degreeCalls() []call[int] {
	return []call[int]{
		{"GiantProducts, 1", func(degree int) []any { return all(impl.GiantProducts(degree, 1)) }},
		{"GiantProducts, MaxPowers", func(degree int) []any { return all(impl.GiantProducts(degree, impl.MaxPowers)) }},
		{"BestGiant", func(degree int) []any { return all(impl.BestGiant(degree)) }},
	}
}

// placeCalls has all functions of chapter 8 that are called with a number x.
func placeCalls() []call[int] {
	return []call[int]{
		{"RunCode", func(x int) []any { return all(impl.RunCode(formula(1, product(0, 0)), x, 7)) }},
		{"RunCode of x", func(x int) []any { return all(impl.RunCode(formula(0), x, 7)) }},
		{"RunCode of a constant", func(x int) []any { return all(impl.RunCode(formula(1, number(1)), x, 7)) }},
		{"ValueAt", func(x int) []any { return all(impl.ValueAt([]int{1, 2}, x, 7)) }},
		{"ValueAt, a constant", func(x int) []any { return all(impl.ValueAt([]int{1}, x, 7)) }},
	}
}

func codeModulusCalls() []call[int] {
	return []call[int]{
		{"RunCode", func(m int) []any { return all(impl.RunCode(formula(1, product(0, 0)), 3, m)) }},
		{"RunCode of x", func(m int) []any { return all(impl.RunCode(formula(0), 0, m)) }},
		{"RunCode of a constant", func(m int) []any { return all(impl.RunCode(formula(1, number(1)), 3, m)) }},
		{"ValueAt", func(m int) []any { return all(impl.ValueAt([]int{1, 2}, 3, m)) }},
		{"ValueAt, a constant", func(m int) []any { return all(impl.ValueAt([]int{0}, 0, m)) }},
	}
}

// invalidFormulas returns for each rule of codes some that break just this one.
func invalidFormulas() map[string]impl.Code {
	most := impl.MaxCoef
	codes := map[string]impl.Code{
		"MaxOps + 1":                    formula(0, slices.Repeat([]impl.Op{number(1)}, impl.MaxOps+1)...),
		"MaxOps + 1, Out last":          formula(impl.MaxOps+1, slices.Repeat([]impl.Op{sum(0, 0)}, impl.MaxOps+1)...),
		"very many ops":                 formula(0, slices.Repeat([]impl.Op{product(0, 0)}, 100000)...),
		"A its own value, sum":          formula(0, sum(1, 0)),
		"B its own value, sum":          formula(0, sum(0, 1)),
		"A and B their own value":       formula(0, sum(1, 1)),
		"A its own value, scale":        formula(0, scaled(1, 1)),
		"A its own value, product":      formula(0, product(1, 0)),
		"B its own value, product":      formula(0, product(0, 1)),
		"A its own value, later":        formula(2, number(1), sum(2, 1)),
		"A a later value":               formula(1, scaled(2, 1), number(1)),
		"B a later value":               formula(1, sum(0, 2), number(1)),
		"a constant with B 1":           formula(1, impl.Op{Kind: impl.OpConstant, A: 1, B: 1}),
		"a constant with B -1":          formula(1, impl.Op{Kind: impl.OpConstant, A: 1, B: -1}),
		"a constant with B, not needed": formula(0, impl.Op{Kind: impl.OpConstant, B: 2}),
		"a constant with greatest B":    formula(1, impl.Op{Kind: impl.OpConstant, B: math.MaxInt}),
		"a constant with B 2^32":        formula(1, impl.Op{Kind: impl.OpConstant, B: 1 << 32}),
		"x^17":                          formula(5, append(squares(4), product(4, 0))...),
		"x^17, the other way round":     formula(5, append(squares(4), product(0, 4))...),
		"x^32":                          formula(5, squares(5)...),
		"x^17, one by one":              formula(16, powersUpTo(17)...),
		"x^17, not needed":              formula(4, append(squares(4), product(4, 0))...),
		"x^17, only x needed":           formula(0, append(squares(4), product(4, 0))...),
		"x^17, taken away again":        formula(7, append(squares(4), product(4, 0), scaled(5, 0), sum(6, 0))...),
		"powers far too great":          formula(0, squares(impl.MaxOps)...),
		"a sum too great":               formula(3, number(most), number(1), sum(1, 2)),
		"a sum too small":               formula(3, number(-1), number(-most), sum(1, 2)),
		"a sum too great, not needed":   formula(0, number(most), number(1), sum(1, 2)),
		"a sum too great, not kept":     formula(5, number(most), number(1), sum(1, 2), number(-2), sum(3, 4)),
		"a sum twice too great":         formula(2, scaled(0, most), sum(1, 1)),
		"a sum too great behind 0":      formula(2, scaled(0, most), sum(1, 0)),
		"a scale too great":             formula(2, number(1001), scaled(1, 1000)),
		"a scale too small":             formula(2, number(-1001), scaled(1, 1000)),
		"a scale too great, not needed": formula(1, number(most), scaled(1, 2)),
		"the greatest scale":            formula(2, number(most), scaled(1, most)),
		"a product too great":           formula(2, number(1001), product(1, 1)),
		"a product too small":           formula(3, number(1001), number(-1000), product(1, 2)),
		"a product in between":          formula(3, number(500001), sum(0, 1), product(2, 2)),
		"numbers far too great":         formula(0, append([]impl.Op{scaled(0, most)}, squares(impl.MaxOps)[1:]...)...),
	}
	addStrange(codes)
	return codes
}

// addStrange puts numbers that are no kinds, values or coefficients into each place.
func addStrange(codes map[string]impl.Code) {
	for name, n := range map[string]int{"-1": -1, "4": 4, "-MaxInt": -math.MaxInt, "2^32": 1 << 32, "2^32 + 1": 1<<32 + 1, "256": 256, "least": math.MinInt, "greatest": math.MaxInt} {
		codes["kind "+name] = formula(1, impl.Op{Kind: n})
		codes["kind, not needed, "+name] = formula(2, impl.Op{Kind: n}, number(1))
		codes["A of a sum "+name] = formula(1, sum(n, 0))
		codes["B of a sum "+name] = formula(1, sum(0, n))
		codes["A of a scale "+name] = formula(1, scaled(n, 0))
		codes["A of a product "+name] = formula(1, product(n, 0))
		codes["B of a product "+name] = formula(1, product(0, n))
		codes["A not needed "+name] = formula(1, number(2), product(n, 0))
		codes["Out "+name] = formula(n)
		codes["Out behind ops "+name] = formula(n, number(0), sum(0, 1), scaled(2, 1))
	}
	for name, n := range tooGreatCoefs() {
		codes["constant "+name] = formula(1, number(n))
		codes["constant, not needed, "+name] = formula(0, number(n))
		codes["scale "+name] = formula(1, scaled(0, n))
		codes["scale, not needed, "+name] = formula(0, scaled(0, n))
		codes["scale of 0 "+name] = formula(2, number(0), scaled(1, n))
	}
	for name, out := range map[string]int{"behind the last": 3, "two behind": 4, "MaxOps": impl.MaxOps} {
		codes["Out "+name] = formula(out, number(1), number(1))
	}
	codes["Out 1, no ops"] = formula(1)
}

func tooGreatCoefs() map[string]int {
	return map[string]int{
		"MaxCoef + 1":  impl.MaxCoef + 1,
		"-MaxCoef - 1": -impl.MaxCoef - 1,
		"2 MaxCoef":    2 * impl.MaxCoef,
		"2^32":         1 << 32,
		"2^32 + 1":     1<<32 + 1,
		"-2^32":        -1 << 32,
		"least":        math.MinInt,
		"near least":   math.MinInt + 1,
		"greatest":     math.MaxInt,
	}
}

func invalidCoefs() map[string][]int {
	lists := map[string][]int{
		"nil":                nil,
		"no elements":        {},
		"MaxPowers + 1":      make([]int, impl.MaxPowers+1),
		"a zero too many":    append(slices.Repeat([]int{1}, impl.MaxPowers), 0),
		"very many elements": make([]int, 100000),
	}
	for name, n := range tooGreatCoefs() {
		lists["alone "+name] = []int{n}
		lists["first "+name] = []int{n, 1, 2}
		lists["between "+name] = []int{1, n, 2}
		lists["last "+name] = []int{1, 2, n}
		lists["last of MaxPowers "+name] = append(make([]int, impl.MaxPowers-1), n)
	}
	return lists
}

func TestInvalidFormulasGiveZero(t *testing.T) {
	expectZeroOfAll(t, formulaCalls(), invalidFormulas())
	for name, c := range invalidFormulas() {
		for _, d := range []impl.Code{formula(2, squares(2)...), formula(-1), formula(1), formula(0, number(1))} {
			expectZero(t, name+" behind", all(impl.ThenCode(d, c)))
			expectZero(t, name+" before", all(impl.ThenCode(c, d)))
			expectZero(t, name+" with", all(impl.SameCode(d, c)))
			expectZero(t, name+" and", all(impl.SameCode(c, d)))
		}
		expectZero(t, name+" and no x", all(impl.RunCode(c, math.MaxInt, 0)))
	}
}

func TestInvalidCoefficientsGiveZero(t *testing.T) {
	expectZeroOfAll(t, coefCalls(), invalidCoefs())
	for n := -2; n <= 2; n++ {
		for _, edge := range []int{impl.MaxCoef, -impl.MaxCoef} {
			for place := range impl.MaxPowers {
				coefs := make([]int, impl.MaxPowers)
				coefs[place] = edge + n
				for _, c := range coefCalls() {
					got := c.run(coefs)
					expect(t, fmt.Sprint(c.name, " of ", coefs), all(got[1]), isNumber(edge+n))
				}
			}
		}
	}
	for length := range impl.MaxPowers + 4 {
		for _, c := range coefCalls() {
			got := c.run(make([]int, length))
			expect(t, fmt.Sprint(c.name, " of ", length), all(got[1]), 1 <= length && length <= impl.MaxPowers)
		}
	}
}

func TestInvalidPlansHaveNoFormula(t *testing.T) {
	expectZeroOfAll(t, planCodeCalls(), invalidPlans())
	expectZeroOfAll(t, planCodeCalls(), map[string]impl.Plan{
		"no outputs":              plan(1, steps(0, 0)),
		"no steps, no outputs":    plan(1, nil),
		"two outputs":             plan(1, steps(0, 0), 1, 1),
		"MaxOutputs":              plan(1, nil, make([]int, impl.MaxOutputs)...),
		"two inputs":              plan(2, nil, 0),
		"two inputs, one is used": plan(2, steps(0, 0), 2),
		"MaxInputs":               plan(impl.MaxInputs, steps(0, 5), 6),
		"x^17":                    powerPlan(17),
		"x^17, not needed":        plan(1, powerPlan(17).Steps, 0),
		"x^32":                    plan(1, doublings(5), 5),
		"MaxExponent":             powerPlan(impl.MaxExponent),
	})
}

func TestInvalidGroupsGiveZero(t *testing.T) {
	expectZeroOfAll(t, groupCalls(), map[string]int{
		"0":             0,
		"-1":            -1,
		"-3":            -3,
		"MaxPowers + 1": impl.MaxPowers + 1,
		"MaxPowers + 2": impl.MaxPowers + 2,
		"2^32":          1 << 32,
		"2^32 + 1":      1<<32 + 1,
		"least":         math.MinInt,
		"greatest":      math.MaxInt,
	})
	for k := -3; k <= impl.MaxPowers+3; k++ {
		for _, c := range groupCalls() {
			got := c.run(k)
			expect(t, fmt.Sprint(c.name, " of ", k), all(got[1]), 1 <= k && k <= impl.MaxPowers)
		}
	}
	for name, coefs := range invalidCoefs() {
		for _, k := range []int{0, -1, 18, math.MaxInt, math.MinInt} {
			expectZero(t, fmt.Sprint(name, " and ", k), all(impl.GiantCode(coefs, k)))
		}
	}
}

func TestInvalidDegreesGiveZero(t *testing.T) {
	expectZeroOfAll(t, degreeCalls(), map[string]int{
		"-1":            -1,
		"-2":            -2,
		"MaxPowers":     impl.MaxPowers,
		"MaxPowers + 1": impl.MaxPowers + 1,
		"MaxCoef":       impl.MaxCoef,
		"2^32":          1 << 32,
		"2^40":          1 << 40,
		"least":         math.MinInt,
		"greatest":      math.MaxInt,
	})
	for degree := -3; degree <= impl.MaxPowers+3; degree++ {
		for _, c := range degreeCalls() {
			got := c.run(degree)
			expect(t, fmt.Sprint(c.name, " of ", degree), all(got[1]), 0 <= degree && degree < impl.MaxPowers)
		}
	}
}

func TestInvalidPlacesGiveZero(t *testing.T) {
	expectZeroOfAll(t, placeCalls(), tooGreatCoefs())
	for n := -2; n <= 2; n++ {
		for _, x := range []int{impl.MaxCoef + n, -impl.MaxCoef + n} {
			for _, c := range placeCalls() {
				got := c.run(x)
				expect(t, fmt.Sprint(c.name, " of ", x), all(got[1]), isNumber(x))
			}
		}
	}
}

func TestInvalidModuliOfFormulasGiveZero(t *testing.T) {
	expectZeroOfAll(t, codeModulusCalls(), map[string]int{
		"0":        0,
		"-1":       -1,
		"-2":       -2,
		"-1000000": -1000000,
		"1000001":  1000001,
		"1000002":  1000002,
		"2^32":     1 << 32,
		"2^32 + 2": 1<<32 + 2,
		"least":    math.MinInt,
		"greatest": math.MaxInt,
	})
	for m, ok := range map[int]bool{-1: false, 0: false, 1: true, 2: true, 9999: true, 10000: true, 10001: true, 999999: true, 1000000: true, 1000001: false} {
		for _, c := range codeModulusCalls() {
			got := c.run(m)
			expect(t, fmt.Sprint(c.name, " modulo ", m), all(got[1]), ok)
		}
	}
}

// roomyFormula returns a copy with spare capacity behind its ops, full of ops that would go on well.
func roomyFormula(c impl.Code) impl.Code {
	list := append(slices.Clone(c.Ops), number(1), product(0, 0), sum(0, 0), number(1), number(1))
	return formula(c.Out, list[:len(c.Ops)]...)
}

// wholeFormula shows code with what stands in its spare capacity.
func wholeFormula(c impl.Code) string {
	return fmt.Sprint(c, c.Ops[:cap(c.Ops)])
}

func TestFormulasStayAsTheyAre(t *testing.T) {
	samples := append(mixedFormulas(21, 30, 30), formula(0), formula(0, number(1)), formula(1, number(0)), formula(4, squares(4)...),
		formula(2, product(0, 0), number(1)), formula(0, slices.Repeat([]impl.Op{number(1)}, impl.MaxOps)...),
		formula(1), formula(1, sum(1, 1)), formula(5, squares(5)...), formula(0, slices.Repeat([]impl.Op{number(1)}, impl.MaxOps+1)...))
	expectNoTrace(t, formulaCalls(), samples, roomyFormula, wholeFormula)
}

// TestSecondFormulasStayAsTheyAre has two codes of which only one is changed behind the call.
func TestSecondFormulasStayAsTheyAre(t *testing.T) {
	c := roomyFormula(formula(2, number(3), sum(0, 1)))
	before := wholeFormula(c)
	calls := []call[impl.Code]{
		{"ThenCode, first", func(d impl.Code) []any { return all(impl.ThenCode(c, d)) }},
		{"ThenCode, second", func(d impl.Code) []any { return all(impl.ThenCode(d, c)) }},
		{"SameCode", func(d impl.Code) []any { return all(impl.SameCode(c, d)) }},
	}
	expectNoTrace(t, calls, []impl.Code{formula(0), formula(1, number(4)), formula(2, squares(2)...)}, roomyFormula, wholeFormula)
	if wholeFormula(c) != before {
		t.Errorf("%s is now %s", before, wholeFormula(c))
	}
}

func TestCoefficientsStayAsTheyAre(t *testing.T) {
	samples := [][]int{nil, {0}, {5}, {1, 0, 2}, {0, 0, 0}, {1, 2, 3, 4, 5, 0}, upTo(impl.MaxPowers), upTo(impl.MaxPowers + 1), {impl.MaxCoef + 1}}
	expectNoTrace(t, coefCalls(), samples, roomyList, wholeList)
}

func TestPlansOfFormulasStayAsTheyAre(t *testing.T) {
	expectNoTrace(t, planCodeCalls(), append(samplePlans(), plan(1, doublings(4), 4), plan(1, nil, 0), powerPlan(15)), roomy, whole)
}

func TestStrangeFormulasDoNotPanic(t *testing.T) {
	strange := []int{math.MinInt, -1, 0, 1, 2, 3, 4, impl.MaxCoef, math.MaxInt}
	for _, i := range allLists(4, len(strange)) {
		o := impl.Op{Kind: strange[i[0]], A: strange[i[1]], B: strange[i[2]]}
		for _, c := range []impl.Code{formula(strange[i[3]], o), formula(strange[i[3]], number(7), o, number(8))} {
			polynomial, ok := polynomialOf(c)
			got, fine := impl.PolynomialOf(c)
			if fine != ok || impl.IsCode(c) != ok || !slices.Equal(got, polynomial) {
				t.Fatalf("polynomial of %v: %v, %v, not %v, %v", c, got, fine, polynomial, ok)
			}
			for _, k := range formulaCalls() {
				if got := k.run(c); !ok {
					expectZero(t, fmt.Sprint(k.name, " of ", c), got)
				}
			}
		}
	}
}

func TestStrangeNumbersDoNotPanicInFormulas(t *testing.T) {
	for _, n := range append(strangeNumbers(), 17, 16, 18, -impl.MaxCoef, -impl.MaxCoef-1) {
		for _, k := range slices.Concat(groupCalls(), degreeCalls(), placeCalls(), codeModulusCalls()) {
			k.run(n)
		}
		for _, o := range strangeNumbers() {
			ok := 0 <= n && n <= 16 && 1 <= o && o <= 17
			_, fine := impl.GiantProducts(n, o)
			expect(t, fmt.Sprint("products for ", n, " and ", o), all(fine), ok)
			ok = isNumber(n) && 1 <= o && o <= 1000000
			_, fine = impl.RunCode(formula(0), n, o)
			_, right := impl.ValueAt([]int{1, 2}, n, o)
			expect(t, fmt.Sprint(n, " modulo ", o), all(fine, right), ok, ok)
			_, fine = impl.ValueAt([]int{n, o}, 2, 9)
			expect(t, fmt.Sprint("coefficients ", n, " and ", o), all(fine), isNumber(n) && isNumber(o))
		}
	}
}
