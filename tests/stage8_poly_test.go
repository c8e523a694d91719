package tests

import (
	"fmt"
	"math/big"
	"math/bits"
	"slices"
	"testing"

	"loop.example/g01098/impl"
)

func number(n int) impl.Op { return impl.Op{Kind: impl.OpConstant, A: n} }

func sum(a int, b int) impl.Op { return impl.Op{Kind: impl.OpSum, A: a, B: b} }

func scaled(a int, n int) impl.Op { return impl.Op{Kind: impl.OpScale, A: a, B: n} }

func product(a int, b int) impl.Op { return impl.Op{Kind: impl.OpProduct, A: a, B: b} }

// formula is code of chapter 8; that of chapter 7 is called code.
func formula(out int, list ...impl.Op) impl.Code {
	return impl.Code{Ops: list, Out: out}
}

// squares has ops for the powers 2, 4, 8, .. of x.
func squares(count int) []impl.Op {
	var list []impl.Op
	for i := range count {
		list = append(list, product(i, i))
	}
	return list
}

// powersUpTo has ops for the powers 2, 3, .. of x; the power i is the value i - 1.
func powersUpTo(n int) []impl.Op {
	var list []impl.Op
	for i := 2; i <= n; i++ {
		list = append(list, product(i-2, 0))
	}
	return list
}

// farPlace is so great that the coefficients of a polynomial of which it is x can be read off, like digits.
func farPlace() *big.Int { return new(big.Int).Lsh(big.NewInt(1), 80) }

func coefsOf(value *big.Int) []int {
	place, rest := farPlace(), new(big.Int).Set(value)
	half := new(big.Int).Rsh(place, 1)
	var list []int
	for rest.Sign() != 0 {
		digit := new(big.Int).Add(rest, half)
		digit.Mod(digit, place).Sub(digit, half)
		list = append(list, int(digit.Int64()))
		rest.Sub(rest, digit).Quo(rest, place)
	}
	return list
}

func isNumber(n int) bool { return -1000000 <= n && n <= 1000000 }

// written is code op by op, with the value of each at a far place.
type written struct {
	ops    []impl.Op
	values []*big.Int
}

func (w *written) has(values ...int) bool {
	return !slices.ContainsFunc(values, func(v int) bool { return v < 0 || v > len(w.ops) })
}

// write adds an op, unless no code has it there.
func (w *written) write(o impl.Op) bool {
	made := new(big.Int)
	switch {
	case o.Kind == 0 && isNumber(o.A) && o.B == 0:
		made.SetInt64(int64(o.A))
	case o.Kind == 1 && w.has(o.A, o.B):
		made.Add(w.values[o.A], w.values[o.B])
	case o.Kind == 2 && w.has(o.A) && isNumber(o.B):
		made.Mul(w.values[o.A], big.NewInt(int64(o.B)))
	case o.Kind == 3 && w.has(o.A, o.B):
		made.Mul(w.values[o.A], w.values[o.B])
	default:
		return false
	}
	coefs := coefsOf(made)
	if len(w.ops) == 120 || len(coefs) > 17 || slices.ContainsFunc(coefs, func(n int) bool { return !isNumber(n) }) {
		return false
	}
	w.ops, w.values = append(w.ops, o), append(w.values, made)
	return true
}

func newlyWritten() *written { return &written{nil, []*big.Int{farPlace()}} }

// polynomialOf reads the polynomial of Out off its value.
func polynomialOf(c impl.Code) ([]int, bool) {
	w := newlyWritten()
	for _, o := range c.Ops {
		if !w.write(o) {
			return nil, false
		}
	}
	if !w.has(c.Out) {
		return nil, false
	}
	return coefsOf(w.values[c.Out]), true
}

// remainderOf does not reduce any value but that of Out.
func remainderOf(c impl.Code, x int, m int) int {
	return remainder(valueAt(c, big.NewInt(int64(x))), m)
}

func remainder(value *big.Int, m int) int {
	return int(new(big.Int).Mod(value, big.NewInt(int64(m))).Int64())
}

func valueAt(c impl.Code, x *big.Int) *big.Int {
	values := []*big.Int{x}
	for _, o := range c.Ops {
		made := big.NewInt(int64(o.A))
		switch o.Kind {
		case impl.OpSum:
			made.Add(values[o.A], values[o.B])
		case impl.OpScale:
			made.Mul(values[o.A], big.NewInt(int64(o.B)))
		case impl.OpProduct:
			made.Mul(values[o.A], values[o.B])
		}
		values = append(values, made)
	}
	return values[c.Out]
}

// sumOfPowers returns what coefficients stand for at x.
func sumOfPowers(coefs []int, x int) *big.Int {
	total := new(big.Int)
	for i, n := range coefs {
		power := new(big.Int).Exp(big.NewInt(int64(x)), big.NewInt(int64(i)), nil)
		total.Add(total, power.Mul(power, big.NewInt(int64(n))))
	}
	return total
}

func withoutEndingZeros(coefs []int) []int {
	length := len(coefs)
	for length > 0 && coefs[length-1] == 0 {
		length--
	}
	return coefs[:length]
}

func kindsOf(c impl.Code) []int {
	counts := make([]int, 4)
	for _, o := range c.Ops {
		counts[o.Kind]++
	}
	return counts
}

// valuesIn returns what an op has as A or B and is a value.
func valuesIn(o impl.Op) []int {
	return map[int][]int{impl.OpSum: {o.A, o.B}, impl.OpScale: {o.A}, impl.OpProduct: {o.A, o.B}}[o.Kind]
}

// productsTo counts the products on the longest way to a value.
func productsTo(c impl.Code, v int, known map[int]int) int {
	if v == 0 {
		return 0
	}
	if count, found := known[v]; found {
		return count
	}
	o, count := c.Ops[v-1], 0
	for _, before := range valuesIn(o) {
		count = max(count, productsTo(c, before, known))
	}
	if o.Kind == impl.OpProduct {
		count++
	}
	known[v] = count
	return count
}

func markNeeded(c impl.Code, v int, marks map[int]bool) {
	if marks[v] || v == 0 {
		return
	}
	marks[v] = true
	for _, before := range valuesIn(c.Ops[v-1]) {
		markNeeded(c, before, marks)
	}
}

// movedOp is an op whose values have other names.
func movedOp(o impl.Op, names map[int]int) impl.Op {
	switch o.Kind {
	case impl.OpSum, impl.OpProduct:
		return impl.Op{Kind: o.Kind, A: names[o.A], B: names[o.B]}
	case impl.OpScale:
		return impl.Op{Kind: o.Kind, A: names[o.A], B: o.B}
	}
	return o
}

func neededOnly(c impl.Code) impl.Code {
	marks, names := map[int]bool{}, map[int]int{}
	markNeeded(c, c.Out, marks)
	var list []impl.Op
	for i, o := range c.Ops {
		if marks[i+1] {
			list = append(list, movedOp(o, names))
			names[i+1] = len(list)
		}
	}
	return formula(names[c.Out], list...)
}

// oneBehind has the ops of c and then those of d, for whose x stands what c makes.
func oneBehind(c impl.Code, d impl.Code) impl.Code {
	names := map[int]int{0: c.Out}
	list := slices.Clone(c.Ops)
	for i, o := range d.Ops {
		list = append(list, movedOp(o, names))
		names[i+1] = len(list)
	}
	return formula(names[d.Out], list...)
}

// smallFormulas has all codes of at most one op with small numbers, and many of two; most are none.
func smallFormulas() []impl.Code {
	var codes []impl.Code
	for out := -1; out <= 1; out++ {
		codes = append(codes, formula(out))
	}
	for _, o := range allLists(3, 7) {
		first := impl.Op{Kind: o[0] - 1, A: o[1] - 3, B: o[2] - 3}
		for out := -1; out <= 2; out++ {
			codes = append(codes, formula(out, first))
		}
	}
	firsts := []impl.Op{number(0), number(2), sum(0, 0), scaled(0, 0), scaled(0, -1), product(0, 0), number(-1)}
	for _, first := range firsts {
		for _, o := range allLists(3, 6) {
			for out := 0; out <= 3; out++ {
				codes = append(codes, formula(out, first, impl.Op{Kind: o[0] - 1, A: o[1] - 2, B: o[2] - 2}))
			}
		}
	}
	return codes
}

// mixedNumber draws a small number, one of any size, or one of the greatest ones.
func mixedNumber(m *mixer) int {
	switch m.below(6) {
	case 0:
		return m.below(2*impl.MaxCoef+1) - impl.MaxCoef
	case 1:
		return []int{-impl.MaxCoef, impl.MaxCoef}[m.below(2)]
	}
	return m.below(7) - 3
}

// mixedOp draws an op of some kind whose values are mostly late ones.
func mixedOp(m *mixer, count int) impl.Op {
	value := func() int {
		if m.below(3) == 0 {
			return m.below(count)
		}
		return max(count-1-m.below(4), 0)
	}
	switch m.below(6) {
	case 0:
		return number(mixedNumber(m))
	case 1:
		return scaled(value(), mixedNumber(m))
	case 2, 3:
		return sum(value(), value())
	}
	return product(value(), value())
}

func mixedFormula(m *mixer, most int) impl.Code {
	w := newlyWritten()
	for range m.below(most + 1) {
		for !w.write(mixedOp(m, len(w.values))) {
		}
	}
	return formula(max(len(w.ops)-m.below(5), 0), w.ops...)
}

func mixedFormulas(seed uint64, count int, most int) []impl.Code {
	m := &mixer{seed}
	var codes []impl.Code
	for range count {
		codes = append(codes, mixedFormula(m, most))
	}
	return codes
}

func TestExampleOfChapter8(t *testing.T) {
	want := formula(7, number(2), product(1, 0), number(0), sum(2, 3), product(4, 0), number(1), sum(5, 6))
	expect(t, "Horner's code", all(impl.HornerCode([]int{1, 0, 2})), want, true)
	expect(t, "products", all(impl.GiantProducts(8, 3)), 4, true)
}

// expectFormula checks all functions of one code, and reports whether it is one.
func expectFormula(t *testing.T, c impl.Code) bool {
	t.Helper()
	polynomial, ok := polynomialOf(c)
	what := fmt.Sprint(c)
	if is := impl.IsCode(c); is != ok {
		t.Errorf("%s: code is %v", what, is)
	}
	expect(t, "polynomial of "+what, all(impl.PolynomialOf(c)), polynomial, ok)
	var counts []int
	depth, trimmed, runs := 0, impl.Code{}, 0
	if ok {
		counts = kindsOf(c)
		depth = productsTo(c, c.Out, map[int]int{})
		trimmed = neededOnly(c)
		runs = remainderOf(c, -3, 1000)
	}
	expect(t, "counts of "+what, all(impl.CountOps(c)), counts, ok)
	expect(t, "depth of "+what, all(impl.CodeDepth(c)), depth, ok)
	expect(t, "trimmed "+what, all(impl.TrimCode(c)), trimmed, ok)
	expect(t, "run "+what, all(impl.RunCode(c, -3, 1000)), runs, ok)
	return ok
}

func TestSmallFormulas(t *testing.T) {
	count := 0
	for _, c := range smallFormulas() {
		if expectFormula(t, c) {
			count++
		}
	}
	if count < 500 {
		t.Error("codes", count)
	}
}

func TestMixedFormulas(t *testing.T) {
	full, long := 0, 0
	for _, c := range mixedFormulas(1, 400, impl.MaxOps) {
		if !expectFormula(t, c) {
			t.Fatal("drawn as code", c)
		}
		full += len(c.Ops) / impl.MaxOps
		polynomial, _ := impl.PolynomialOf(c)
		long += len(polynomial) / 8
	}
	if full == 0 || long < 20 {
		t.Error("draws", full, long)
	}
}

// TestMixedFormulasWithOneChange changes one number of code, so that many are none.
func TestMixedFormulasWithOneChange(t *testing.T) {
	m := &mixer{2}
	counts := map[bool]int{}
	for _, c := range mixedFormulas(3, 1500, 12) {
		if len(c.Ops) == 0 {
			continue
		}
		o := &c.Ops[m.below(len(c.Ops))]
		place := []*int{&o.Kind, &o.A, &o.B, &c.Out}[m.below(4)]
		*place = []int{*place - 1, *place + 1, m.below(14) - 1, m.below(4), -*place, *place * 2, *place + impl.MaxCoef}[m.below(7)]
		counts[expectFormula(t, c)]++
	}
	if counts[true] < 200 || counts[false] < 200 {
		t.Error("changed codes", counts)
	}
}

func expectPolynomial(t *testing.T, c impl.Code, want ...int) {
	t.Helper()
	expectFormula(t, c)
	expect(t, fmt.Sprint("polynomial of ", c), all(impl.PolynomialOf(c)), want, true)
}

func TestPolynomialsAtTheEdges(t *testing.T) {
	expectPolynomial(t, formula(0), 0, 1)
	expectPolynomial(t, formula(0, number(5)), 0, 1)
	expectPolynomial(t, formula(1, number(5)), 5)
	expectPolynomial(t, formula(1, sum(0, 0)), 0, 2)
	expectPolynomial(t, formula(1, product(0, 0)), 0, 0, 1)
	expectPolynomial(t, formula(1, scaled(0, -3)), 0, -3)
	expectPolynomial(t, formula(3, number(-2), sum(0, 1), product(2, 2)), 4, -4, 1)
	expectPolynomial(t, formula(4, number(2), sum(0, 1), number(-2), sum(0, 3)), -2, 1)
	expectPolynomial(t, formula(5, number(2), sum(0, 1), number(-2), sum(0, 3), product(2, 4)), -4, 0, 1)
}

func TestPolynomialZero(t *testing.T) {
	expectPolynomial(t, formula(1, number(0)))
	expectPolynomial(t, formula(1, scaled(0, 0)))
	expectPolynomial(t, formula(2, scaled(0, -1), sum(0, 1)))
	expectPolynomial(t, formula(2, number(0), product(0, 1)))
	expectPolynomial(t, formula(2, number(0), product(1, 0)))
	expectPolynomial(t, formula(2, number(0), product(1, 1)))
	expectPolynomial(t, formula(2, number(0), sum(1, 1)))
	expectPolynomial(t, formula(2, number(0), scaled(1, impl.MaxCoef)))
	expectPolynomial(t, formula(2, number(0), sum(0, 1)), 0, 1)
	expectPolynomial(t, formula(3, number(7), number(-7), sum(1, 2)))
	zeroTimesLongest := append(squares(4), number(0), product(4, 5), product(6, 4), sum(7, 0))
	expectPolynomial(t, formula(7, zeroTimesLongest...))
	expectPolynomial(t, formula(8, zeroTimesLongest...), 0, 1)
	for _, c := range []impl.Code{formula(1, number(0)), formula(2, scaled(0, -1), sum(0, 1))} {
		expect(t, "run", all(impl.RunCode(c, -5, 7)), 0, true)
		expect(t, "same", all(impl.SameCode(c, formula(1, scaled(0, 0)))), true, true)
	}
}

func TestLeadingTermsThatCancel(t *testing.T) {
	expectPolynomial(t, formula(4, product(0, 0), sum(1, 0), scaled(1, -1), sum(2, 3)), 0, 1)
	expectPolynomial(t, formula(4, product(0, 0), sum(1, 0), scaled(0, -1), sum(2, 3)), 0, 0, 1)
	// What is left of x^16 + x is multiplied up to x^16 again.
	longest := append(squares(4), sum(4, 0), scaled(4, -1), sum(5, 6), product(7, 7), product(8, 8), product(9, 9), product(10, 10))
	expectPolynomial(t, formula(7, longest...), 0, 1)
	expectPolynomial(t, formula(11, longest...), append(make([]int, 16), 1)...)
	longer := append(slices.Clone(longest), product(11, 7))
	if impl.IsCode(formula(11, longer...)) {
		t.Error("x^17", longer)
	}
}

func TestFormulasAtTheLimits(t *testing.T) {
	limits := []int{impl.MaxOps, impl.MaxCoef, impl.MaxPowers, impl.OpConstant, impl.OpSum, impl.OpScale, impl.OpProduct}
	expect(t, "constants", all(limits), []int{120, 1000000, 17, 0, 1, 2, 3})
	most, longest := impl.MaxCoef, append(make([]int, 16), 1)
	for _, o := range []impl.Op{number(1), sum(0, 0), scaled(0, 2), product(0, 0)} {
		list := slices.Repeat([]impl.Op{o}, impl.MaxOps)
		for _, out := range []int{0, 1, impl.MaxOps} {
			if !expectFormula(t, formula(out, list...)) {
				t.Error("MaxOps ops are no code", out, o)
			}
		}
	}
	expectPolynomial(t, formula(1, number(most)), most)
	expectPolynomial(t, formula(1, number(-most)), -most)
	expectPolynomial(t, formula(1, scaled(0, most)), 0, most)
	expectPolynomial(t, formula(1, scaled(0, -most)), 0, -most)
	expectPolynomial(t, formula(3, number(most-1), number(1), sum(1, 2)), most)
	expectPolynomial(t, formula(3, number(1-most), number(-1), sum(1, 2)), -most)
	expectPolynomial(t, formula(2, number(1000), product(1, 1)), most)
	expectPolynomial(t, formula(3, number(1000), number(-1000), product(1, 2)), -most)
	expectPolynomial(t, formula(2, number(-1000), scaled(1, 1000)), -most)
	expectPolynomial(t, formula(2, number(-1000), scaled(1, -1000)), most)
	expectPolynomial(t, formula(3, number(1000), sum(0, 1), product(2, 2)), most, 2000, 1)
	expectPolynomial(t, formula(3, number(500000), sum(0, 1), sum(2, 2)), most, 2)
	expectPolynomial(t, formula(4, squares(4)...), longest...)
	expectPolynomial(t, formula(15, powersUpTo(16)...), longest...)
	expectPolynomial(t, formula(6, append(squares(4), number(-1), product(4, 5))...), append(make([]int, 16), -1)...)
	expectPolynomial(t, formula(5, append(squares(4), scaled(4, most))...), append(make([]int, 16), most)...)
}

func TestCoefficientsBetweenTheLimits(t *testing.T) {
	// The middle coefficient is the greatest one: (ax + b)(cx + d) has ad + bc.
	for _, extra := range []int{-1, 0, 1} {
		for _, sign := range []int{-1, 1} {
			linear := []impl.Op{scaled(0, 500), number(1000), sum(1, 2), scaled(0, 500*sign), number(sign * (1000 + extra)), sum(4, 5), product(3, 6)}
			ok := expectFormula(t, formula(7, linear...))
			if ok != (extra <= 0) {
				t.Errorf("%v: code is %v", linear, ok)
			}
		}
	}
	middle := func(n int) impl.Code {
		return formula(7, scaled(0, n), number(1), sum(1, 2), number(1), sum(0, 4), product(3, 5), product(0, 0))
	}
	expectFormula(t, middle(impl.MaxCoef-1))
	expect(t, "just MaxCoef", all(impl.IsCode(middle(impl.MaxCoef-1)), impl.IsCode(middle(impl.MaxCoef))), true, false)
	expect(t, "just -MaxCoef", all(impl.IsCode(middle(-impl.MaxCoef)), impl.IsCode(middle(-impl.MaxCoef-1))), true, false)
}

func modulusEdges() []int {
	return []int{1, 2, 3, 7, 1000, 9999, 10001, 65536, 999983, 999999, 1000000}
}

func TestRunCodeAtTheEdges(t *testing.T) {
	codes := append(mixedFormulas(5, 60, 40),
		formula(0), formula(4, squares(4)...), formula(15, powersUpTo(16)...), formula(1, number(-impl.MaxCoef)), formula(1, scaled(0, -impl.MaxCoef)),
		formula(5, append(squares(4), scaled(4, -impl.MaxCoef))...), formula(1, number(0)))
	for _, c := range codes {
		for _, m := range modulusEdges() {
			for _, x := range []int{0, 1, -1, 2, -7, 123456, -999983, 999999, impl.MaxCoef, -impl.MaxCoef} {
				expect(t, fmt.Sprint("run ", c, x, m), all(impl.RunCode(c, x, m)), remainderOf(c, x, m), true)
			}
		}
	}
	power := formula(4, squares(4)...)
	expect(t, "10^96 modulo 999999", all(impl.RunCode(power, impl.MaxCoef, 999999)), 1, true)
	expect(t, "modulo 1", all(impl.RunCode(power, 5, 1)), 0, true)
	expect(t, "x itself", all(impl.RunCode(formula(0), -1, impl.MaxCoef)), 999999, true)
	expect(t, "a multiple", all(impl.RunCode(formula(0), -impl.MaxCoef, impl.MaxCoef)), 0, true)
	expect(t, "a negative number", all(impl.RunCode(formula(1, number(-9)), 0, 7)), 5, true)
	expect(t, "a cube", all(impl.RunCode(formula(2, product(0, 0), product(1, 0)), -2, 7)), 6, true)
}

func TestDepthsAtTheEdges(t *testing.T) {
	for _, k := range []struct {
		code  impl.Code
		depth int
	}{
		{formula(0), 0},
		{formula(0, squares(4)...), 0},
		{formula(4, squares(4)...), 4},
		{formula(2, squares(4)...), 2},
		{formula(15, powersUpTo(16)...), 15},
		{formula(1, number(3)), 0},
		{formula(1, sum(0, 0)), 0},
		{formula(1, scaled(0, 3)), 0},
		{formula(2, number(2), product(1, 1)), 1},
		{formula(2, number(0), product(0, 1)), 1},
		{formula(2, product(0, 0), scaled(1, 0)), 1},
		{formula(3, product(0, 0), scaled(1, -1), sum(1, 2)), 1},
		{formula(3, product(0, 0), product(1, 1), sum(1, 2)), 2},
		{formula(3, product(0, 0), product(1, 1), sum(2, 1)), 2},
		{formula(4, product(0, 0), product(1, 1), sum(0, 2), product(3, 0)), 3},
		{formula(4, product(0, 0), product(1, 1), sum(0, 2), product(0, 3)), 3},
		{formula(3, product(0, 0), product(0, 0), product(1, 2)), 2},
		{formula(3, product(0, 0), number(1), sum(0, 2)), 0},
		// The number of a constant is no value.
		{formula(2, product(0, 0), number(1)), 0},
		{formula(2, product(0, 0), scaled(0, 1)), 0},
	} {
		expect(t, fmt.Sprint("depth of ", k.code), all(impl.CodeDepth(k.code)), k.depth, true)
		expectFormula(t, k.code)
	}
}

func TestTrimCodeAtTheEdges(t *testing.T) {
	x := formula(0)
	for _, k := range []struct{ code, trimmed impl.Code }{
		{x, x},
		{formula(0, squares(4)...), x},
		{formula(0, slices.Repeat([]impl.Op{number(1)}, impl.MaxOps)...), x},
		{formula(1, product(0, 0)), formula(1, product(0, 0))},
		{formula(1, squares(4)...), formula(1, product(0, 0))},
		{formula(2, product(0, 0), number(1)), formula(1, number(1))},
		{formula(2, product(0, 0), scaled(0, 1)), formula(1, scaled(0, 1))},
		{formula(3, number(1), product(0, 0), sum(2, 0)), formula(2, product(0, 0), sum(1, 0))},
		{formula(3, number(1), product(0, 0), sum(0, 2)), formula(2, product(0, 0), sum(0, 1))},
		{formula(3, number(1), product(0, 0), scaled(2, 3)), formula(2, product(0, 0), scaled(1, 3))},
		{formula(3, number(1), product(0, 0), product(2, 2)), formula(2, product(0, 0), product(1, 1))},
		{formula(4, number(2), number(3), number(4), product(1, 3)), formula(3, number(2), number(4), product(1, 2))},
		// What is needed is so even where it changes nothing.
		{formula(2, product(0, 0), scaled(1, 0)), formula(2, product(0, 0), scaled(1, 0))},
		{formula(3, product(0, 0), scaled(1, -1), sum(1, 2)), formula(3, product(0, 0), scaled(1, -1), sum(1, 2))},
		{formula(3, product(0, 0), number(0), product(2, 1)), formula(3, product(0, 0), number(0), product(2, 1))},
	} {
		expect(t, fmt.Sprint("trimmed ", k.code), all(impl.TrimCode(k.code)), k.trimmed, true)
		expect(t, fmt.Sprint("the same as ", k.code), all(impl.SameCode(k.code, k.trimmed)), true, true)
	}
}

// hornerOf has three ops for each coefficient before the last one.
func hornerOf(coefs []int) impl.Code {
	n := len(coefs)
	list := []impl.Op{number(coefs[n-1])}
	for j := 1; j < n; j++ {
		list = append(list, product(3*j-2, 0), number(coefs[n-1-j]), sum(3*j-1, 3*j))
	}
	return formula(3*n-2, list...)
}

// powersOf has a constant behind the powers, and then two ops for each coefficient.
func powersOf(coefs []int) impl.Code {
	n := len(coefs)
	list := append(powersUpTo(n-1), number(coefs[0]))
	first := max(n-1, 1)
	for i := 1; i < n; i++ {
		list = append(list, scaled(i-1, coefs[i]), sum(first+2*i-2, first+2*i-1))
	}
	return formula(len(list), list...)
}

func estrinOf(coefs []int) impl.Code {
	var list []impl.Op
	var level []int
	for i, n := range coefs {
		list = append(list, number(n))
		level = append(level, i+1)
	}
	for y := 0; len(level) > 1; {
		var next []int
		for i := 0; i+1 < len(level); i += 2 {
			made := len(list) + 1
			list = append(list, product(level[i+1], y), sum(level[i], made))
			next = append(next, made+1)
		}
		if len(level)%2 == 1 {
			next = append(next, level[len(level)-1])
		}
		if level = next; len(level) > 1 {
			list = append(list, product(y, y))
			y = len(list)
		}
	}
	return formula(level[0], list...)
}

// giantOf goes down from the least multiple of k that is not behind the coefficients.
func giantOf(coefs []int, k int) impl.Code {
	n := len(coefs)
	list := powersUpTo(min(k, n-1))
	value := 0
	for start := (n - 1) / k * k; start >= 0; start -= k {
		if value > 0 {
			list = append(list, product(value, k-1))
			value = len(list)
		}
		list = append(list, number(coefs[start]))
		for i := start + 1; i < min(start+k, n); i++ {
			list = append(list, scaled(i-start-1, coefs[i]), sum(len(list), len(list)+1))
		}
		if value > 0 {
			list = append(list, sum(value, len(list)))
		}
		value = len(list)
	}
	return formula(value, list...)
}

func giantProductsOf(n int, k int) int {
	return max(min(k, n-1)-1, 0) + (n+k-1)/k - 1
}

func estrinProductsOf(n int) int {
	return n - 1 + max(bits.Len(uint(n-1))-1, 0)
}

// schemesOf has the codes of all schemes with the products that are told.
func schemesOf(t *testing.T, coefs []int) map[int][]impl.Code {
	t.Helper()
	n, what := len(coefs), fmt.Sprint(coefs)
	codes := map[int][]impl.Code{}
	add := func(name string, want impl.Code, products int, got impl.Code, ok bool) {
		expect(t, name+" of "+what, all(got, ok), want, true)
		codes[products] = append(codes[products], got)
	}
	c, ok := impl.HornerCode(coefs)
	add("Horner", hornerOf(coefs), n-1, c, ok)
	c, ok = impl.PowersCode(coefs)
	add("powers", powersOf(coefs), max(n-2, 0), c, ok)
	c, ok = impl.EstrinCode(coefs)
	add("Estrin", estrinOf(coefs), estrinProductsOf(n), c, ok)
	for k := 1; k <= impl.MaxPowers; k++ {
		c, ok = impl.GiantCode(coefs, k)
		add(fmt.Sprint("giant ", k), giantOf(coefs, k), giantProductsOf(n, k), c, ok)
	}
	return codes
}

func expectSchemes(t *testing.T, coefs []int) {
	t.Helper()
	polynomial := withoutEndingZeros(coefs)
	for products, codes := range schemesOf(t, coefs) {
		for _, c := range codes {
			what := fmt.Sprint(c, " for ", coefs)
			expect(t, "polynomial of "+what, all(impl.PolynomialOf(c)), polynomial, true)
			counts, ok := impl.CountOps(c)
			if !ok || counts[impl.OpProduct] != products {
				t.Errorf("%s: %v, not %d products", what, counts, products)
			}
			expect(t, "run "+what, all(impl.RunCode(c, -9, 99999)), remainder(sumOfPowers(coefs, -9), 99999), true)
			expect(t, "trimmed "+what, all(impl.TrimCode(c)), neededOnly(c), true)
		}
	}
}

func mixedCoefs(m *mixer, length int) []int {
	var coefs []int
	for range length {
		coefs = append(coefs, mixedNumber(m))
	}
	return coefs
}

func TestSchemesOfSmallCoefficients(t *testing.T) {
	for length := 1; length <= 4; length++ {
		for _, list := range allLists(length, 3) {
			expectSchemes(t, shiftedBy(list, -1))
		}
	}
}

func TestSchemesOfAllLengths(t *testing.T) {
	m := &mixer{6}
	for length := 1; length <= impl.MaxPowers; length++ {
		ends := make([]int, length)
		ends[0] = 4
		greatest := slices.Repeat([]int{impl.MaxCoef}, length)
		least := slices.Repeat([]int{-impl.MaxCoef}, length)
		for _, coefs := range [][]int{upTo(length + 1)[1:], ends, make([]int, length), greatest, least, mixedCoefs(m, length), mixedCoefs(m, length), mixedCoefs(m, length)} {
			expectSchemes(t, coefs)
		}
	}
}

func TestSchemesAtTheEdges(t *testing.T) {
	for name, k := range map[string]struct {
		got  []any
		want impl.Code
	}{
		"Horner of one":      {all(impl.HornerCode([]int{5})), formula(1, number(5))},
		"powers of one":      {all(impl.PowersCode([]int{5})), formula(1, number(5))},
		"Estrin of one":      {all(impl.EstrinCode([]int{5})), formula(1, number(5))},
		"giant of one":       {all(impl.GiantCode([]int{5}, 1)), formula(1, number(5))},
		"giant of one, most": {all(impl.GiantCode([]int{5}, impl.MaxPowers)), formula(1, number(5))},
		"a zero alone":       {all(impl.EstrinCode([]int{0})), formula(1, number(0))},
		"zeros at the end":   {all(impl.HornerCode([]int{5, 0})), formula(4, number(0), product(1, 0), number(5), sum(2, 3))},
		"powers of two":      {all(impl.PowersCode([]int{5, 6})), formula(3, number(5), scaled(0, 6), sum(1, 2))},
		"powers, a zero":     {all(impl.PowersCode([]int{5, 6, 0})), formula(6, product(0, 0), number(5), scaled(0, 6), sum(2, 3), scaled(1, 0), sum(4, 5))},
		"Estrin of two":      {all(impl.EstrinCode([]int{5, 6})), formula(4, number(5), number(6), product(2, 0), sum(1, 3))},
		"Estrin of three":    {all(impl.EstrinCode([]int{5, 6, 7})), formula(8, number(5), number(6), number(7), product(2, 0), sum(1, 4), product(0, 0), product(3, 6), sum(5, 7))},
		"giant, one left":    {all(impl.GiantCode([]int{5, 6, 7}, 2)), formula(7, product(0, 0), number(7), product(2, 1), number(5), scaled(0, 6), sum(4, 5), sum(3, 6))},
		"giant, k just n":    {all(impl.GiantCode([]int{5, 6}, 2)), formula(3, number(5), scaled(0, 6), sum(1, 2))},
		"giant, k too great": {all(impl.GiantCode([]int{5, 6}, 3)), formula(3, number(5), scaled(0, 6), sum(1, 2))},
		"giant, k is 1":      {all(impl.GiantCode([]int{5, 6}, 1)), formula(4, number(6), product(1, 0), number(5), sum(2, 3))},
		"giant, no rest":     {all(impl.GiantCode([]int{5, 6, 7, 8}, 2)), formula(9, product(0, 0), number(7), scaled(0, 8), sum(2, 3), product(4, 1), number(5), scaled(0, 6), sum(6, 7), sum(5, 8))},
	} {
		expect(t, name, k.got, k.want, true)
	}
}

// TestEstrinWithOddNumbersOfValues has 17 coefficients, so that 17, 9, 5 and 3 values have one without a neighbour.
func TestEstrinWithOddNumbersOfValues(t *testing.T) {
	for n := 1; n <= impl.MaxPowers; n++ {
		c, ok := impl.EstrinCode(upTo(n + 1)[1:])
		expect(t, fmt.Sprint("counts for ", n), all(impl.CountOps(c)), []int{n, n - 1, 0, estrinProductsOf(n)}, true)
		expect(t, fmt.Sprint("depth for ", n), all(impl.CodeDepth(c)), bits.Len(uint(n-1)), true)
		expect(t, fmt.Sprint("the same for ", n), all(ok), true)
		c, _ = impl.HornerCode(upTo(n))
		expect(t, fmt.Sprint("Horner's depth for ", n), all(impl.CodeDepth(c)), n-1, true)
		c, _ = impl.PowersCode(upTo(n))
		expect(t, fmt.Sprint("depth of powers for ", n), all(impl.CodeDepth(c)), max(n-2, 0), true)
	}
	expect(t, "products for 17", all(estrinProductsOf(17)), 20)
}

func TestGiantProducts(t *testing.T) {
	for degree := range impl.MaxPowers {
		for k := 1; k <= impl.MaxPowers; k++ {
			c, ok := impl.GiantCode(upTo(degree+1), k)
			products := kindsOf(c)[impl.OpProduct]
			expect(t, fmt.Sprint("products for ", degree, " and ", k), all(impl.GiantProducts(degree, k)), products, ok)
			expect(t, fmt.Sprint("as told for ", degree, " and ", k), all(products), giantProductsOf(degree+1, k))
		}
	}
	for _, k := range [][3]int{{0, 1, 0}, {0, 17, 0}, {1, 1, 1}, {1, 2, 0}, {1, 17, 0}, {2, 2, 2}, {8, 1, 8}, {8, 3, 4}, {8, 4, 5}, {16, 1, 16}, {16, 3, 7}, {16, 4, 7}, {16, 16, 16}, {16, 17, 15}, {15, 4, 6}} {
		expect(t, fmt.Sprint("products for ", k[0], " and ", k[1]), all(impl.GiantProducts(k[0], k[1])), k[2], true)
	}
}

func TestBestGiant(t *testing.T) {
	for degree, best := range []int{1, 2, 3, 2, 2, 2, 2, 2, 3, 2, 3, 3, 3, 3, 3, 4, 3} {
		expect(t, fmt.Sprint("best for ", degree), all(impl.BestGiant(degree)), best, true)
		least, _ := impl.GiantProducts(degree, best)
		for k := 1; k <= impl.MaxPowers; k++ {
			count, ok := impl.GiantProducts(degree, k)
			if !ok || count < least || k < best && count == least {
				t.Errorf("degree %d: %d for %d, %d for %d", degree, count, k, least, best)
			}
		}
	}
	// For the degree 4 the numbers 2, 3 and 5 are as good.
	for _, k := range []int{2, 3, 5} {
		expect(t, fmt.Sprint("as good, ", k), all(impl.GiantProducts(4, k)), 3, true)
	}
}

func TestValueAt(t *testing.T) {
	m := &mixer{7}
	for length := 1; length <= impl.MaxPowers; length++ {
		for range 10 {
			coefs := mixedCoefs(m, length)
			for _, modulus := range append(modulusEdges(), 1+m.below(impl.MaxCoef)) {
				for _, x := range []int{0, 1, -1, impl.MaxCoef, -impl.MaxCoef, mixedNumber(m)} {
					want := remainder(sumOfPowers(coefs, x), modulus)
					expect(t, fmt.Sprint("value of ", coefs, x, modulus), all(impl.ValueAt(coefs, x, modulus)), want, true)
				}
			}
		}
	}
	expect(t, "negative x", all(impl.ValueAt([]int{0, 1}, -1, 5)), 4, true)
	expect(t, "a negative coefficient", all(impl.ValueAt([]int{-3}, 100, 5)), 2, true)
	expect(t, "modulo 1", all(impl.ValueAt([]int{-3, 5}, 100, 1)), 0, true)
	expect(t, "x is 0", all(impl.ValueAt([]int{-3, 5}, 0, 1000000)), 999997, true)
	expect(t, "zeros", all(impl.ValueAt([]int{0, 0, 0}, 9, 10)), 0, true)
}

// codeOf returns the code of a plan whose powers, by words, are those of code.
func codeOf(p impl.Plan) (impl.Code, bool) {
	tooLong := func(word string) bool { return len(word) > 16 }
	if p.Inputs != 1 || len(p.Outputs) != 1 || slices.ContainsFunc(wordsOf(p), tooLong) {
		return impl.Code{}, false
	}
	var list []impl.Op
	for _, s := range p.Steps {
		list = append(list, product(s.A, s.B))
	}
	return formula(p.Outputs[0], list...), true
}

func TestCodeOfPlan(t *testing.T) {
	plans := append(smallPlans(2, 3, 2), plan(1, nil), plan(1, nil, 0), plan(1, nil, 0, 0), plan(6, nil, 0),
		plan(1, doublings(4), 4), plan(1, doublings(5), 5), plan(1, doublings(5), 0), plan(1, append(doublings(4), steps(0, 4)...), 4),
		plan(1, append(doublings(4), steps(0, 3)...), 5), squarings(impl.MaxSteps), countingUp(14, 14), countingUp(15, 15), countingUp(15, 0), countingUp(16, 0))
	for _, p := range plans {
		want, ok := codeOf(p)
		c, fine := impl.CodeOfPlan(p)
		expect(t, fmt.Sprint("code of ", p), all(c, fine), want, ok)
		if !ok {
			continue
		}
		powers, _ := impl.OutputExponents(p)
		polynomial := append(make([]int, powers[0][0]), 1)
		expect(t, fmt.Sprint("polynomial of ", p), all(impl.PolynomialOf(c)), polynomial, true)
		depth, _ := impl.DepthOf(p)
		expect(t, fmt.Sprint("depth of ", p), all(impl.CodeDepth(c)), depth, true)
	}
	for n := 1; n <= 40; n++ {
		c, ok := impl.CodeOfPlan(powerPlan(n))
		expect(t, fmt.Sprint("power ", n), all(ok, len(c.Ops)), n <= 16, map[bool]int{true: len(powerPlan(n).Steps)}[n <= 16])
	}
}

func expectThen(t *testing.T, c impl.Code, d impl.Code) bool {
	t.Helper()
	what := fmt.Sprint(c, " and then ", d)
	want := oneBehind(c, d)
	_, ok := polynomialOf(want)
	if !ok {
		want = impl.Code{}
	}
	got, fine := impl.ThenCode(c, d)
	expect(t, what, all(got, fine), want, ok)
	for _, x := range []int{-7, 0, 5} {
		if ok {
			value := valueAt(d, valueAt(c, big.NewInt(int64(x))))
			expect(t, "run "+what, all(impl.RunCode(got, x, 99991)), remainder(value, 99991), true)
		}
	}
	return ok
}

func TestThenCode(t *testing.T) {
	counts := map[bool]int{}
	for _, most := range []int{3, 6, 12, 70} {
		codes := mixedFormulas(uint64(most), 40, most)
		for i, c := range codes {
			counts[expectThen(t, c, codes[len(codes)-1-i])]++
			counts[expectThen(t, c, c)]++
			expectThen(t, c, formula(0))
			expectThen(t, formula(0), c)
		}
	}
	for _, c := range smallFormulas()[:1400] {
		if !impl.IsCode(c) {
			continue
		}
		for _, d := range []impl.Code{formula(3, number(1), sum(0, 1), product(2, 2)), formula(1, scaled(0, -2)), formula(1, number(1)), formula(0, number(3), sum(1, 0))} {
			counts[expectThen(t, c, d)]++
			counts[expectThen(t, d, c)]++
		}
	}
	if counts[true] < 200 || counts[false] < 20 {
		t.Error("both", counts)
	}
}

func TestThenCodeAtTheEdges(t *testing.T) {
	x, cube := formula(0), formula(2, product(0, 0), product(1, 0))
	expect(t, "x and x", all(impl.ThenCode(x, x)), x, true)
	expect(t, "cube of x", all(impl.ThenCode(x, cube)), cube, true)
	expect(t, "x of cube", all(impl.ThenCode(cube, x)), cube, true)
	expect(t, "cube of cube", all(impl.ThenCode(cube, cube)), formula(4, product(0, 0), product(1, 0), product(2, 2), product(3, 2)), true)
	expect(t, "Out is not the last value", all(impl.ThenCode(formula(1, cube.Ops...), formula(1, number(0), scaled(0, 1)))), formula(3, product(0, 0), product(1, 0), number(0), scaled(1, 1)), true)
	expect(t, "Out is x of the second", all(impl.ThenCode(cube, formula(0, number(1)))), formula(2, product(0, 0), product(1, 0), number(1)), true)
	ones := func(count int) impl.Code { return formula(0, slices.Repeat([]impl.Op{number(1)}, count)...) }
	for _, count := range []int{0, 1, 60, 119, 120} {
		expect(t, "MaxOps", all(expectThen(t, ones(count), ones(impl.MaxOps-count))), true)
		expect(t, "MaxOps + 1", all(expectThen(t, ones(count), ones(min(impl.MaxOps-count+1, impl.MaxOps)))), count == 0)
	}
	fourth, fifth := formula(2, squares(2)...), formula(4, powersUpTo(5)...)
	expect(t, "x^16", all(expectThen(t, fourth, fourth)), true)
	expect(t, "x^20", all(expectThen(t, fourth, fifth), expectThen(t, fifth, fourth)), false, false)
	expect(t, "x^20, not needed", all(expectThen(t, fifth, formula(0, fourth.Ops...))), false)
	expect(t, "x^20 of x", all(expectThen(t, formula(0, fifth.Ops...), fourth)), true)
	thousand := formula(1, scaled(0, 1000))
	expect(t, "MaxCoef", all(expectThen(t, thousand, thousand), expectThen(t, thousand, formula(1, scaled(0, -1000)))), true, true)
	expect(t, "too great", all(expectThen(t, thousand, formula(1, scaled(0, 1001))), expectThen(t, formula(1, scaled(0, -1001)), thousand)), false, false)
	expect(t, "too great, not needed", all(expectThen(t, thousand, formula(0, scaled(0, 1001)))), false)
	expect(t, "too great in the middle", all(expectThen(t, formula(2, number(500001), sum(0, 1)), formula(1, product(0, 0)))), false)
}

func TestSameCode(t *testing.T) {
	codes := append(mixedFormulas(9, 60, 5), formula(0), formula(1, number(0)), formula(1, scaled(0, 0)), formula(1, scaled(0, 1)))
	counts := map[bool]int{}
	for _, c := range codes {
		for _, d := range codes {
			first, _ := polynomialOf(c)
			second, _ := polynomialOf(d)
			expect(t, fmt.Sprint(c, " as ", d), all(impl.SameCode(c, d)), slices.Equal(first, second), true)
			counts[slices.Equal(first, second)]++
		}
	}
	if counts[true] < 100 || counts[false] < 100 {
		t.Error("both", counts)
	}
}

func TestSameCodeAtTheEdges(t *testing.T) {
	square := formula(1, product(0, 0))
	for _, k := range []struct {
		c, d impl.Code
		same bool
	}{
		{formula(0), formula(0), true},
		{formula(0), formula(0, number(7)), true},
		{formula(0), formula(1, scaled(0, 1)), true},
		{formula(0), square, false},
		{square, formula(3, number(0), product(0, 0), sum(1, 2)), true},
		{formula(1, sum(0, 0)), formula(1, scaled(0, 2)), true},
		{formula(1, sum(0, 0)), formula(1, scaled(0, -2)), false},
		{formula(1, number(0)), formula(1, scaled(0, 0)), true},
		{formula(1, number(0)), formula(1, number(1)), false},
		// The same at many places, but not as polynomials.
		{formula(1, number(0)), formula(3, product(0, 0), scaled(0, -1), sum(1, 2)), false},
		{square, formula(2, product(0, 0), product(1, 0)), false},
		{formula(2, number(1), sum(0, 1)), formula(2, number(-1), sum(0, 1)), false},
	} {
		expect(t, fmt.Sprint(k.c, " as ", k.d), all(impl.SameCode(k.c, k.d)), k.same, true)
		expect(t, fmt.Sprint(k.d, " as ", k.c), all(impl.SameCode(k.d, k.c)), k.same, true)
	}
	coefs := []int{3, 0, -2, 7, 0, 1, 1, -1, 4}
	horner, _ := impl.HornerCode(coefs)
	for _, codes := range schemesOf(t, append(coefs, 0, 0)) {
		for _, c := range codes {
			expect(t, fmt.Sprint("with zeros, ", c), all(impl.SameCode(horner, c)), true, true)
		}
	}
}
