package tests

import (
	"fmt"
	"regexp"
	"slices"
	"strconv"
	"strings"
	"testing"

	"loop.example/g01098/impl"
)

// ops makes ops of triples of registers, in the order of their text: To, A, B.
func ops(triples ...int) []impl.RegOp {
	var list []impl.RegOp
	for i := 0; i < len(triples); i += 3 {
		list = append(list, impl.RegOp{To: triples[i], A: triples[i+1], B: triples[i+2]})
	}
	return list
}

func code(registers int, inputs []int, list []impl.RegOp, outputs ...int) impl.RegCode {
	return impl.RegCode{Registers: registers, Inputs: inputs, Ops: list, Outputs: outputs}
}

// tracedOf follows the numbers of values through the registers; what an empty one has is not found.
func tracedOf(c impl.RegCode) (impl.Plan, bool) {
	isRegister := func(r int) bool { return 0 <= r && r < c.Registers }
	ok := 1 <= c.Registers && c.Registers <= impl.MaxRegisters
	held := map[int]int{}
	for i, r := range c.Inputs {
		_, full := held[r]
		ok = ok && isRegister(r) && !full
		held[r] = i
	}
	p := plan(len(c.Inputs), nil)
	for i, o := range c.Ops {
		a, full := held[o.A]
		b, fine := held[o.B]
		ok = ok && isRegister(o.To) && isRegister(o.A) && isRegister(o.B) && full && fine
		p.Steps = append(p.Steps, impl.Step{A: min(a, b), B: max(a, b)})
		held[o.To] = len(c.Inputs) + i
	}
	for _, r := range c.Outputs {
		v, full := held[r]
		ok = ok && isRegister(r) && full
		p.Outputs = append(p.Outputs, v)
	}
	if !ok || !impl.IsPlan(p) {
		return impl.Plan{}, false
	}
	return p, true
}

// doneBy does the ops of code in registers of any kind.
func doneBy[V any](c impl.RegCode, inputs []V, times func(V, V) V) []V {
	held := map[int]V{}
	for i, r := range c.Inputs {
		held[r] = inputs[i]
	}
	for _, o := range c.Ops {
		held[o.To] = times(held[o.A], held[o.B])
	}
	var outputs []V
	for _, r := range c.Outputs {
		outputs = append(outputs, held[r])
	}
	return outputs
}

// calledBy changes all registers that code tells, and how many there are.
func calledBy(c impl.RegCode, names map[int]int, registers int) impl.RegCode {
	d := code(registers, nil, nil)
	for _, r := range c.Inputs {
		d.Inputs = append(d.Inputs, names[r])
	}
	for _, o := range c.Ops {
		d.Ops = append(d.Ops, ops(names[o.To], names[o.A], names[o.B])...)
	}
	for _, r := range c.Outputs {
		d.Outputs = append(d.Outputs, names[r])
	}
	return d
}

func renamedBy(c impl.RegCode, list []int) impl.RegCode {
	names := map[int]int{}
	for i, n := range list {
		names[i] = n
	}
	return calledBy(c, names, c.Registers)
}

// packedOf gives each register its name when it is met, the names counting up.
func packedOf(c impl.RegCode) impl.RegCode {
	names := map[int]int{}
	meet := func(registers ...int) {
		for _, r := range registers {
			if _, met := names[r]; !met {
				names[r] = len(names)
			}
		}
	}
	meet(c.Inputs...)
	for _, o := range c.Ops {
		meet(o.A, o.B, o.To)
	}
	meet(c.Outputs...)
	return calledBy(c, names, len(names))
}

func codeTextOf(c impl.RegCode) string {
	list := func(parts []string) string {
		if len(parts) == 0 {
			return "-"
		}
		return strings.Join(parts, ",")
	}
	var inputs, products, outputs []string
	for _, r := range c.Inputs {
		inputs = append(inputs, fmt.Sprint(r))
	}
	for _, o := range c.Ops {
		products = append(products, fmt.Sprintf("%d=%d*%d", o.To, o.A, o.B))
	}
	for _, r := range c.Outputs {
		outputs = append(outputs, fmt.Sprint(r))
	}
	return fmt.Sprintf("%d:%s:%s:%s", c.Registers, list(inputs), list(products), list(outputs))
}

// codePattern has an N for each number.
const codePattern = `^(N):(N(?:,N)*):(-|N=N\*N(?:,N=N\*N)*):(-|N(?:,N)*)$`

var codeText = regexp.MustCompile(strings.ReplaceAll(codePattern, "N", `(?:0|[1-9][0-9]*)`))

func numbersIn(text string) ([]int, bool) {
	var list []int
	for _, digits := range regexp.MustCompile(`[0-9]+`).FindAllString(text, -1) {
		n, err := strconv.Atoi(digits)
		if err != nil {
			return nil, false
		}
		list = append(list, n)
	}
	return list, true
}

// parsedOf reads a text by its pattern.
func parsedOf(text string) (impl.RegCode, bool) {
	parts := codeText.FindStringSubmatch(text)
	if parts == nil {
		return impl.RegCode{}, false
	}
	registers, ok := numbersIn(parts[1])
	inputs, fine := numbersIn(parts[2])
	triples, right := numbersIn(parts[3])
	outputs, good := numbersIn(parts[4])
	if !ok || !fine || !right || !good {
		return impl.RegCode{}, false
	}
	c := code(registers[0], inputs, ops(triples...), outputs...)
	if _, ok := tracedOf(c); !ok {
		return impl.RegCode{}, false
	}
	return c, true
}

// smallCodes returns codes of at most three registers; many are none, in every way.
func smallCodes() []impl.RegCode {
	var codes []impl.RegCode
	for registers := range 4 {
		for _, inputs := range shiftedLists(2, 5) {
			for _, triple := range append(allLists(3, 5), nil) {
				for _, outputs := range shiftedLists(1, 5) {
					codes = append(codes, code(registers, inputs, ops(shiftedBy(triple, -1)...), outputs...))
				}
			}
		}
	}
	for _, registers := range []int{2, 3} {
		for _, inputs := range [][]int{{0}, {1}, {0, 1}, {1, 0}, {registers - 1, 0}} {
			for _, triples := range allLists(6, registers) {
				for _, outputs := range append(allLists(2, registers), allLists(1, registers)...) {
					codes = append(codes, code(registers, inputs, ops(triples...), outputs...))
				}
			}
		}
	}
	return codes
}

// shiftedLists returns all lists with at most so many numbers, from -1 on.
func shiftedLists(most int, count int) [][]int {
	var lists [][]int
	for length := range most + 1 {
		for _, list := range allLists(length, count) {
			lists = append(lists, shiftedBy(list, -1))
		}
	}
	return lists
}

// mixedCode draws code of any size, often with registers that are not told.
func mixedCode(m *mixer) impl.RegCode {
	c := code(1+m.below(impl.MaxRegisters), nil, nil)
	order := mixedPermutation(m, c.Registers)
	full := order[:1+m.below(min(impl.MaxInputs, c.Registers))]
	c.Inputs = slices.Clone(full)
	full = slices.Clone(full)
	totals := map[int]int{}
	for _, r := range full {
		totals[r] = 1
	}
	near := 1 + m.below(c.Registers)
	for range m.below(impl.MaxSteps + 1) {
		a, b, to := full[m.below(len(full))], full[m.below(len(full))], order[m.below(near)]
		if totals[a]+totals[b] > impl.MaxExponent {
			break
		}
		if !slices.Contains(full, to) {
			full = append(full, to)
		}
		totals[to] = totals[a] + totals[b]
		c.Ops = append(c.Ops, impl.RegOp{To: to, A: a, B: b})
	}
	for range m.below(impl.MaxOutputs + 1) {
		c.Outputs = append(c.Outputs, full[m.below(len(full))])
	}
	return c
}

func mixedCodes(seed uint64, count int) []impl.RegCode {
	m := &mixer{seed}
	var codes []impl.RegCode
	for range count {
		codes = append(codes, mixedCode(m))
	}
	return codes
}

func TestExampleOfChapter7(t *testing.T) {
	p, ok := impl.ParsePlan("1:0*0,0*1,2*2:3")
	c, fine := impl.AllocatePlan(p)
	expect(t, "code", all(c, ok, fine), code(2, []int{0}, ops(1, 0, 0, 0, 0, 1, 0, 0, 0), 0), true, true)
	expect(t, "its text", all(impl.RegCodeText(c)), "2:0:1=0*0,0=0*1,0=0*0:0", true)
	expect(t, "its pressure", all(impl.PressureOf(p)), 2, true)
	expect(t, "its plan", all(impl.RegCodePlan(c)), p, true)
}

func expectCode(t *testing.T, c impl.RegCode) bool {
	t.Helper()
	p, ok := tracedOf(c)
	text := codeTextOf(c)
	if is := impl.IsRegCode(c); is != ok {
		t.Errorf("%s: code is %v", text, is)
	}
	expect(t, "plan of "+text, all(impl.RegCodePlan(c)), p, ok)
	want, packed := "", impl.RegCode{}
	if ok {
		want, packed = text, packedOf(c)
	}
	expect(t, "text of "+text, all(impl.RegCodeText(c)), want, ok)
	expect(t, "packed "+text, all(impl.PackRegisters(c)), packed, ok)
	read, fine := parsedOf(text)
	expect(t, "code of "+text, all(impl.ParseRegCode(text)), read, fine)
	return ok
}

func TestSmallCodes(t *testing.T) {
	valid := 0
	for _, c := range smallCodes() {
		if expectCode(t, c) {
			valid++
		}
	}
	if valid < 1000 {
		t.Errorf("only %d are code", valid)
	}
}

func TestMixedCodes(t *testing.T) {
	for _, c := range mixedCodes(20, 2000) {
		if !expectCode(t, c) {
			t.Fatalf("no code: %v", c)
		}
	}
}

// TestCodesHaveThePowersOfTheirPlans says for code what its plan is for, letter by letter where words are short.
func TestCodesHaveThePowersOfTheirPlans(t *testing.T) {
	m := &mixer{21}
	for _, c := range append(smallCodes(), mixedCodes(22, 1000)...) {
		p, ok := impl.RegCodePlan(c)
		if !ok {
			continue
		}
		what := codeTextOf(c)
		modulus := mixedModulus(m)
		inputs := mixedResidues(m, len(c.Inputs), modulus)
		want := doneBy(c, inputs, timesModulo(modulus))
		expect(t, "run "+what, all(impl.RunRegCode(c, modulus, inputs)), want, true)
		expect(t, "its plan "+what, all(impl.RunResidues(p, modulus, inputs)), want, true)
		if len(c.Ops) > 15 {
			continue
		}
		var rows [][]int
		for _, word := range doneBy(c, []string{"a", "b", "c", "d", "e", "f"}[:len(c.Inputs)], wordTimes) {
			rows = append(rows, lettersOf(word, len(c.Inputs)))
		}
		expect(t, "letters of "+what, all(impl.OutputExponents(p)), rows, true)
	}
}

func TestRunRegCodeAtTheEdges(t *testing.T) {
	c := code(3, []int{2, 0}, ops(2, 0, 2, 0, 2, 2), 2, 0, 2)
	expect(t, "two inputs", all(impl.RunRegCode(c, 7, []int{2, 3})), []int{6, 1, 6}, true)
	expect(t, "least modulus", all(impl.RunRegCode(c, 2, []int{1, 1})), []int{1, 1, 1}, true)
	last := impl.MaxModulus - 1
	expect(t, "MaxModulus", all(impl.RunRegCode(c, impl.MaxModulus, []int{last, last})), []int{1, 1, 1}, true)
	expect(t, "an input", all(impl.RunRegCode(code(1, []int{0}, nil, 0, 0), 7, []int{5})), []int{5, 5}, true)
	expect(t, "no outputs", all(impl.RunRegCode(code(1, []int{0}, nil), 7, []int{5})), []int{}, true)
	expect(t, "inputs told the other way round", all(impl.RunRegCode(code(2, []int{1, 0}, nil, 0, 1), 7, []int{5, 6})), []int{6, 5}, true)
	expect(t, "an input that is written over", all(impl.RunRegCode(code(1, []int{0}, ops(0, 0, 0, 0, 0, 0), 0), 7, []int{3})), []int{4}, true)
	for inputs := 1; inputs <= impl.MaxInputs; inputs++ {
		c := code(inputs, upTo(inputs), nil, inputs-1)
		for count := range impl.MaxInputs + 3 {
			_, ok := impl.RunRegCode(c, 2, make([]int, count))
			expect(t, fmt.Sprint(count, " for ", inputs, " inputs"), all(ok), count == inputs)
		}
	}
}

func TestCodesAtTheLimits(t *testing.T) {
	if c := []int{impl.MaxRegisters, impl.MaxOrdered}; !same(c, []int{46, 8}) {
		t.Error("constants", c)
	}
	for name, c := range map[string]impl.RegCode{
		"1 register":                   code(1, []int{0}, ops(0, 0, 0), 0),
		"MaxRegisters":                 code(impl.MaxRegisters, []int{45, 0}, ops(44, 45, 0), 44, 45),
		"MaxSteps Ops":                 code(2, []int{0}, slices.Repeat(ops(1, 0, 0), impl.MaxSteps), 1),
		"MaxInputs":                    code(6, []int{5, 4, 3, 2, 1, 0}, nil, 0, 5),
		"MaxOutputs":                   code(1, []int{0}, nil, 0, 0, 0, 0, 0, 0),
		"all registers full":           fullCode(),
		"MaxExponent":                  exponentCode(impl.MaxExponent),
		"MaxExponent, no output":       code(2, exponentCode(impl.MaxExponent).Inputs, exponentCode(impl.MaxExponent).Ops),
		"no Ops, no outputs":           code(1, []int{0}, nil),
		"an Op that reads where it To": code(2, []int{1, 0}, ops(0, 0, 1, 1, 0, 1, 1, 1, 1), 0, 1),
	} {
		if !impl.IsRegCode(c) {
			t.Errorf("no code: %s", name)
		}
		expectCode(t, c)
	}
	for name, c := range invalidCodes() {
		if impl.IsRegCode(c) {
			t.Errorf("code: %s", name)
		}
	}
}

// fullCode has a value in each of MaxRegisters registers.
func fullCode() impl.RegCode {
	c := code(impl.MaxRegisters, upTo(impl.MaxInputs), nil, 45, 0, 6)
	for to := impl.MaxInputs; to < impl.MaxRegisters; to++ {
		c.Ops = append(c.Ops, impl.RegOp{To: to, A: to - 1, B: 5})
	}
	return c
}

// exponentCode makes the power n in the register 1, which begins as the input.
func exponentCode(n int) impl.RegCode {
	c := code(2, []int{0}, ops(1, 0, 0), 1)
	digits := binary(n)
	if digits[1] == '1' {
		c.Ops = append(c.Ops, ops(1, 0, 1)...)
	}
	for _, digit := range digits[2:] {
		c.Ops = append(c.Ops, ops(1, 1, 1)...)
		if digit == '1' {
			c.Ops = append(c.Ops, ops(1, 0, 1)...)
		}
	}
	return c
}

func TestPlansOfCodesAtTheEdges(t *testing.T) {
	for text, want := range map[string]string{
		"1:0:-:-":                       "1:-:-",
		"1:0:-:0,0":                     "1:-:0,0",
		"2:1:-:1":                       "1:-:0",
		"3:2,0:-:0,2,0":                 "2:-:1,0,1",
		"1:0:0=0*0,0=0*0:0":             "1:0*0,1*1:2",
		"1:0:0=0*0:-":                   "1:0*0:-",
		"2:0:1=0*0,0=0*1,0=0*0:0":       "1:0*0,0*1,2*2:3",
		"2:0,1:0=1*0:0,1":               "2:0*1:2,1",
		"2:1,0:0=0*1:0":                 "2:0*1:2",
		"2:0:1=0*0,0=1*1,1=0*1:1,0":     "1:0*0,1*1,1*2:3,2",
		"2:0:1=0*0,0=1*1,1=1*0:1,0":     "1:0*0,1*1,1*2:3,2",
		"3:0,2:1=2*0,2=0*1,0=2*1:0,2,1": "2:0*1,0*2,2*3:4,3,2",
		"46:45:44=45*45,45=44*45:45,44": "1:0*0,0*1:2,1",
		"2:0:1=0*0,1=0*0:1":             "1:0*0,0*0:2",
	} {
		c, ok := impl.ParseRegCode(text)
		p, fine := impl.RegCodePlan(c)
		got, right := impl.PlanText(p)
		expect(t, "plan of "+text, all(got, ok, fine, right), want, true, true, true)
	}
}

// neededIn follows the definition for any set of steps.
func neededIn(p impl.Plan, done []int) []int {
	var list []int
	for v := range p.Inputs + len(p.Steps) {
		outputs, users := usersOf(p, v)
		waiting := slices.DeleteFunc(users, func(i int) bool { return slices.Contains(done, i) })
		if (v < p.Inputs || slices.Contains(done, v-p.Inputs)) && len(outputs)+len(waiting) > 0 {
			list = append(list, v)
		}
	}
	return list
}

// takenIn returns how many registers are taken when the last step of an order has just been done.
func takenIn(p impl.Plan, done []int) int {
	own := p.Inputs + done[len(done)-1]
	return len(setOf(neededIn(p, done), []int{own}))
}

func pressureIn(p impl.Plan, order []int) int {
	most := p.Inputs
	for i := range order {
		most = max(most, takenIn(p, order[:i+1]))
	}
	return most
}

// allocatedOf looks for registers in a list that grows; the pressure tells how many there are.
func allocatedOf(p impl.Plan) impl.RegCode {
	const empty = -1
	c := code(pressureIn(p, upTo(len(p.Steps))), upTo(p.Inputs), nil)
	held := upTo(p.Inputs)
	for i, s := range p.Steps {
		a, b := slices.Index(held, s.A), slices.Index(held, s.B)
		needed := neededIn(p, upTo(i+1))
		for r, v := range held {
			if !slices.Contains(needed, v) {
				held[r] = empty
			}
		}
		to := slices.Index(append(held, empty), empty)
		if to == len(held) {
			held = append(held, empty)
		}
		held[to] = p.Inputs + i
		c.Ops = append(c.Ops, impl.RegOp{To: to, A: a, B: b})
	}
	for _, o := range p.Outputs {
		c.Outputs = append(c.Outputs, slices.Index(held, o))
	}
	return c
}

// registerPlans has small plans, plans of all sizes, and those of other tests.
func registerPlans() []impl.Plan {
	plans := append(smallPlans(2, 3, 2), samplePlans()...)
	m := &mixer{19}
	for range 400 {
		plans = append(plans, mixedPlan(m, true), mixedPlan(m, false))
	}
	return append(plans, mirror())
}

func TestNeededValuesAndAllocatedPlans(t *testing.T) {
	for _, p := range registerPlans() {
		what := fmt.Sprint(" of ", p)
		for done := range len(p.Steps) + 1 {
			expect(t, fmt.Sprint("needed after ", done, what), all(impl.NeededAfter(p, done)), neededIn(p, upTo(done)), true)
		}
		expect(t, "pressure"+what, all(impl.PressureOf(p)), pressureIn(p, upTo(len(p.Steps))), true)
		expect(t, "code"+what, all(impl.AllocatePlan(p)), allocatedOf(p), true)
	}
}

// TestCodeHasThePlanOfWhichItIsMade says one half of the promise itself.
func TestCodeHasThePlanOfWhichItIsMade(t *testing.T) {
	m := &mixer{23}
	for _, p := range registerPlans() {
		what := fmt.Sprint(" of ", p)
		c, ok := impl.AllocatePlan(p)
		expect(t, "code"+what, all(impl.IsRegCode(c), ok), true, true)
		expect(t, "plan of code"+what, all(impl.RegCodePlan(c)), p, true)
		expect(t, "check of code"+what, all(impl.CheckRegCode(c, p)), true, true)
		pressure, ok := impl.PressureOf(p)
		expect(t, "registers"+what, all(c.Registers, ok), pressure, true)
		packed, ok := impl.PackRegisters(c)
		expect(t, "packed code"+what, all(packed.Registers <= c.Registers, ok), true, true)
		expect(t, "plan of packed code"+what, all(impl.RegCodePlan(packed)), p, true)
		renamed, ok := impl.RenameRegisters(c, mixedPermutation(m, c.Registers))
		expect(t, "plan of renamed code"+what, all(impl.RegCodePlan(renamed)), p, ok)
		inputs := mixedResidues(m, p.Inputs, 101)
		want, ok := impl.RunResidues(p, 101, inputs)
		expect(t, "run code"+what, all(impl.RunRegCode(renamed, 101, inputs)), want, ok)
	}
}

func TestNeededAfterAtTheEdges(t *testing.T) {
	p := plan(3, steps(0, 0, 1, 3, 3, 4), 4, 1)
	for done, want := range [][]int{{0, 1}, {1, 3}, {1, 3, 4}, {1, 4}} {
		expect(t, fmt.Sprint("after ", done), all(impl.NeededAfter(p, done)), want, true)
	}
	expect(t, "no steps, no outputs", all(impl.NeededAfter(plan(6, nil), 0)), []int{}, true)
	expect(t, "inputs are outputs", all(impl.NeededAfter(plan(3, nil, 2, 0, 2), 0)), []int{0, 2}, true)
	expect(t, "needed by a step that nothing needs", all(impl.NeededAfter(plan(2, steps(1, 1)), 0)), []int{1}, true)
	expect(t, "no outputs, all done", all(impl.NeededAfter(plan(2, steps(1, 1)), 1)), []int{}, true)
	expect(t, "none of MaxSteps", all(impl.NeededAfter(squarings(impl.MaxSteps), 0)), []int{0}, true)
	expect(t, "MaxSteps", all(impl.NeededAfter(squarings(impl.MaxSteps), impl.MaxSteps)), []int{40}, true)
	expect(t, "all but one", all(impl.NeededAfter(squarings(impl.MaxSteps), impl.MaxSteps-1)), []int{0}, true)
}

func TestPressureAtTheEdges(t *testing.T) {
	for name, c := range map[string]struct {
		p    impl.Plan
		want int
	}{
		"nothing":                            {plan(1, nil), 1},
		"inputs that nothing needs":          {plan(6, nil), 6},
		"one of them":                        {plan(6, nil, 3), 6},
		"inputs alone are the most":          {plan(6, steps(0, 1, 2, 6), 7), 6},
		"they are not needed":                {plan(5, steps(0, 0, 5, 5), 6), 5},
		"a square":                           {plan(1, steps(0, 0), 1), 1},
		"and its input":                      {plan(1, steps(0, 0), 1, 0), 2},
		"a value that nothing needs":         {plan(1, steps(0, 0), 0), 2},
		"only such a one":                    {plan(1, steps(0, 0)), 1},
		"such ones beside an input":          {plan(1, steps(0, 0, 0, 0, 0, 0), 0), 2},
		"such a one, the last input use":     {plan(1, steps(0, 0, 1, 1, 1, 1), 2), 2},
		"it takes a register once":           {plan(1, steps(0, 0, 0, 0, 0, 0), 3), 2},
		"an output twice":                    {plan(1, steps(0, 0), 1, 1, 1), 1},
		"squares of squares":                 {plan(1, doublings(19), 19), 1},
		"all of them":                        {plan(1, doublings(5), 5, 4, 3, 2, 1, 0), 6},
		"MaxSteps that nothing needs":        {squarings(impl.MaxSteps), 2},
		"MaxSteps needed at the end":         {mirror(), 21},
		"six inputs, their products":         {plan(6, steps(0, 1, 2, 3, 4, 5), 6, 7, 8), 6},
		"six inputs as outputs, a product":   {plan(6, steps(0, 1), 0, 1, 2, 3, 4, 5), 7},
		"six inputs as outputs, two of them": {plan(6, steps(0, 1, 0, 6, 6, 7), 0, 1, 2, 3, 4, 5), 8},
	} {
		expect(t, "pressure: "+name, all(impl.PressureOf(c.p)), c.want, true)
		code, ok := impl.AllocatePlan(c.p)
		expect(t, "registers: "+name, all(code.Registers, ok), c.want, true)
	}
}

// mirror makes 20 squares beside each other, all of which are needed by the steps behind them.
func mirror() impl.Plan {
	p := plan(1, make([]impl.Step, 20), 40)
	p.Steps = append(p.Steps, impl.Step{A: 0, B: 20})
	for i := range 19 {
		p.Steps = append(p.Steps, impl.Step{A: 19 - i, B: 21 + i})
	}
	return p
}

func TestAllocatePlanAtTheEdges(t *testing.T) {
	for text, want := range map[string]string{
		"1:-:-":                       "1:0:-:-",
		"1:-:0,0":                     "1:0:-:0,0",
		"6:-:-":                       "6:0,1,2,3,4,5:-:-",
		"3:-:2,0":                     "3:0,1,2:-:2,0",
		"1:0*0:1":                     "1:0:0=0*0:0",
		"1:0*0:0":                     "2:0:1=0*0:0",
		"1:0*0:1,0,1":                 "2:0:1=0*0:1,0,1",
		"1:0*0:-":                     "1:0:0=0*0:-",
		"1:0*0,0*0:-":                 "2:0:1=0*0,0=0*0:-",
		"1:0*0,0*0:0":                 "2:0:1=0*0,1=0*0:0",
		"1:0*0,0*0:2":                 "2:0:1=0*0,0=0*0:0",
		"1:0*0,0*1,2*2:3":             "2:0:1=0*0,0=0*1,0=0*0:0",
		"2:1*1:2":                     "2:0,1:0=1*1:0",
		"2:1*1,1*2:3,2":               "2:0,1:0=1*1,1=1*0:1,0",
		"6:2*4,3*6:7,5":               "6:0,1,2,3,4,5:0=2*4,0=3*0:0,5",
		"3:0*1,0*2:4,3":               "3:0,1,2:1=0*1,0=0*2:0,1",
		"1:0*0,0*1,1*1,2*3,0*0:4,0":   "3:0:1=0*0,2=0*1,1=1*1,1=2*1,2=0*0:1,0",
		"2:0*0,1*1,2*3,0*2,1*4:6,5,0": "4:0,1:2=0*0,3=1*1,3=2*3,2=0*2,1=1*3:1,2,0",
	} {
		p, ok := impl.ParsePlan(text)
		c, fine := impl.AllocatePlan(p)
		got, right := impl.RegCodeText(c)
		expect(t, "code of "+text, all(got, ok, fine, right), want, true, true, true)
	}
	c, ok := impl.AllocatePlan(mirror())
	expect(t, "MaxSteps", all(c.Registers, len(c.Ops), ok), 21, 40, true)
	expect(t, "their plan", all(impl.RegCodePlan(c)), mirror(), true)
	six := plan(6, slices.Repeat(steps(0, 5), 40), 0, 1, 2, 3, 4, 45)
	c, ok = impl.AllocatePlan(six)
	expect(t, "MaxInputs and MaxSteps", all(c.Registers, c.Ops, c.Outputs, ok), 7, append(slices.Repeat(ops(6, 0, 5), 39), ops(5, 0, 5)...), []int{0, 1, 2, 3, 4, 5}, true)
}

func TestCheckRegCode(t *testing.T) {
	var codes []impl.RegCode
	for _, c := range smallCodes() {
		if _, ok := tracedOf(c); ok && len(codes) < 10000 {
			codes = append(codes, c)
		}
	}
	codes = append(codes[:300], mixedCodes(24, 50)...)
	plans := append(smallPlans(2, 2, 2), samplePlans()...)
	matching := 0
	for _, c := range codes {
		p, _ := tracedOf(c)
		rows, _ := impl.OutputExponents(p)
		for _, q := range append(plans, p) {
			others, _ := impl.OutputExponents(q)
			want := p.Inputs == q.Inputs && same(rows, others)
			if is, ok := impl.CheckRegCode(c, q); is != want || !ok {
				t.Fatalf("check of %v and %v: %v, %v", c, q, is, ok)
			}
			if want {
				matching++
			}
		}
	}
	if matching < 1000 {
		t.Errorf("only %d match", matching)
	}
}

func TestCheckRegCodeAtTheEdges(t *testing.T) {
	cube := code(2, []int{0}, ops(1, 0, 0, 0, 1, 0), 0)
	expect(t, "the plan", all(impl.CheckRegCode(cube, plan(1, steps(0, 0, 0, 1), 2))), true, true)
	expect(t, "another plan", all(impl.CheckRegCode(cube, plan(1, steps(0, 0, 1, 1, 0, 1), 3))), true, true)
	expect(t, "another power", all(impl.CheckRegCode(cube, plan(1, steps(0, 0, 1, 1), 2))), false, true)
	expect(t, "the output twice", all(impl.CheckRegCode(cube, plan(1, steps(0, 0, 0, 1), 2, 2))), false, true)
	expect(t, "no output", all(impl.CheckRegCode(cube, plan(1, steps(0, 0, 0, 1)))), false, true)
	expect(t, "more inputs", all(impl.CheckRegCode(cube, plan(2, steps(0, 0, 0, 2), 3))), false, true)
	for inputs := 1; inputs <= impl.MaxInputs; inputs++ {
		for others := 1; others <= impl.MaxInputs; others++ {
			what := fmt.Sprint(inputs, " and ", others, " inputs")
			expect(t, what+", no outputs", all(impl.CheckRegCode(code(6, upTo(inputs), nil), plan(others, nil))), inputs == others, true)
			expect(t, what+", the first one", all(impl.CheckRegCode(code(6, upTo(inputs), nil, 0), plan(others, nil, 0))), inputs == others, true)
		}
	}
	expect(t, "outputs the other way round", all(impl.CheckRegCode(code(2, []int{0, 1}, nil, 0, 1), plan(2, nil, 1, 0))), false, true)
	expect(t, "inputs the other way round", all(impl.CheckRegCode(code(2, []int{1, 0}, nil, 0, 1), plan(2, nil, 1, 0))), true, true)
}

// ordersOf returns all orders of the steps, those that are lexicographically less first.
func ordersOf(p impl.Plan) [][]int {
	var found [][]int
	var goOn func(order []int)
	goOn = func(order []int) {
		if len(order) == len(p.Steps) {
			found = append(found, slices.Clone(order))
		}
		for i, s := range p.Steps {
			there := func(v int) bool { return v < p.Inputs || slices.Contains(order, v-p.Inputs) }
			if !slices.Contains(order, i) && there(s.A) && there(s.B) {
				goOn(append(slices.Clone(order), i))
			}
		}
	}
	goOn(nil)
	return found
}

// expectOrders compares with what the pressures of all orders tell.
func expectOrders(t *testing.T, p impl.Plan) {
	t.Helper()
	what := fmt.Sprint(" of ", p)
	list := ordersOf(p)
	var pressures []int
	for _, order := range list {
		pressures = append(pressures, pressureIn(p, order))
	}
	fewest := slices.Min(pressures)
	expect(t, "orders"+what, all(impl.CountOrders(p)), len(list), true)
	expect(t, "fewest registers"+what, all(impl.FewestRegisters(p)), fewest, true)
	expect(t, "best order"+what, all(impl.BestOrder(p)), list[slices.Index(pressures, fewest)], true)
	for _, registers := range append(upTo(16), impl.MaxRegisters) {
		within := 0
		for _, n := range pressures {
			if n <= registers {
				within++
			}
		}
		expect(t, fmt.Sprint("orders within ", registers, what), all(impl.OrdersWithin(p, registers)), within, true)
	}
}

func TestOrdersOfSmallPlans(t *testing.T) {
	for _, p := range append(smallPlans(2, 2, 2), smallPlans(1, 3, 2)...) {
		expectOrders(t, p)
	}
	for _, p := range smallPlans(1, 4, 1) {
		if len(p.Steps) == 4 {
			expectOrders(t, p)
		}
	}
}

// mixedOrdered draws a plan with so many steps, many of which do not need each other.
func mixedOrdered(m *mixer, count int) impl.Plan {
	p := plan(1+m.below(4), nil)
	for range count {
		values := p.Inputs + m.below(len(p.Steps)+1)
		a, b := m.below(values), m.below(values)
		p.Steps = append(p.Steps, impl.Step{A: min(a, b), B: max(a, b)})
	}
	for range m.below(impl.MaxOutputs + 1) {
		p.Outputs = append(p.Outputs, m.below(p.Inputs+count))
	}
	return p
}

func TestOrdersOfMixedPlans(t *testing.T) {
	m := &mixer{25}
	for range 300 {
		expectOrders(t, mixedOrdered(m, 4+m.below(2)))
	}
	for range 40 {
		expectOrders(t, mixedOrdered(m, 6))
	}
	for range 10 {
		p := mixedOrdered(m, impl.MaxOrdered)
		if count, ok := impl.CountOrders(p); ok && count < 2000 {
			expectOrders(t, p)
		}
	}
}

// TestTheBestOrderNeedsTheFewestRegisters says the other half of the promise itself.
func TestTheBestOrderNeedsTheFewestRegisters(t *testing.T) {
	m := &mixer{26}
	plans := samplePlans()
	for range 300 {
		plans = append(plans, mixedOrdered(m, m.below(impl.MaxOrdered+1)))
	}
	better := 0
	for _, p := range plans {
		if len(p.Steps) > impl.MaxOrdered {
			continue
		}
		what := fmt.Sprint(" of ", p)
		pressure, ok := impl.PressureOf(p)
		fewest, fine := impl.FewestRegisters(p)
		expect(t, "the order that stands is none of less pressure"+what, all(fewest <= pressure, ok, fine), true, true, true)
		order, ok := impl.BestOrder(p)
		best, fine := impl.ReorderSteps(p, order)
		expect(t, "best order"+what, all(ok, fine), true, true)
		expect(t, "its pressure"+what, all(impl.PressureOf(best)), fewest, true)
		c, ok := impl.AllocatePlan(best)
		expect(t, "its registers"+what, all(c.Registers, ok), fewest, true)
		expect(t, "its powers"+what, all(impl.CheckRegCode(c, p)), true, true)
		count, ok := impl.CountOrders(p)
		for _, registers := range append(upTo(16), impl.MaxRegisters) {
			within, fine := impl.OrdersWithin(p, registers)
			expect(t, fmt.Sprint("within ", registers, what), all(within > 0, within <= count, ok, fine), registers >= fewest, true, true, true)
		}
		if fewest < pressure {
			better++
		}
	}
	if better < 20 {
		t.Errorf("only %d orders are better than those that stand", better)
	}
}

func TestOrdersAtTheEdges(t *testing.T) {
	for text, want := range map[string][]any{
		"1:-:-":                       all(1, 1, []int{}),
		"6:-:0":                       all(1, 6, []int{}),
		"1:0*0:1":                     all(1, 1, []int{0}),
		"1:0*0:0":                     all(1, 2, []int{0}),
		"1:0*0,0*0:-":                 all(2, 2, []int{0, 1}),
		"1:0*0,0*0:2":                 all(2, 2, []int{0, 1}),
		"1:0*0,0*0,0*0:1":             all(6, 2, []int{1, 0, 2}),
		"1:0*0,0*0,0*0:1,0":           all(6, 2, []int{1, 2, 0}),
		"1:0*0,0*0,0*0,0*0:1,2":       all(24, 2, []int{2, 3, 0, 1}),
		"2:0*0,0*0,1*1,1*1,4*5:2,3,6": all(40, 3, []int{2, 3, 4, 0, 1}),
		"1:0*0,0*0,1*1,2*2:3,4":       all(6, 2, []int{0, 1, 2, 3}),
		"2:0*0,1*1,2*2,3*3:4,5":       all(6, 2, []int{0, 1, 2, 3}),
		"1:0*0,0*0,0*0,1*2:4,3":       all(8, 3, []int{0, 1, 2, 3}),
		"1:0*0,0*1,0*1,0*2,0*3,4*5:6": all(6, 3, []int{0, 1, 2, 3, 4, 5}),
	} {
		p, ok := impl.ParsePlan(text)
		if !ok {
			t.Fatal(text)
		}
		expectOrders(t, p)
		count, ok := impl.CountOrders(p)
		fewest, fine := impl.FewestRegisters(p)
		order, right := impl.BestOrder(p)
		expect(t, "orders of "+text, all(count, fewest, order, ok, fine, right), append(want, true, true, true)...)
	}
	// Inputs alone are the most.
	for inputs := 1; inputs <= impl.MaxInputs; inputs++ {
		for _, p := range []impl.Plan{plan(inputs, nil), plan(inputs, steps(0, 0, inputs, inputs), inputs+1)} {
			what := fmt.Sprint(" of ", p)
			expect(t, "fewest"+what, all(impl.FewestRegisters(p)), inputs, true)
			expect(t, "within one less"+what, all(impl.OrdersWithin(p, inputs-1)), 0, true)
			expect(t, "within"+what, all(impl.OrdersWithin(p, inputs)), 1, true)
		}
	}
	expect(t, "within 0", all(impl.OrdersWithin(plan(1, nil), 0)), 0, true)
	expect(t, "within MaxRegisters", all(impl.OrdersWithin(plan(1, nil), impl.MaxRegisters)), 1, true)
}

func TestOrdersAtTheLimits(t *testing.T) {
	factorial := 1
	for count := 1; count <= impl.MaxOrdered; count++ {
		factorial *= count
		what := fmt.Sprint(count, " squares")
		expect(t, what, all(impl.CountOrders(squarings(count))), factorial, true)
		// The last one is the output, and in whatever order, the input is needed until the end.
		expect(t, what+", fewest", all(impl.FewestRegisters(squarings(count))), min(count, 2), true)
	}
	expect(t, "MaxOrdered, the best", all(impl.BestOrder(squarings(8))), []int{0, 1, 2, 3, 4, 5, 6, 7}, true)
	expect(t, "MaxOrdered, within 2", all(impl.OrdersWithin(squarings(8), 2)), 5040+5040, true)
	chain := plan(1, doublings(8), 8)
	expect(t, "one order", all(impl.CountOrders(chain)), 1, true)
	expect(t, "it is the best", all(impl.BestOrder(chain)), []int{0, 1, 2, 3, 4, 5, 6, 7}, true)
	six := plan(6, steps(0, 1, 1, 2, 2, 3, 3, 4, 4, 5, 0, 5, 0, 0, 1, 1), 6, 7, 8, 9, 10, 11)
	fewest, ok := impl.FewestRegisters(six)
	count, fine := impl.OrdersWithin(six, fewest)
	expect(t, "MaxInputs, MaxOrdered and MaxOutputs", all(fewest, ok, fine, count > 0), 7, true, true, true)
	expect(t, "all orders", all(impl.OrdersWithin(six, impl.MaxRegisters)), 40320, true)
	for count := impl.MaxOrdered + 1; count <= impl.MaxSteps; count++ {
		for _, p := range []impl.Plan{squarings(count), plan(1, make([]impl.Step, count)), plan(6, make([]impl.Step, count), 0, 5)} {
			expectZero(t, fmt.Sprint("orders of ", count), all(impl.CountOrders(p)))
			expectZero(t, fmt.Sprint("fewest of ", count), all(impl.FewestRegisters(p)))
			expectZero(t, fmt.Sprint("best of ", count), all(impl.BestOrder(p)))
			expectZero(t, fmt.Sprint("within of ", count), all(impl.OrdersWithin(p, impl.MaxRegisters)))
		}
	}
}

func TestSeveralBestOrders(t *testing.T) {
	m := &mixer{27}
	several := 0
	for range 300 {
		p := mixedOrdered(m, 5)
		fewest, _ := impl.FewestRegisters(p)
		if count, _ := impl.OrdersWithin(p, fewest); count < 2 {
			continue
		}
		several++
		for _, order := range ordersOf(p) {
			if pressureIn(p, order) == fewest {
				expect(t, fmt.Sprint("first one of the best of ", p), all(impl.BestOrder(p)), order, true)
				break
			}
		}
	}
	if several < 100 {
		t.Errorf("only %d plans have several best orders", several)
	}
}

func TestRenameRegisters(t *testing.T) {
	for _, c := range smallCodes() {
		if _, ok := tracedOf(c); !ok {
			continue
		}
		for _, names := range permutationsOf(c.Registers) {
			got, ok := impl.RenameRegisters(c, names)
			if !ok || !same(got, renamedBy(c, names)) {
				t.Fatalf("%v called %v: %v, %v", c, names, got, ok)
			}
		}
	}
	m := &mixer{28}
	for _, c := range mixedCodes(29, 1000) {
		names := mixedPermutation(m, c.Registers)
		got, ok := impl.RenameRegisters(c, names)
		expect(t, fmt.Sprint(c, " called ", names), all(got, ok), renamedBy(c, names), true)
		p, _ := tracedOf(c)
		expect(t, fmt.Sprint("plan of ", c, " called ", names), all(impl.RegCodePlan(got)), p, true)
	}
	c := code(3, []int{0, 2}, ops(1, 2, 0), 1, 2)
	expect(t, "called the next ones", all(impl.RenameRegisters(c, []int{1, 2, 0})), code(3, []int{1, 0}, ops(2, 0, 1), 2, 0), true)
	expect(t, "called as they are", all(impl.RenameRegisters(c, []int{0, 1, 2})), c, true)
	back := upTo(impl.MaxRegisters)
	slices.Reverse(back)
	expect(t, "MaxRegisters back", all(impl.RenameRegisters(fullCode(), back)), renamedBy(fullCode(), back), true)
}

func TestNamesThatAreNone(t *testing.T) {
	c := code(3, []int{0}, ops(1, 0, 0), 1)
	for length := range 5 {
		for _, names := range shiftedLists(length, 6) {
			_, ok := impl.RenameRegisters(c, names)
			expect(t, fmt.Sprint("names ", names), all(ok), len(names) == 3 && isPermutation(names))
		}
	}
	for _, names := range strangeNames() {
		expectZero(t, fmt.Sprint("names ", names), all(impl.RenameRegisters(c, names)))
	}
	for registers := 1; registers <= impl.MaxRegisters; registers++ {
		for _, count := range []int{registers - 1, registers, registers + 1, impl.MaxRegisters + 1} {
			_, ok := impl.RenameRegisters(code(registers, []int{registers - 1}, nil), upTo(count))
			expect(t, fmt.Sprint(count, " names for ", registers), all(ok), count == registers)
		}
	}
}

func TestPackRegistersAtTheEdges(t *testing.T) {
	for text, want := range map[string]string{
		"1:0:-:-":                               "1:0:-:-",
		"46:0:-:-":                              "1:0:-:-",
		"46:45:-:45,45":                         "1:0:-:0,0",
		"3:2,0:-:0":                             "2:0,1:-:1",
		"5:3:1=3*3:1":                           "2:0:1=0*0:1",
		"5:3:3=3*3,0=3*3:0":                     "2:0:0=0*0,1=0*0:1",
		"9:8,1,4:6=4*8,1=6*1,0=1*6:0,4":         "5:0,1,2:3=2*0,1=3*1,4=1*3:4,2",
		"4:0:2=0*0,1=0*2:1":                     "3:0:1=0*0,2=0*1:2",
		"46:5,4,3,2,1,0:45=0*5,44=45*45:44,0,5": "8:0,1,2,3,4,5:6=5*0,7=6*6:7,5,0",
		"2:0:0=0*0:0":                           "1:0:0=0*0:0",
		"3:1,0:2=0*1:2":                         "3:0,1:2=1*0:2",
	} {
		c, ok := impl.ParseRegCode(text)
		d, fine := impl.PackRegisters(c)
		got, right := impl.RegCodeText(d)
		expect(t, "packed "+text, all(got, ok, fine, right), want, true, true, true)
		expect(t, "packed twice "+text, all(impl.PackRegisters(d)), d, true)
	}
	expect(t, "all registers told", all(impl.PackRegisters(fullCode())), fullCode(), true)
}

func TestPackedCodesHaveTheSamePlans(t *testing.T) {
	packed := 0
	for _, c := range mixedCodes(30, 2000) {
		d, ok := impl.PackRegisters(c)
		p, fine := impl.RegCodePlan(c)
		expect(t, fmt.Sprint("plan of packed ", c), all(impl.RegCodePlan(d)), p, ok && fine)
		expect(t, fmt.Sprint("packed twice ", c), all(impl.PackRegisters(d)), d, true)
		if d.Registers < c.Registers {
			packed++
		}
	}
	if packed < 1000 {
		t.Errorf("only %d have registers that are not told", packed)
	}
}

func TestTextsOfCodes(t *testing.T) {
	for _, c := range []impl.RegCode{
		code(1, []int{0}, nil), code(46, []int{45}, nil, 45), code(2, []int{1, 0}, nil), code(2, []int{0}, ops(1, 0, 0)),
		fullCode(), exponentCode(impl.MaxExponent), code(10, []int{9, 3}, ops(0, 9, 3, 9, 0, 0), 9, 0, 3),
	} {
		text := codeTextOf(c)
		expect(t, "text of "+text, all(impl.RegCodeText(c)), text, true)
		expect(t, "code of "+text, all(impl.ParseRegCode(text)), c, true)
	}
	expect(t, "no Ops, no outputs", all(impl.RegCodeText(code(1, []int{0}, nil))), "1:0:-:-", true)
	expect(t, "no Ops", all(impl.RegCodeText(code(3, []int{2, 0}, nil, 0, 0))), "3:2,0:-:0,0", true)
	expect(t, "no outputs", all(impl.ParseRegCode("2:0:1=0*0:-")), code(2, []int{0}, ops(1, 0, 0)), true)
	expect(t, "A greater than B", all(impl.ParseRegCode("3:0,2:1=2*0:1")), code(3, []int{0, 2}, ops(1, 2, 0), 1), true)
}

func TestTextsOfNoCodes(t *testing.T) {
	for _, text := range []string{
		"", "-", "1", ":", "::", ":::", "::::", "1:", "1::", "1:::", "1:0", "1:0:", "1:0::", "1:0:-", "1:0:-:", "1:0::-", "1:0::0", "1::-:-", "1::-:0", ":0:-:-", "1:-:-:-", "1:-:-:0",
		"1:0:-:-:", ":1:0:-:-", "1:0:-:-:-", "1:0:-:0:0", "1:0:-:0:", "1:0:0=0*0:0:0", "1:0:0=0*0", "0=0*0", "1:0:0=0*0:0 ", "1:0:-:-\n", "\n1:0:-:-", "1:0:-:-\x00", " 1:0:-:-", "1 :0:-:-", "1: 0:-:-", "1:0 :-:-", "1:0: -:-", "1:0:- :-", "1:0:-: -",
		"01:0:-:-", "+1:0:-:-", "-1:0:-:-", "1:00:-:-", "1:+0:-:-", "1:-0:-:-", "1:0:-:00", "1:0:-:+0", "1:0:-:-0", "2:0:01=0*0:1", "2:0:1=00*0:1", "2:0:1=0*00:1", "2:0:+1=0*0:1", "2:0:1=+0*0:1", "2:0:1=0*+0:1", "2:0:1=-0*0:1", "2:0:1=0*-0:1", "2:0:-1=0*0:1", "2:0:1=0*0:01",
		"1:0,:-:0", "1:,0:-:0", "2:0,,1:-:0", "1:0:-:0,", "1:0:-:,0", "1:0:-:0,,0", "1:0:-:,", "1:,:-:0", "2:0:1=0*0,:1", "2:0:,1=0*0:1", "2:0:1=0*0,,1=0*0:1", "2:0:,:0",
		"1:0:-,0=0*0:0", "1:0:0=0*0,-:0", "1:0:-,-:0", "1:0:--:0", "1:0:-:-,0", "1:0:-:0,-", "1:0:-:-,-", "1:0:-:--", "1:-,0:-:0", "1:0,-:-:0", "1:0:-0=0*0:0", "1:0:0=0*0-:0",
		"1:0:0:0", "1:0:0=0:0", "1:0:0*0:0", "1:0:0*0=0:0", "1:0:=0*0:0", "1:0:0=*0:0", "1:0:0=0*:0", "1:0:=*:0", "1:0:0=0*0*0:0", "1:0:0=0=0*0:0", "1:0:0==0*0:0", "1:0:0=0**0:0", "1:0:0=0*0=0:0", "1:0:0=0+0:0", "1:0:0:=0*0:0", "1:0:0=*0*0:0",
		"1:0:0 =0*0:0", "1:0:0= 0*0:0", "1:0:0=0 *0:0", "1:0:0=0* 0:0", "1:0: 0=0*0:0", "2:0, 1:-:0", "2:0 1:-:0", "1:0:-:0, 0", "1:0:-:0 0", "1:0:0=0*0, 0=0*0:0", "1:0:0=0*0;0=0*0:0", "1;0;-;-",
		"a:0:-:-", "1:a:-:-", "1:0:a:-", "1:0:-:a", "1:0:a=0*0:0", "1:0:0=a*0:0", "1:0:0=0*a:0", "1.0:0:-:-", "1e0:0:-:-", "0x1:0:-:-", "1_0:0:-:-", "１:0:-:-", "1:0:-:０", "\xff:0:-:-", "1：0：-：-", "nil", "1:0:nil:nil", "(1:0:-:-)", "1:[0]:-:-", "1:0:-:0#",
		"18446744073709551617:0:-:-", "4294967297:0:-:-", "1:18446744073709551616:-:-", "1:4294967296:-:0", "1:0:-:18446744073709551616", "1:0:18446744073709551616=0*0:0", "1:0:0=18446744073709551616*0:0", "1:0:0=0*18446744073709551616:0", "9223372036854775808:0:-:-", "9223372036854775807:0:-:-", "99999999999999999999999:0:-:-",
		"0:-:-:-", "0:0:-:-", "47:0:-:-", "1:1:-:-", "2:2:-:-", "1:0,0:-:-", "2:0,1,0:-:-", "1:0:-:1", "2:0:-:1", "2:0:1=0*1:0", "2:0:1=1*0:0", "2:0:2=0*0:0", "2:0:0=2*0:0", "2:0:0=0*2:0", "7:0,1,2,3,4,5,6:-:-", "1:0:-:0,0,0,0,0,0,0",
		strings.Repeat("1", 100000), strings.Repeat(":", 100000), "1:0:-:" + strings.Repeat("0,", 100000) + "0", "1:0:" + strings.Repeat("0=0*0,", 20) + "0=0*0:0", "2:0:" + strings.Repeat("1=0*0,", 40) + "1=0*0:0",
	} {
		if _, ok := parsedOf(text); ok {
			t.Errorf("the text of code: %.40q", text)
		}
		expectZero(t, fmt.Sprintf("code of %.40q", text), all(impl.ParseRegCode(text)))
	}
	for name, c := range invalidCodes() {
		expectZero(t, "code of "+name, all(impl.ParseRegCode(codeTextOf(c))))
	}
}

func TestTextsNearCodes(t *testing.T) {
	for _, text := range []string{"12:0,11:1=0*0,10=1*11,1=10*1:1,10,0", "1:0:-:-", "3:1,2:-:2", "3:2:0=2*2:-"} {
		for i := range len(text) + 1 {
			for _, c := range []string{"", "0", "1", "2", "3", "4", "+", "-", " ", ",", ":", "*", "=", "\t", "x"} {
				nears := []string{text[:i] + c + text[i:], text[:i], text[i:]}
				if i < len(text) {
					nears = append(nears, text[:i]+c+text[i+1:])
				}
				for _, near := range nears {
					want, ok := parsedOf(near)
					expect(t, fmt.Sprintf("code of %q", near), all(impl.ParseRegCode(near)), want, ok)
				}
			}
		}
	}
}
