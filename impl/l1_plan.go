package impl

import (
	"slices"
	"strconv"
	"strings"
)

const MaxInputs = 6
const MaxSteps = 40
const MaxOutputs = 6
const MaxExponent = 1000000

type Step struct {
	A int
	B int
}

type Plan struct {
	Inputs  int
	Steps   []Step
	Outputs []int
}

// exponents are an array, so that values can be compared by ==; those of inputs that a plan does not have stay 0.
type exponents [MaxInputs]int

// values are the exponents of the values of a plan, by number.
type values struct {
	powers []exponents
}

func inputValues(inputs int) values {
	powers := make([]exponents, inputs)
	for i := range powers {
		powers[i][i] = 1
	}
	return values{powers}
}

func (v *values) has(number int) bool {
	return 0 <= number && number < len(v.powers)
}

func (v *values) hasAll(numbers []int) bool {
	for _, n := range numbers {
		if !v.has(n) {
			return false
		}
	}
	return true
}

// multiply adds the value of a step, unless the step or its value is none that a plan may have.
func (v *values) multiply(s Step) bool {
	if s.A > s.B || !v.has(s.A) || !v.has(s.B) {
		return false
	}
	product := v.powers[s.A]
	for i, e := range v.powers[s.B] {
		product[i] += e
		if product[i] > MaxExponent {
			return false
		}
	}
	v.powers = append(v.powers, product)
	return true
}

func (v *values) firstLike(number int) int {
	return slices.Index(v.powers, v.powers[number])
}

// valuedPlan is a plan that has been found valid, together with its values.
type valuedPlan struct {
	Plan
	values
}

func withValues(p Plan) (valuedPlan, bool) {
	if p.Inputs < 1 || p.Inputs > MaxInputs || len(p.Steps) > MaxSteps || len(p.Outputs) > MaxOutputs {
		return valuedPlan{}, false
	}
	v := valuedPlan{p, inputValues(p.Inputs)}
	for _, s := range p.Steps {
		if !v.multiply(s) {
			return valuedPlan{}, false
		}
	}
	if !v.hasAll(p.Outputs) {
		return valuedPlan{}, false
	}
	return v, true
}

func (v valuedPlan) row(number int) []int {
	return slices.Clone(v.powers[number][:v.Inputs])
}

func (v valuedPlan) rows() [][]int {
	rows := make([][]int, len(v.Outputs))
	for i, o := range v.Outputs {
		rows[i] = v.row(o)
	}
	return rows
}

func (v valuedPlan) firsts() []int {
	list := make([]int, len(v.powers))
	for i := range list {
		list[i] = v.firstLike(i)
	}
	return list
}

// used goes down from the last step: all that use a value stand behind it.
func (v valuedPlan) used() []bool {
	used := make([]bool, len(v.powers))
	for _, o := range v.Outputs {
		used[o] = true
	}
	for i := len(v.Steps) - 1; i >= 0; i-- {
		if used[v.Inputs+i] {
			used[v.Steps[i].A] = true
			used[v.Steps[i].B] = true
		}
	}
	return used
}

func (v valuedPlan) usedSteps() []int {
	used := v.used()
	var list []int
	for i := range v.Steps {
		if used[v.Inputs+i] {
			list = append(list, i)
		}
	}
	return list
}

// keep returns the plan with only the given steps, in this order, unless one of them needs a step that does not stand before it.
func (v valuedPlan) keep(numbers []int) (Plan, bool) {
	names := firstNumbers(v.Inputs)
	for range v.Steps {
		names = append(names, unnamed)
	}
	var steps []Step
	for i, n := range numbers {
		s := v.Steps[n]
		if names[s.A] == unnamed || names[s.B] == unnamed {
			return Plan{}, false
		}
		steps = append(steps, renamedStep(s, names))
		names[v.Inputs+n] = v.Inputs + i
	}
	return Plan{v.Inputs, steps, renamed(v.Outputs, names)}, true
}

func planOrNone(p Plan) (Plan, bool) {
	if !IsPlan(p) {
		return Plan{}, false
	}
	return p, true
}

// unnamed stands for the new number of a value that has none yet.
const unnamed = -1

func firstNumbers(count int) []int {
	list := make([]int, count)
	for i := range list {
		list[i] = i
	}
	return list
}

func renamed(numbers []int, names []int) []int {
	list := make([]int, len(numbers))
	for i, n := range numbers {
		list[i] = names[n]
	}
	return list
}

func renamedStep(s Step, names []int) Step {
	a, b := names[s.A], names[s.B]
	return Step{min(a, b), max(a, b)}
}

func renamedSteps(steps []Step, names []int) []Step {
	list := make([]Step, len(steps))
	for i, s := range steps {
		list[i] = renamedStep(s, names)
	}
	return list
}

// stepsBehind returns the steps of p and then those of q, for whose inputs the given values of p stand, and the new numbers of q's values.
func stepsBehind(p Plan, q Plan, inputs []int) ([]Step, []int) {
	names := slices.Clone(inputs)
	for i := range q.Steps {
		names = append(names, p.Inputs+len(p.Steps)+i)
	}
	return slices.Concat(p.Steps, renamedSteps(q.Steps, names)), names
}

// isOrderOf reports whether numbers has each of 0..count-1 once.
func isOrderOf(numbers []int, count int) bool {
	if len(numbers) != count {
		return false
	}
	seen := make([]bool, count)
	for _, n := range numbers {
		if n < 0 || n >= count || seen[n] {
			return false
		}
		seen[n] = true
	}
	return true
}

// IsPlan reports whether p is a plan.
func IsPlan(p Plan) bool {
	_, ok := withValues(p)
	return ok
}

// ValueExponents returns the exponents of the value v.
func ValueExponents(p Plan, v int) ([]int, bool) {
	known, ok := withValues(p)
	if !ok || !known.has(v) {
		return nil, false
	}
	return known.row(v), true
}

// OutputExponents returns the exponents of each output, in order.
func OutputExponents(p Plan) ([][]int, bool) {
	known, ok := withValues(p)
	if !ok {
		return nil, false
	}
	return known.rows(), true
}

// SamePowers reports whether two plans have as many inputs and the same OutputExponents.
func SamePowers(p Plan, q Plan) (bool, bool) {
	first, ok := withValues(p)
	second, fine := withValues(q)
	if !ok || !fine {
		return false, false
	}
	return p.Inputs == q.Inputs && slices.EqualFunc(first.rows(), second.rows(), slices.Equal[[]int]), true
}

// CountsOf returns the number of steps with equal A and B, and that of all other steps.
func CountsOf(p Plan) (int, int, bool) {
	if !IsPlan(p) {
		return 0, 0, false
	}
	squarings := 0
	for _, s := range p.Steps {
		if s.A == s.B {
			squarings++
		}
	}
	return squarings, len(p.Steps) - squarings, true
}

// DepthOf returns the greatest depth of an output, or 0 without outputs: that of an input is 0, and that of a product 1 more than the greater one of those of A and B.
func DepthOf(p Plan) (int, bool) {
	if !IsPlan(p) {
		return 0, false
	}
	depths := make([]int, p.Inputs)
	for _, s := range p.Steps {
		depths = append(depths, 1+max(depths[s.A], depths[s.B]))
	}
	greatest := 0
	for _, o := range p.Outputs {
		greatest = max(greatest, depths[o])
	}
	return greatest, true
}

// UsedSteps returns the numbers of all used steps, strictly increasing.
func UsedSteps(p Plan) ([]int, bool) {
	known, ok := withValues(p)
	if !ok {
		return nil, false
	}
	return known.usedSteps(), true
}

// IsTrim reports whether all steps are used.
func IsTrim(p Plan) (bool, bool) {
	known, ok := withValues(p)
	if !ok {
		return false, false
	}
	return len(known.usedSteps()) == len(p.Steps), true
}

// TrimPlan returns the plan with only the used steps, in order, and the same inputs; values are numbered anew.
func TrimPlan(p Plan) (Plan, bool) {
	known, ok := withValues(p)
	if !ok {
		return Plan{}, false
	}
	return known.keep(known.usedSteps())
}

// SharePlan returns TrimPlan of the plan in which, in each A, each B and each output, a value whose exponents a value with a less number has, too, is replaced by the one of these with the least number; A and B are exchanged where B would be less.
func SharePlan(p Plan) (Plan, bool) {
	known, ok := withValues(p)
	if !ok {
		return Plan{}, false
	}
	firsts := known.firsts()
	return TrimPlan(Plan{p.Inputs, renamedSteps(p.Steps, firsts), renamed(p.Outputs, firsts)})
}

// ComposePlans returns the plan with the steps of p and then those of q, in which the outputs of p, in order, take the place of the inputs of q, and with the outputs of q; A and B are exchanged where B would be less. It fails if p has not as many outputs as q has inputs.
func ComposePlans(p Plan, q Plan) (Plan, bool) {
	if !IsPlan(p) || !IsPlan(q) || len(p.Outputs) != q.Inputs {
		return Plan{}, false
	}
	steps, names := stepsBehind(p, q, p.Outputs)
	return planOrNone(Plan{p.Inputs, steps, renamed(q.Outputs, names)})
}

// JoinPlans returns the plan with the steps of p and then those of q, with the same inputs for both, and with the outputs of p and then those of q. It fails if they have not as many inputs.
func JoinPlans(p Plan, q Plan) (Plan, bool) {
	if !IsPlan(p) || !IsPlan(q) || p.Inputs != q.Inputs {
		return Plan{}, false
	}
	steps, names := stepsBehind(p, q, firstNumbers(q.Inputs))
	return planOrNone(Plan{p.Inputs, steps, slices.Concat(p.Outputs, renamed(q.Outputs, names))})
}

// PickOutputs returns the plan whose outputs are those of p with the indices of a list, in its order.
func PickOutputs(p Plan, list []int) (Plan, bool) {
	if !IsPlan(p) || len(list) > MaxOutputs {
		return Plan{}, false
	}
	for _, i := range list {
		if i < 0 || i >= len(p.Outputs) {
			return Plan{}, false
		}
	}
	return Plan{p.Inputs, slices.Clone(p.Steps), renamed(list, p.Outputs)}, true
}

// FirstExponents returns for each value, in order, the least number of a value with the same exponents.
func FirstExponents(p Plan) ([]int, bool) {
	known, ok := withValues(p)
	if !ok {
		return nil, false
	}
	return known.firsts(), true
}

// ReorderSteps returns the plan in which the steps stand in an order, told by their numbers, each once; values are numbered anew, and A and B are exchanged where B would be less. It fails if a step would stand before one whose value is its A or B.
func ReorderSteps(p Plan, order []int) (Plan, bool) {
	known, ok := withValues(p)
	if !ok || !isOrderOf(order, len(p.Steps)) {
		return Plan{}, false
	}
	return known.keep(order)
}

// PlanText returns the number of Inputs, a :, for each step A, * and B, with commas between the steps, or - for none, a :, and the outputs with commas between them, or - for none; all numbers in decimal.
func PlanText(p Plan) (string, bool) {
	if !IsPlan(p) {
		return "", false
	}
	steps := make([]string, len(p.Steps))
	for i, s := range p.Steps {
		steps[i] = strconv.Itoa(s.A) + "*" + strconv.Itoa(s.B)
	}
	return strconv.Itoa(p.Inputs) + ":" + listText(steps) + ":" + listText(numberTexts(p.Outputs)), true
}

func numberTexts(numbers []int) []string {
	texts := make([]string, len(numbers))
	for i, n := range numbers {
		texts[i] = strconv.Itoa(n)
	}
	return texts
}

func listText(parts []string) string {
	if len(parts) == 0 {
		return "-"
	}
	return strings.Join(parts, ",")
}

// ParsePlan returns the plan with a PlanText. It fails if there is none.
func ParsePlan(s string) (Plan, bool) {
	parts := strings.Split(s, ":")
	if len(parts) != 3 {
		return Plan{}, false
	}
	inputs, err := strconv.Atoi(parts[0])
	steps, ok := parseSteps(parts[1])
	outputs, fine := parseNumbers(textParts(parts[2]))
	if err != nil || !ok || !fine {
		return Plan{}, false
	}
	p := Plan{inputs, steps, outputs}
	// Atoi also takes signs and superfluous zeros, which no PlanText has.
	if text, ok := PlanText(p); !ok || text != s {
		return Plan{}, false
	}
	return p, true
}

func parseSteps(s string) ([]Step, bool) {
	var steps []Step
	for _, part := range textParts(s) {
		left, right, _ := strings.Cut(part, "*")
		a, err := strconv.Atoi(left)
		b, wrong := strconv.Atoi(right)
		if err != nil || wrong != nil {
			return nil, false
		}
		steps = append(steps, Step{a, b})
	}
	return steps, true
}

func parseNumbers(parts []string) ([]int, bool) {
	var numbers []int
	for _, part := range parts {
		n, err := strconv.Atoi(part)
		if err != nil {
			return nil, false
		}
		numbers = append(numbers, n)
	}
	return numbers, true
}

func textParts(s string) []string {
	if s == "-" {
		return nil
	}
	return strings.Split(s, ",")
}
