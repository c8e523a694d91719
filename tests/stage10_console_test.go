package tests

import (
	"fmt"
	"regexp"
	"slices"
	"strconv"
	"strings"
	"testing"

	"loop.example/g01098/impl"
)

// lineKind is a line of the table: what its text is like, and what it does with the plan and its words.
type lineKind struct {
	form *regexp.Regexp
	does func(p impl.Plan, words []string) (impl.Plan, string, bool)
}

// form makes a pattern of a line, in which N stands for a number, L for a list of numbers and T for a word.
func form(line string) *regexp.Regexp {
	number := "(?:0|[1-9][0-9]{0,5}|1000000)"
	line = strings.ReplaceAll(line, "N", "("+number+")")
	line = strings.ReplaceAll(line, "L", "("+number+"(?:,"+number+")*)")
	line = strings.ReplaceAll(line, "T", "([^ ]*)")
	return regexp.MustCompile(`(?s)\A` + line + `\z`)
}

func changing(line string, change func(p impl.Plan, words []string) (impl.Plan, bool)) lineKind {
	return lineKind{form(line), func(p impl.Plan, words []string) (impl.Plan, string, bool) {
		after, ok := change(p, words)
		return after, strconv.Itoa(len(after.Steps)), ok
	}}
}

func changingByNumber(line string, change func(n int) (impl.Plan, bool)) lineKind {
	return changing(line, func(_ impl.Plan, words []string) (impl.Plan, bool) { return change(numbersOf(words)[0]) })
}

func changingByTwo(line string, change func(n int, k int) (impl.Plan, bool)) lineKind {
	return changing(line, func(_ impl.Plan, words []string) (impl.Plan, bool) {
		return change(numbersOf(words)[0], numbersOf(words)[1])
	})
}

func changingByList(line string, change func(list []int) (impl.Plan, bool)) lineKind {
	return changing(line, func(_ impl.Plan, words []string) (impl.Plan, bool) {
		return change(numbersOf(strings.Split(words[0], ",")))
	})
}

func changingAlone(line string, change func(p impl.Plan) (impl.Plan, bool)) lineKind {
	return changing(line, func(p impl.Plan, _ []string) (impl.Plan, bool) { return change(p) })
}

func asking(line string, ask func(p impl.Plan, words []string) (string, bool)) lineKind {
	return lineKind{form(line), func(p impl.Plan, words []string) (impl.Plan, string, bool) {
		reply, ok := ask(p, words)
		return p, reply, ok
	}}
}

func numbersOf(words []string) []int {
	var list []int
	for _, word := range words {
		n, err := strconv.Atoi(word)
		if err != nil {
			panic(err)
		}
		list = append(list, n)
	}
	return list
}

func lineKinds() []lineKind {
	return []lineKind{
		changing("plan T", func(_ impl.Plan, words []string) (impl.Plan, bool) { return impl.ParsePlan(words[0]) }),
		changingByNumber("binary N", impl.BinaryPlan),
		changingByNumber("right N", impl.RightPlan),
		changingByNumber("factor N", impl.FactorPlan),
		changingByNumber("best N", impl.BestPlan),
		changingByTwo("window N N", impl.WindowPlan),
		changingByTwo("sliding N N", impl.SlidingPlan),
		changingByNumber("tree N", func(n int) (impl.Plan, bool) {
			chain, _ := impl.TreeChain(n)
			return impl.ChainPlan(chain)
		}),
		changingByList("together L", impl.TogetherPlan),
		changingByList("squares L", impl.SquaresPlan),
		changing("then T", func(p impl.Plan, words []string) (impl.Plan, bool) {
			q, _ := impl.ParsePlan(words[0])
			return impl.ComposePlans(p, q)
		}),
		changingAlone("trim", impl.TrimPlan),
		changingAlone("share", impl.SharePlan),
		changingAlone("turn", impl.TurnPlan),
		changingAlone("fold", impl.FoldOutputs),
		changingAlone("collapse", impl.CollapseInputs),
		asking("cost", func(p impl.Plan, _ []string) (string, bool) { return strconv.Itoa(len(p.Steps)), true }),
		asking("depth", func(p impl.Plan, _ []string) (string, bool) {
			depth, ok := impl.DepthOf(p)
			return strconv.Itoa(depth), ok
		}),
		asking("powers", func(p impl.Plan, _ []string) (string, bool) {
			rows, ok := impl.OutputExponents(p)
			text := strings.ReplaceAll(strings.Trim(fmt.Sprint(rows), "[]"), "] [", ";")
			if text == "" {
				text = "none"
			}
			return strings.ReplaceAll(text, " ", ","), ok
		}),
		asking("text", func(p impl.Plan, _ []string) (string, bool) { return impl.PlanText(p) }),
		asking("lucas N N N", func(_ impl.Plan, words []string) (string, bool) {
			list := numbersOf(words)
			value, ok := impl.LucasByLadder(list[0], list[1], list[2])
			return strconv.Itoa(value), ok
		}),
		asking("fib N N", func(_ impl.Plan, words []string) (string, bool) {
			list := numbersOf(words)
			value, _, ok := impl.FibonacciPair(list[0], list[1])
			return strconv.Itoa(value), ok
		}),
	}
}

// lineDone does a line by the table.
func lineDone(kinds []lineKind, p impl.Plan, line string) (impl.Plan, string) {
	for _, kind := range kinds {
		if words := kind.form.FindStringSubmatch(line); words != nil {
			after, reply, ok := kind.does(p, words[1:])
			if !ok {
				return p, "no"
			}
			return after, reply
		}
	}
	return p, "what"
}

func expectLine(t *testing.T, kinds []lineKind, p impl.Plan, line string) string {
	t.Helper()
	want, told := lineDone(kinds, p, line)
	after, reply, ok := impl.DeskLine(p, line)
	if reply != told || !ok || !same(after, want) {
		t.Fatalf("%q of %v: got %v, %q, %v, want %v, %q", line, p, after, reply, ok, want, told)
	}
	return reply
}

// deskPlans has plans of all kinds: such that can be turned, folded and collapsed, and such that cannot.
func deskPlans() []impl.Plan {
	m := &mixer{29}
	plans := append(samplePlans(), plan(1, nil, 0, 0, 0), plan(3, nil), plan(2, steps(0, 1, 0, 1), 3, 2, 3), plan(1, steps(0, 0, 0, 1), 2, 1), powerPlan(1000), plan(2, powerPlan(1<<19).Steps, 19))
	for range 20 {
		plans = append(plans, mixedPlan(m, true), mixedPlan(m, false))
	}
	return plans
}

// goodLines has for each line of the table some with valid numbers, at the limits, too.
func goodLines() []string {
	return []string{
		"plan 1:-:0", "plan 1:-:-", "plan 2:0*1,2*2:3,0", "plan 6:0*5:6", "plan", "plan ", "plan x", "plan 0:-:0", "plan 1:0*0:2", "plan 1:01*0:1", "plan 1:-:0:", "plan 1:-:0\n", "plan \xff",
		"binary 0", "binary 1", "binary 15", "binary 1000000", "right 0", "right 1", "right 15", "right 1000000",
		"factor 0", "factor 1", "factor 15", "factor 1000000", "best 0", "best 1", "best 15", "best 23", "best 1000000",
		"window 15 0", "window 0 2", "window 1 1", "window 15 2", "window 1000000 5", "window 1000000 4", "window 1000000 6", "window 15 1000000",
		"sliding 15 0", "sliding 0 2", "sliding 1 1", "sliding 15 2", "sliding 1000000 5", "sliding 15 6", "sliding 23 3", "sliding 15 1000000",
		"tree 0", "tree 1", "tree 23", "tree 400", "tree 401", "tree 1000000",
		"together 0", "together 0,0", "together 5", "together 3,0,2", "together 1,2,3,4,5,6", "together 1,2,3,4,5,6,7", "together 1000000", "together 1000000,1", "together 1000000,999999,999999,999999",
		"squares 0", "squares 5", "squares 5,0", "squares 3,2,3", "squares 1,2,3,4,5,6", "squares 1,2,3,4,5,6,7", "squares 1000000", "squares 1000000,999999,999999,999999", "squares 1",
		"then 1:-:0", "then 1:0*0,0*1:2", "then 2:0*1:2", "then 3:0*1,2*3:4,4", "then 6:-:5,4,3,2,1,0", "then", "then ", "then x", "then 1:0*0:2", "then 0:-:-", "then 1:-:-",
		"trim", "share", "turn", "fold", "collapse", "cost", "depth", "powers", "text",
		"lucas 3 3 100", "lucas 3 0 100", "lucas 0 1 1", "lucas 0 0 0", "lucas 3 3 0", "lucas 1000000 1000000 1000000", "lucas 7 1000000 999983", "lucas 5 4 1",
		"fib 6 100", "fib 0 1", "fib 0 100", "fib 1000000 1000000", "fib 6 0", "fib 0 0", "fib 7 1",
	}
}

func TestLinesOfManyPlans(t *testing.T) {
	kinds := lineKinds()
	replies := map[string]int{}
	for _, p := range deskPlans() {
		for _, line := range goodLines() {
			replies[expectLine(t, kinds, p, line)]++
		}
	}
	if replies["no"] < 500 || replies["what"] < 50 || replies["none"] < 3 || len(replies) < 100 {
		t.Error("replies", len(replies), replies["no"], replies["what"], replies["none"])
	}
}

func TestRepliesOfLines(t *testing.T) {
	p := plan(2, steps(0, 1, 2, 2, 0, 0), 3, 0)
	texts := map[string][]string{
		"plan 1:0*0:1":           {"1", "1:0*0:1"},
		"plan 1:-:-":             {"0", "1:-:-"},
		"plan ":                  {"no"},
		"plan 1:0*0":             {"no"},
		"plan":                   {"what"},
		"binary 15":              {"6", "1:0*0,0*1,2*2,0*3,4*4,0*5:6"},
		"binary 1":               {"0", "1:-:0"},
		"binary 0":               {"no"},
		"binary 1000000":         {"25"},
		"binary 1000001":         {"what"},
		"right 3":                {"2", "1:0*0,0*1:2"},
		"right 0":                {"no"},
		"factor 15":              {"5"},
		"best 15":                {"5"},
		"best 0":                 {"no"},
		"window 5 2":             {"3"},
		"window 5 0":             {"no"},
		"window 5 6":             {"no"},
		"window 0 1":             {"no"},
		"window 1000000 5":       {"no"},
		"window 5":               {"what"},
		"window 5 02":            {"what"},
		"window 0 x":             {"what"},
		"window x 0":             {"what"},
		"sliding 23 3":           {"6"},
		"sliding 5 6":            {"no"},
		"sliding 0 1000001":      {"what"},
		"tree 23":                {"6", "1:0*0,0*1,1*2,3*3,2*4,4*5:6"},
		"tree 400":               {"10"},
		"tree 401":               {"no"},
		"tree 0":                 {"no"},
		"together 1,2":           {"2", "2:1*1,0*2:3"},
		"together 0,0":           {"no"},
		"together 1,1,1,1,1,1,1": {"no"},
		"together ":              {"what"},
		"together":               {"what"},
		"together ,":             {"what"},
		"together 1,":            {"what"},
		"together ,1":            {"what"},
		"together 1,,2":          {"what"},
		"together 1,02":          {"what"},
		"together 1,1000001":     {"what"},
		"squares 3,2":            {"2", "1:0*0,0*1:2,1"},
		"squares 3,0":            {"no"},
		"squares ":               {"what"},
		"squares 3;2":            {"what"},
		"then 2:0*1:2":           {"4", "2:0*1,2*2,0*0,0*3:5"},
		"then 1:0*0:1":           {"no"},
		"then x":                 {"no"},
		"then ":                  {"no"},
		"trim":                   {"2", "2:0*1,2*2:3,0"},
		"share":                  {"2", "2:0*1,2*2:3,0"},
		"turn":                   {"no"},
		"fold":                   {"4", "2:0*1,2*2,0*0,0*3:5"},
		"collapse":               {"3", "1:0*0,1*1,0*0:2,0"},
		"cost":                   {"3"},
		"depth":                  {"2"},
		"powers":                 {"2,2;1,0"},
		"text":                   {"2:0*1,2*2,0*0:3,0"},
		"lucas 3 3 100":          {"18"},
		"lucas 3 3 0":            {"no"},
		"lucas 3 1000001 7":      {"what"},
		"lucas -3 3 100":         {"what"},
		"lucas 3 3":              {"what"},
		"fib 6 100":              {"8"},
		"fib 6 5":                {"3"},
		"fib 6 0":                {"no"},
		"fib 1000001 5":          {"what"},
		"fib 6":                  {"what"},
		"fib 6 5 4":              {"what"},
		"":                       {"what"},
	}
	for line, want := range texts {
		after, reply, ok := impl.DeskLine(p, line)
		expect(t, fmt.Sprintf("reply to %q", line), all(reply, ok), want[0], true)
		text, _ := impl.PlanText(after)
		if len(want) == 2 {
			expect(t, fmt.Sprintf("plan after %q", line), all(text), want[1])
		} else if want[0] == "no" || want[0] == "what" {
			expect(t, fmt.Sprintf("plan after %q", line), all(after), p)
		}
	}
}

func TestPowersOnTheConsole(t *testing.T) {
	for text, want := range map[string]string{
		"1:-:-":                 "none",
		"6:0*5:-":               "none",
		"1:-:0":                 "1",
		"1:0*0,0*1:2":           "3",
		"1:0*0,0*1:2,1,0,2":     "3;2;1;3",
		"2:0*1,2*2:3":           "2,2",
		"3:0*2:3,1":             "1,0,1;0,1,0",
		"6:-:5,0":               "0,0,0,0,0,1;1,0,0,0,0,0",
		"2:1*1,0*2:3,3,3,3,3,3": "1,2;1,2;1,2;1,2;1,2;1,2",
	} {
		p, _ := impl.ParsePlan(text)
		expect(t, "powers of "+text, all(impl.DeskLine(p, "powers")), p, want, true)
	}
	expect(t, "powers of MaxExponent", all(impl.DeskLine(powerPlan(impl.MaxExponent), "powers")), powerPlan(impl.MaxExponent), "1000000", true)
}

func lineNames() []string {
	return []string{"plan", "binary", "right", "factor", "best", "window", "sliding", "tree", "together", "squares", "then", "trim", "share", "turn", "fold", "collapse", "cost", "depth", "powers", "text", "lucas", "fib"}
}

// TestLinesOfManyWords puts all kinds of words behind all names.
func TestLinesOfManyWords(t *testing.T) {
	kinds := lineKinds()
	p := plan(2, steps(0, 1, 2, 2), 3, 0)
	words := []string{"", "0", "1", "3", "1000000", "1000001", "03", "00", "+3", "-3", "-0", "3,5", "3,", ",", "x", "2:0*1:2", "3\n", "\t3", "３", "1e3", "0x3", "1_0", "9223372036854775809", "18446744073709551619"}
	few := []string{"", "1", "2", "100", "x", "02"}
	names := append(lineNames(), "", "Plan", "PLAN", "COST", "costs", "cos", "what", "no", "fly", "binary\n", "\x00", "\xff", "lucas,", "fib;", "plan:")
	for _, name := range names {
		expectLine(t, kinds, p, name)
		for _, first := range words {
			expectLine(t, kinds, p, name+" "+first)
			expectLine(t, kinds, p, first+" "+name)
			for _, second := range words {
				expectLine(t, kinds, p, name+" "+first+" "+second)
				for _, third := range few {
					expectLine(t, kinds, p, name+" "+first+" "+second+" "+third)
				}
			}
		}
		for _, i := range allLists(4, len(few)) {
			expectLine(t, kinds, p, strings.Join([]string{name, few[i[0]], few[i[1]], few[i[2]], few[i[3]]}, " "))
		}
	}
}

// TestLinesChangedByOneByte takes away, puts in and replaces each byte of lines of the table.
func TestLinesChangedByOneByte(t *testing.T) {
	kinds := lineKinds()
	p := plan(1, steps(0, 0, 0, 1), 2, 1)
	bytes := []string{"", " ", "\n", "0", "1", "9", ",", ":", "*", "-", "+", "a", "T", "N", "\t", "\x00", "\xff", "\u00a0"}
	for _, line := range goodLines() {
		for at := range len(line) + 1 {
			for _, b := range bytes {
				expectLine(t, kinds, p, line[:at]+b+line[at:])
				if at < len(line) {
					expectLine(t, kinds, p, line[:at]+b+line[at+1:])
				}
			}
		}
		for _, other := range []string{strings.ToUpper(line), line + line, line + "\n" + line, " " + line, line + " ", strings.ReplaceAll(line, " ", "  "), strings.ReplaceAll(line, " ", "\t"), strings.ReplaceAll(line, " ", ""), strings.ReplaceAll(line, " ", "\n"), "\ufeff" + line} {
			expectLine(t, kinds, p, other)
		}
	}
}

func TestNumbersOfLines(t *testing.T) {
	p := impl.FirstPlan()
	for n := range 1100 {
		cost, _ := impl.BinaryCost(n)
		want := strconv.Itoa(cost)
		if n == 0 {
			want = "no"
		}
		_, reply, ok := impl.DeskLine(p, fmt.Sprint("binary ", n))
		expect(t, fmt.Sprint("binary ", n), all(reply, ok), want, true)
		for _, zeros := range []string{"0", "00", "+", "-", "0000000000000000000000"} {
			after, reply, ok := impl.DeskLine(p, fmt.Sprint("binary ", zeros, n))
			expect(t, fmt.Sprint("binary ", zeros, n), all(after, reply, ok), p, "what", true)
		}
	}
	for _, word := range []string{"1000001", "1000002", "1999999", "9999999", "10000000", "4294967297", "9223372036854775807", "9223372036854775808", "18446744073709551617", "-1", "1.0", "1e0", "0x1", "0b1", "0o1", "1_000", "1'", "１", "١", "", "N", "1,1", "1;", "1\x00", "1\n", "1\r", "\v1"} {
		for _, line := range []string{"binary %", "right %", "factor %", "best %", "tree %", "window % 1", "window 1 %", "sliding % 1", "sliding 1 %", "fib % 1", "fib 1 %", "lucas % 1 1", "lucas 1 % 1", "lucas 1 1 %"} {
			line = strings.ReplaceAll(line, "%", word)
			after, reply, ok := impl.DeskLine(p, line)
			expect(t, fmt.Sprintf("%q", line), all(after, reply, ok), p, "what", true)
		}
	}
}

func TestFirstPlan(t *testing.T) {
	expect(t, "first plan", all(impl.FirstPlan()), plan(1, nil, 0))
	expect(t, "its text", all(impl.PlanText(impl.FirstPlan())), "1:-:0", true)
	first := impl.FirstPlan()
	overwriteAll(all(first))
	expect(t, "first plan once more", all(impl.FirstPlan()), plan(1, nil, 0))
}

// scriptDone does all lines by the table, which must be a script.
func scriptDone(kinds []lineKind, lines []string) (impl.Plan, []string) {
	p := plan(1, nil, 0)
	var replies []string
	for _, line := range lines {
		after, reply := lineDone(kinds, p, line)
		p = after
		replies = append(replies, reply)
	}
	return p, replies
}

func scriptOf(lines []string) string {
	text := ""
	for _, line := range lines {
		text += line + "\n"
	}
	return text
}

func expectScript(t *testing.T, kinds []lineKind, lines []string) {
	t.Helper()
	text := scriptOf(lines)
	p, replies := scriptDone(kinds, lines)
	expect(t, fmt.Sprintf("replies to %q", text), all(impl.RunScript(text)), replies, true)
	expect(t, fmt.Sprintf("plan behind %q", text), all(impl.ScriptPlan(text)), p, true)
}

func expectNoScript(t *testing.T, what string, text string) {
	t.Helper()
	expectZero(t, "replies to "+what, all(impl.RunScript(text)))
	expectZero(t, "plan behind "+what, all(impl.ScriptPlan(text)))
}

// usableLines leaves out lines with a newline in them.
func usableLines() []string {
	lines := slices.DeleteFunc(goodLines(), func(line string) bool { return strings.Contains(line, "\n") })
	return append(lines, "", " ", "fly", "cost ", " cost", "COST", "binary 07", "\xff\x00", "then 1:0*0:1", "then 1:0*0,0*1:2", "turn", "turn", "fold", "collapse", "share", "powers")
}

func mixedScript(m *mixer) []string {
	usable := usableLines()
	var lines []string
	for range m.below(impl.MaxLines + 1) {
		lines = append(lines, usable[m.below(len(usable))])
	}
	return lines
}

func TestMixedScripts(t *testing.T) {
	kinds := lineKinds()
	m := &mixer{2910}
	for range 1500 {
		expectScript(t, kinds, mixedScript(m))
	}
}

// TestScriptsAreTheirLines needs no reference: a script is done as DeskLine does its lines, and so is each beginning of it.
func TestScriptsAreTheirLines(t *testing.T) {
	m := &mixer{31}
	for range 200 {
		lines := mixedScript(m)
		p := impl.FirstPlan()
		var replies []string
		for i, line := range lines {
			expect(t, fmt.Sprintf("beginning of %q", lines[:i]), all(impl.RunScript(scriptOf(lines[:i]))), replies, true)
			expect(t, fmt.Sprintf("plan of %q", lines[:i]), all(impl.ScriptPlan(scriptOf(lines[:i]))), p, true)
			after, reply, ok := impl.DeskLine(p, line)
			if !ok || !impl.IsPlan(after) {
				t.Fatalf("%q of %v gives %v", line, p, after)
			}
			p = after
			replies = append(replies, reply)
		}
		expect(t, fmt.Sprintf("%q", lines), all(impl.RunScript(scriptOf(lines))), replies, true)
		expect(t, fmt.Sprintf("plan of %q", lines), all(impl.ScriptPlan(scriptOf(lines))), p, true)
	}
}

func TestBeginningsOfScripts(t *testing.T) {
	text := "binary 15\npowers\n\nno\nfactor 15\nthen 1:0*0:1\nthen x\nbinary 0\npowers\nturn\nlucas 3 3 100\nfly\ncost\n"
	whole, ok := impl.RunScript(text)
	expect(t, "replies", all(whole, ok), []string{"6", "15", "what", "what", "5", "6", "no", "no", "30", "6", "18", "what", "6"}, true)
	for length := range len(text) + 1 {
		beginning := text[:length]
		if beginning != "" && !strings.HasSuffix(beginning, "\n") {
			expectNoScript(t, fmt.Sprintf("%q", beginning), beginning)
			continue
		}
		expect(t, fmt.Sprintf("replies to %q", beginning), all(impl.RunScript(beginning)), whole[:strings.Count(beginning, "\n")], true)
	}
}

func TestScriptsThatFailInBetween(t *testing.T) {
	expect(t, "binary 0 behind 15", all(impl.RunScript("binary 15\nbinary 0\ncost\npowers\n")), []string{"6", "no", "6", "15"}, true)
	expect(t, "fails at first", all(impl.RunScript("plan x\ntext\nthen y\nfold\ntext\n")), []string{"no", "1:-:0", "no", "0", "1:-:0"}, true)
	expect(t, "too many steps", all(impl.RunScript("binary 1000\nthen 1:0*0,0*1:2\nsquares 1000000,999999,999999,999999\npowers\n")), []string{"14", "16", "no", "3000"}, true)
	expect(t, "too great", all(impl.RunScript("binary 1000000\nthen 1:-:0\nthen 1:0*0:1\npowers\n")), []string{"25", "25", "no", "1000000"}, true)
	expect(t, "no outputs", all(impl.RunScript("plan 1:-:-\npowers\nfold\nturn\nthen 1:-:0\ncollapse\ndepth\n")), []string{"0", "none", "no", "no", "no", "0", "0"}, true)
	expect(t, "turned", all(impl.RunScript("squares 3,2\nturn\ntext\nturn\ntext\ncollapse\npowers\nfold\npowers\n")), []string{"2", "3", "2:0*1,2*2,0*3:4", "2", "1:0*0,0*1:2,1", "2", "3;2", "3", "5"}, true)
	expect(t, "plan behind failures", all(impl.ScriptPlan("binary 3\nbinary 0\nfly\n\nplan 1:-\n")), plan(1, steps(0, 0, 0, 1), 2), true)
}

func TestLimitsOfScripts(t *testing.T) {
	kinds := lineKinds()
	expect(t, "empty", all(impl.RunScript("")), []string{}, true)
	expect(t, "plan of empty", all(impl.ScriptPlan("")), plan(1, nil, 0), true)
	expect(t, "a newline", all(impl.RunScript("\n")), []string{"what"}, true)
	for count := range impl.MaxLines + 5 {
		for _, line := range []string{"", "cost", "binary 15", "fly", "plan x"} {
			lines := slices.Repeat([]string{line}, count)
			if count <= impl.MaxLines {
				expectScript(t, kinds, lines)
			} else {
				expectNoScript(t, fmt.Sprint(count, " lines"), scriptOf(lines))
			}
			if count > 0 && line != "" {
				expectNoScript(t, "no last newline", strings.TrimSuffix(scriptOf(lines), "\n"))
			}
		}
	}
	for length := impl.MaxScript - 3; length <= impl.MaxScript+3; length++ {
		for _, head := range []string{"", "binary 15\n", strings.Repeat("\n", impl.MaxLines-1), "plan ", "together 1,"} {
			text := head + strings.Repeat("1", length-len(head)-1) + "\n"
			if length <= impl.MaxScript {
				expectScript(t, kinds, strings.Split(strings.TrimSuffix(text, "\n"), "\n"))
			} else {
				expectNoScript(t, fmt.Sprint(length, " bytes"), text)
			}
			expectNoScript(t, fmt.Sprint(length, " bytes without a newline"), text[:len(text)-1]+"1")
		}
		// As many lines as there may be, and as many bytes.
		full := strings.Repeat("cost\n", impl.MaxLines-1) + strings.Repeat("x", length-5*(impl.MaxLines-1)-1) + "\n"
		_, ok := impl.RunScript(full)
		_, fine := impl.ScriptPlan(full)
		expect(t, fmt.Sprint(length, " bytes, all lines"), all(ok, fine), length <= impl.MaxScript, length <= impl.MaxScript)
	}
	expectNoScript(t, "one line without a newline behind MaxLines", strings.Repeat("\n", impl.MaxLines)+"x")
	expectNoScript(t, "a carriage return", "cost\r")
	expect(t, "a carriage return in a line", all(impl.RunScript("cost\r\n")), []string{"what"}, true)
	expect(t, "bytes of other letters", all(impl.RunScript("\xff\n\u2028\n\x00\n")), []string{"what", "what", "what"}, true)
	for _, many := range []int{impl.MaxLines + 1, impl.MaxScript, impl.MaxScript + 1, 1000000} {
		expectNoScript(t, fmt.Sprint(many, " newlines"), strings.Repeat("\n", many))
	}
}
