package tests

import (
	"fmt"
	"slices"
	"strings"
	"testing"

	"loop.example/g01098/impl"
)

// isStar looks at all numbers before each one; it takes differences, so that nothing overflows.
func isStar(list []int) bool {
	if len(list) == 0 || len(list) > 41 || list[0] != 1 || slices.Max(list) > 1000000 || slices.Min(list) < 1 {
		return false
	}
	for k := 1; k < len(list); k++ {
		if !slices.Contains(list[:k], list[k]-list[k-1]) {
			return false
		}
	}
	return true
}

// starsByLength returns for each length, up to the longest one, all star chains without numbers greater than most. Sums are not tried in order.
func starsByLength(longest int, most int) [][][]int {
	levels := [][][]int{{{1}}}
	for range longest {
		var longer [][]int
		for _, chain := range levels[len(levels)-1] {
			for i := len(chain) - 1; i >= 0; i-- {
				if n := endOf(chain) + chain[i]; n <= most {
					longer = append(longer, append(append([]int{}, chain...), n))
				}
			}
		}
		levels = append(levels, longer)
	}
	return levels
}

// increasingTo returns the chains with the end n, increasing.
func increasingTo(n int, chains [][]int) [][]int {
	var list [][]int
	for _, chain := range chains {
		if endOf(chain) == n {
			list = append(list, chain)
		}
	}
	slices.SortFunc(list, slices.Compare[[]int])
	return list
}

// shortestTo returns all shortest star chains with the end n, increasing, and their length.
func shortestTo(n int, levels [][][]int) ([][]int, int) {
	length := 0
	for len(increasingTo(n, levels[length])) == 0 {
		length++
	}
	return increasingTo(n, levels[length]), length
}

func TestExampleOfChapter4(t *testing.T) {
	expect(t, "shortest for 5", all(impl.AllShortest(5)), [][]int{{1, 2, 3, 5}, {1, 2, 4, 5}}, true)
	for level, want := range [][]int{{1}, {2}, {3, 4}, {5, 6, 8}} {
		expect(t, fmt.Sprint("level ", level), all(impl.TreeLevel(level)), want, true)
	}
}

func TestLimitsOfStarChains(t *testing.T) {
	if impl.MaxShort != 100 || impl.MaxCounted != 8 {
		t.Error(impl.MaxShort, impl.MaxCounted)
	}
	longest := countTo(impl.MaxSteps + 1)
	for _, list := range [][]int{
		{1},
		{1, 2},
		{1, 2, 4, 5, 7},
		{1, 2, 3, 6, 7, 14},
		longest,
		chainTo(impl.MaxExponent),
		chainTo(impl.MaxExponent - 1),
	} {
		if !impl.IsStarChain(list) {
			t.Errorf("no star chain: %v", list)
		}
	}
	for name, list := range invalidChains() {
		if impl.IsStarChain(list) {
			t.Errorf("a star chain: %s", name)
		}
	}
	if impl.IsStarChain(append(longest, impl.MaxSteps+2)) {
		t.Error("a star chain with MaxSteps + 2 elements")
	}
}

func TestChainsThatAreNoStarChains(t *testing.T) {
	for _, list := range [][]int{
		{1, 2, 4, 5, 8},
		{1, 2, 3, 5, 9, 10},
		{1, 2, 3, 4, 5, 6, 10, 12, 13, 26, 25 + 26},
		{1, 2, 3, 6, 7, 12, 13},
		{1, 2, 4, 8, 9, 12, 21, 42},
	} {
		if impl.IsStarChain(list) {
			t.Errorf("a star chain: %v", list)
		}
	}
	count := 0
	for _, list := range smallChains(7) {
		star := isStar(list)
		if impl.IsStarChain(list) != star {
			t.Fatalf("IsStarChain(%v) is not %v", list, star)
		}
		if !star {
			count++
		}
	}
	if count == 0 {
		t.Error("all chains are star chains")
	}
}

func TestIsStarChainOfAllShortLists(t *testing.T) {
	for length := range 6 {
		for _, list := range allLists(length, 9) {
			if impl.IsStarChain(list) != isStar(list) {
				t.Fatalf("IsStarChain(%v) is not %v", list, isStar(list))
			}
		}
	}
}

// knownLengths has the shortest lengths for 1, 2, .. as they are found in tables.
const knownLengths = "" +
	"0122334344" + "5455545565" + "6665666676" + "7566767776" + "7777778677" +
	"7787878887" + "8886778788" + "9788888897" + "8888889898" + "9899978888"

func TestStarLengths(t *testing.T) {
	levels := starsByLength(9, 100)
	for n := 1; n <= impl.MaxShort; n++ {
		chains, length := shortestTo(n, levels)
		if length != int(knownLengths[n-1]-'0') {
			t.Errorf("the shortest chain for %d is not so long in tables: %v", n, chains[0])
		}
		what := fmt.Sprint("for ", n)
		expect(t, "length "+what, all(impl.StarLength(n)), length, true)
		expect(t, "first shortest "+what, all(impl.ShortestStar(n)), chains[0], true)
		if len(chains) > 200 {
			expectZero(t, "more than 200 "+what, all(impl.AllShortest(n)))
		} else {
			expect(t, "shortest "+what, all(impl.AllShortest(n)), chains, true)
		}
	}
}

func TestShortestAtTheEdges(t *testing.T) {
	expect(t, "1", all(impl.AllShortest(1)), [][]int{{1}}, true)
	expect(t, "first for 1", all(impl.ShortestStar(1)), []int{1}, true)
	expect(t, "length for 1", all(impl.StarLength(1)), 0, true)
	expect(t, "2", all(impl.AllShortest(2)), [][]int{{1, 2}}, true)
	expect(t, "64", all(impl.AllShortest(64)), [][]int{{1, 2, 4, 8, 16, 32, 64}}, true)
	expect(t, "15", all(impl.AllShortest(15)), [][]int{{1, 2, 3, 5, 10, 15}, {1, 2, 3, 6, 9, 15}, {1, 2, 3, 6, 12, 15}, {1, 2, 4, 5, 10, 15}}, true)
	expect(t, "77", all(impl.ShortestStar(77)), []int{1, 2, 4, 5, 9, 18, 36, 41, 77}, true)
	expect(t, "100", all(impl.StarLength(100)), 8, true)
	// There is no number with just 200 of them; 62 has one more.
	expect(t, "201 chains", all(impl.CountStars(62, 8)), 201, true)
	expectZero(t, "all 201 chains", all(impl.AllShortest(62)))
	expectZero(t, "more than 300 chains", all(impl.AllShortest(58)))
	expectZero(t, "a length above MaxCounted", all(impl.AllShortest(71)))
	for n, count := range map[int]int{47: 183, 53: 171, 95: 167, 63: 80} {
		chains, ok := impl.AllShortest(n)
		expect(t, fmt.Sprint("many for ", n), all(len(chains), ok), count, true)
	}
	for n, length := range map[int]int{70: 8, 71: 9, 79: 9, 95: 9, 96: 7} {
		expect(t, fmt.Sprint("length for ", n), all(impl.StarLength(n)), length, true)
		list, ok := impl.ShortestStar(n)
		expect(t, fmt.Sprint("elements for ", n), all(len(list), ok), length+1, true)
	}
}

// doubledIsEnough tells whether n can still be reached from each number of a chain in a length.
func doubledIsEnough(chain []int, n int, length int) bool {
	for j, number := range chain {
		for range length - j {
			number *= 2
		}
		if number < n {
			return false
		}
	}
	return true
}

func liveCounts(n int, length int, levels [][][]int) []int {
	counts := make([]int, length+1)
	for k := range counts {
		for _, chain := range levels[k] {
			if endOf(chain) <= n && doubledIsEnough(chain, n, length) {
				counts[k]++
			}
		}
	}
	return counts
}

func TestStarsOfAllLengths(t *testing.T) {
	levels := starsByLength(impl.MaxCounted, 100)
	for n := 1; n <= impl.MaxShort; n++ {
		for length := range impl.MaxCounted + 1 {
			what := fmt.Sprint("to ", n, " of the length ", length)
			chains := increasingTo(n, levels[length])
			expect(t, "count "+what, all(impl.CountStars(n, length)), len(chains), true)
			expect(t, "live "+what, all(impl.LiveStars(n, length)), liveCounts(n, length, levels), true)
			if len(chains) == 0 {
				expectZero(t, "first "+what, all(impl.FirstStar(n, length)))
			} else {
				expect(t, "first "+what, all(impl.FirstStar(n, length)), chains[0], true)
			}
		}
	}
}

func TestStarsOfLengthsAtTheEdges(t *testing.T) {
	expect(t, "1, 0", all(impl.FirstStar(1, 0)), []int{1}, true)
	expect(t, "count 1, 0", all(impl.CountStars(1, 0)), 1, true)
	expect(t, "live 1, 0", all(impl.LiveStars(1, 0)), []int{1}, true)
	expectZero(t, "1, 1", all(impl.FirstStar(1, 1)))
	expect(t, "count 1, 1", all(impl.CountStars(1, 1)), 0, true)
	expect(t, "live 1, 2", all(impl.LiveStars(1, 2)), []int{1, 0, 0}, true)
	expectZero(t, "2, 0", all(impl.FirstStar(2, 0)))
	expect(t, "count 2, 0", all(impl.CountStars(2, 0)), 0, true)
	expect(t, "live 2, 0", all(impl.LiveStars(2, 0)), []int{0}, true)
	expectZero(t, "too short for 15", all(impl.FirstStar(15, 4)))
	expect(t, "count of those too short for 15", all(impl.CountStars(15, 4)), 0, true)
	expect(t, "live ones too short for 15", all(impl.LiveStars(15, 4)), []int{1, 1, 1, 1, 0}, true)
	expectZero(t, "too long for 4", all(impl.FirstStar(4, 4)))
	expect(t, "longest for 4", all(impl.FirstStar(4, 3)), []int{1, 2, 3, 4}, true)
	expect(t, "count of the longest for 9", all(impl.CountStars(9, 8)), 1, true)
	expect(t, "longest for 9", all(impl.FirstStar(9, 8)), []int{1, 2, 3, 4, 5, 6, 7, 8, 9}, true)
	expectZero(t, "8 less one", all(impl.FirstStar(8, 8)))
	expectZero(t, "71, MaxCounted", all(impl.FirstStar(71, 8)))
	expect(t, "count 71, MaxCounted", all(impl.CountStars(71, 8)), 0, true)
	expect(t, "100, MaxCounted", all(impl.CountStars(100, 8)), 59, true)
	// 100 is more than 1 doubled six times, and so no chain is live.
	expect(t, "live 100, 6", all(impl.LiveStars(100, 6)), []int{0, 0, 0, 0, 0, 0, 0}, true)
	expect(t, "live 64, 6", all(impl.LiveStars(64, 6)), []int{1, 1, 1, 1, 1, 1, 1}, true)
	expect(t, "live 4, 3", all(impl.LiveStars(4, 3)), []int{1, 1, 2, 1}, true)
	// 4 is 2 and 2, 3 and 1, and in 1, 2, 3, 4 counts once.
	expect(t, "4, 3", all(impl.CountStars(4, 3)), 1, true)
}

// TestCountsExcludeShorterChains says the promise itself.
func TestCountsExcludeShorterChains(t *testing.T) {
	for n := 1; n <= impl.MaxShort; n++ {
		length, ok := impl.StarLength(n)
		list, fine := impl.ShortestStar(n)
		if !ok || !fine || !impl.IsStarChain(list) || endOf(list) != n || len(list) != length+1 {
			t.Errorf("shortest chain for %d: %v", n, list)
		}
		for shorter := range min(length, impl.MaxCounted+1) {
			expect(t, fmt.Sprint(shorter, " is too short for ", n), all(impl.CountStars(n, shorter)), 0, true)
		}
		least, ok := impl.LowerBound(n)
		most, fine := impl.UpperBound(n)
		if !ok || !fine || least > length || most < length {
			t.Errorf("%d is not in %d..%d for %d", length, least, most, n)
		}
	}
}

func TestStarEnds(t *testing.T) {
	for length, chains := range starsByLength(6, 64) {
		var ends []int
		for _, chain := range chains {
			ends = append(ends, endOf(chain))
		}
		slices.Sort(ends)
		expect(t, fmt.Sprint("ends of the length ", length), all(impl.StarEnds(length)), slices.Compact(ends), true)
	}
	expect(t, "0", all(impl.StarEnds(0)), []int{1}, true)
	expect(t, "3", all(impl.StarEnds(3)), []int{4, 5, 6, 8}, true)
	ends, ok := impl.StarEnds(6)
	expect(t, "6", all(len(ends), endOf(ends), ok), 30, 64, true)
}

func TestBounds(t *testing.T) {
	for n := 1; n <= impl.MaxShort; n++ {
		ones, b, power := strings.Count(binary(n), "1"), 0, 1
		for ; ones > power; power *= 2 {
			b++
		}
		expect(t, fmt.Sprint("lower for ", n), all(impl.LowerBound(n)), len(binary(n))-1+b, true)
		expect(t, fmt.Sprint("upper for ", n), all(impl.UpperBound(n)), len(binary(n))+ones-2, true)
	}
	for n, want := range map[int][]int{1: {0, 0}, 2: {1, 1}, 3: {2, 2}, 7: {4, 4}, 15: {5, 6}, 31: {7, 8}, 63: {8, 10}, 64: {6, 6}, 95: {9, 11}, 100: {8, 8}} {
		least, ok := impl.LowerBound(n)
		most, fine := impl.UpperBound(n)
		expect(t, fmt.Sprint("bounds for ", n), all(least, most, ok, fine), want[0], want[1], true, true)
	}
}

func TestBinaryStar(t *testing.T) {
	for n := 1; n <= impl.MaxShort; n++ {
		want := []int{1}
		for _, digit := range binary(n)[1:] {
			want = append(want, 2*endOf(want))
			if digit == '1' {
				want = append(want, endOf(want)+1)
			}
		}
		got, ok := impl.BinaryStar(n)
		expect(t, fmt.Sprint("binary chain for ", n), all(got, ok), want, true)
		most, fine := impl.UpperBound(n)
		expect(t, fmt.Sprint("its length for ", n), all(most, fine), len(got)-1, true)
		if !impl.IsStarChain(got) || endOf(got) != n {
			t.Errorf("no star chain to %d: %v", n, got)
		}
	}
	expect(t, "1", all(impl.BinaryStar(1)), []int{1}, true)
	expect(t, "7", all(impl.BinaryStar(7)), []int{1, 2, 3, 6, 7}, true)
	expect(t, "8", all(impl.BinaryStar(8)), []int{1, 2, 4, 8}, true)
	expect(t, "100", all(impl.BinaryStar(100)), []int{1, 2, 3, 6, 12, 24, 25, 50, 100}, true)
}

// powerTree grows whole paths, level by level from left to right.
func powerTree(levels int) [][][]int {
	tree := [][][]int{{{1}}}
	there := map[int]bool{1: true}
	for range levels {
		var next [][]int
		for _, path := range tree[len(tree)-1] {
			for _, a := range path {
				if n := endOf(path) + a; !there[n] {
					there[n] = true
					next = append(next, append(append([]int{}, path...), n))
				}
			}
		}
		tree = append(tree, next)
	}
	return tree
}

func TestTreeLevels(t *testing.T) {
	for level, paths := range powerTree(8) {
		var want []int
		for _, path := range paths {
			want = append(want, endOf(path))
		}
		expect(t, fmt.Sprint("level ", level), all(impl.TreeLevel(level)), want, true)
	}
	expect(t, "0", all(impl.TreeLevel(0)), []int{1}, true)
	expect(t, "4", all(impl.TreeLevel(4)), []int{7, 10, 9, 12, 16}, true)
	expect(t, "5", all(impl.TreeLevel(5)), []int{14, 11, 13, 15, 20, 18, 24, 17, 32}, true)
	last, ok := impl.TreeLevel(8)
	expect(t, "8", all(len(last), last[:3], endOf(last), ok), 43, []int{57, 76, 70}, 256, true)
}

func TestTreePaths(t *testing.T) {
	found := 0
	for level, paths := range powerTree(9) {
		for _, path := range paths {
			n := endOf(path)
			if n > impl.MaxShort {
				continue
			}
			found++
			got, ok := impl.TreePath(n)
			expect(t, fmt.Sprint("path to ", n), all(got, ok), path, true)
			if !impl.IsStarChain(got) {
				t.Errorf("no star chain to %d: %v", n, got)
			}
			if level > 0 {
				expect(t, fmt.Sprint("above ", n), all(impl.TreeParent(n)), path[level-1], true)
			}
		}
	}
	if found != impl.MaxShort {
		t.Errorf("%d numbers, not %d", found, impl.MaxShort)
	}
}

func TestTreePathsAtTheEdges(t *testing.T) {
	expect(t, "1", all(impl.TreePath(1)), []int{1}, true)
	expectZero(t, "above 1", all(impl.TreeParent(1)))
	expect(t, "above 2", all(impl.TreeParent(2)), 1, true)
	expect(t, "above 23", all(impl.TreeParent(23)), 13, true)
	expect(t, "above 64", all(impl.TreeParent(64)), 32, true)
	expect(t, "above 100", all(impl.TreeParent(100)), 50, true)
	expect(t, "100", all(impl.TreePath(100)), []int{1, 2, 3, 5, 10, 15, 25, 50, 100}, true)
	// The only number up to MaxShort to which the path is longer than the shortest star chain.
	path, ok := impl.TreePath(77)
	expect(t, "77", all(len(path), ok), 10, true)
	expect(t, "shortest for 77", all(impl.StarLength(77)), 8, true)
	for n := 1; n <= impl.MaxShort; n++ {
		path, _ := impl.TreePath(n)
		if length, ok := impl.StarLength(n); !ok || n != 77 && len(path) != length+1 {
			t.Errorf("the path to %d is %v", n, path)
		}
	}
	// On the level 9, behind all that TreeLevel tells.
	path, ok = impl.TreePath(71)
	expect(t, "71", all(len(path), ok), 10, true)
}
