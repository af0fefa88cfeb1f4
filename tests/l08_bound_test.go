package tests

import (
	"math"
	"slices"
	"testing"

	"loop.example/g01984/impl"
)

// Promise 5: the total number of swaps never exceeds the certified bound of the policy.

// spans is short for a list of ranges: the From and the To of the first one, of the next one and so on.
func spans(numbers ...int) []impl.Range {
	var l []impl.Range
	for i := 0; i < len(numbers); i += 2 {
		l = append(l, span(numbers[i], numbers[i+1]))
	}
	return l
}

// costly returns the numbers from first up to, but not including, first+n, in an order that makes each division in the middle exchange all.
func costly(first, n int) []int {
	if n < 2 {
		return upTo(first + n)[first:]
	}
	l := append(costly(first, n/2), costly(first+n/2, n-n/2)...)
	slices.Reverse(l)
	return l
}

// shuffled returns the numbers from 0 to 63 in an order without a plan.
func shuffled() []int {
	l := make([]int, 64)
	for i := range l {
		l[i] = (i*37 + 11) % 64
	}
	return l
}

func downFrom(n int) []int {
	l := upTo(n)
	slices.Reverse(l)
	return l
}

// pairs returns 30 ranges that ascend, one behind the other.
func pairs() []impl.Range {
	var l []impl.Range
	for i := range 30 {
		l = append(l, span(2*i, 2*i+2))
	}
	return l
}

// nested returns 30 ranges, each one inside of the one before.
func nested() []impl.Range {
	var l []impl.Range
	for i := range 30 {
		l = append(l, span(i, 64-i))
	}
	return l
}

func backward(l []impl.Range) []impl.Range {
	l = slices.Clone(l)
	slices.Reverse(l)
	return l
}

// levels looks for the first power of two that is large enough as a divisor.
func levels(n, threshold int) int {
	if threshold < 1 {
		return 0
	}
	if n > 1000000 {
		n = 1000000
	}
	for k, power := 0, 1; ; k, power = k+1, 2*power {
		if n/power <= threshold {
			return k
		}
	}
}

func swapBound(n int, s impl.Settings, queries int) int {
	if n < 0 || n > 64 || !areSettings(s) {
		return 0
	}
	if queries < 0 || queries > 30 {
		return 0
	}
	return map[int]int{0: n * queries, 1: n*levels(n, s.Threshold) + s.Threshold*queries, 2: n*n + s.Threshold*queries}[s.Policy]
}

// areQueries has a condition for each one of the document.
func areQueries(values []int, s impl.Settings, ranges []impl.Range) bool {
	for _, v := range values {
		if v < -999 || v > 999 {
			return false
		}
	}
	for _, r := range ranges {
		if !isSpan(r) {
			return false
		}
	}
	return len(values) <= 64 && areSettings(s) && len(ranges) <= 30
}

// A queryRun is what queries one after another lead to.
type queryRun struct {
	c       impl.Cracker
	answers [][]int
	costs   []int
}

// runQueries divides with the reader of chapter 7, but answers with scans of the values that were given.
func runQueries(values []int, s impl.Settings, ranges []impl.Range) queryRun {
	if !areQueries(values, s, ranges) {
		return queryRun{}
	}
	x := queryRun{c: withoutNil(cracked(values))}
	for _, r := range ranges {
		selected := selectBy(x.c, s, r)
		x.c, s = selected.c, selected.s
		x.answers = append(x.answers, scanValues(values, r))
		x.costs = append(x.costs, selected.swaps)
	}
	return x
}

func worstQuery(costs []int) int {
	for i, n := range costs {
		beaten := func(m int) bool { return m > n }
		if !slices.ContainsFunc(costs, beaten) && !slices.Contains(costs[:i], n) {
			return i
		}
	}
	return -1
}

func total(costs []int) int {
	sum := 0
	for _, n := range costs {
		sum += n
	}
	return sum
}

func sameLists(a, b [][]int) bool { return slices.EqualFunc(a, b, slices.Equal[[]int]) }

func sameRun(a, b queryRun) bool {
	return impl.EqualCrackers(a.c, b.c) && sameLists(a.answers, b.answers) && slices.Equal(a.costs, b.costs)
}

// checkRunQueries compares with the functions above, and holds the swaps against the bound; it returns what RunQueries does.
func checkRunQueries(t *testing.T, values []int, s impl.Settings, ranges []impl.Range) queryRun {
	t.Helper()
	want, valid := runQueries(values, s, ranges), areQueries(values, s, ranges)
	c, answers, costs := impl.RunQueries(values, s, ranges)
	x := queryRun{c, answers, costs}
	if !sameRun(x, want) {
		t.Errorf("RunQueries(%d, %v, %v) = %v, want %v", values, s, ranges, x, want)
	}
	if got := impl.IsWithinBound(values, s, ranges); got != valid {
		t.Errorf("IsWithinBound(%d, %v, %v) = %t", values, s, ranges, got)
	}
	if bound := impl.SwapBound(len(values), s, len(ranges)); valid && (bound != swapBound(len(values), s, len(ranges)) || total(costs) > bound) {
		t.Errorf("RunQueries(%d, %v, %v) makes the swaps %d, but the bound is %d", values, s, ranges, costs, bound)
	}
	if got := impl.WorstQuery(costs); got != worstQuery(costs) {
		t.Errorf("WorstQuery(%d) = %d", costs, got)
	}
	if valid {
		checkOneByOne(t, values, s, ranges, x)
	}
	return x
}

// checkOneByOne gives to each query the column and the settings that the one before has left.
func checkOneByOne(t *testing.T, values []int, s impl.Settings, ranges []impl.Range, x queryRun) {
	t.Helper()
	c := impl.NewCracker(values)
	if len(x.answers) != len(ranges) || len(x.costs) != len(ranges) {
		t.Errorf("of %d queries, there are %d answers and %d costs", len(ranges), len(x.answers), len(x.costs))
		return
	}
	for i, r := range ranges {
		next, left, rows, n := impl.SelectWith(c, s, r)
		if !slices.Equal(x.answers[i], rows) || !slices.Equal(rows, impl.ScanRange(values, r)) || x.costs[i] != n {
			t.Errorf("query %d of %d, %v, %v is answered by %d after %d swaps, but SelectWith has %d and %d", i, values, s, r, x.answers[i], x.costs[i], rows, n)
		}
		c, s = next, left
	}
	if !impl.EqualCrackers(x.c, c) {
		t.Errorf("the queries %v of %d lead to %v, but SelectWith leads to %v", ranges, values, x.c, c)
	}
}

func TestMaxQueries(t *testing.T) {
	if impl.MaxQueries != 30 {
		t.Errorf("MaxQueries is %d", impl.MaxQueries)
	}
}

func TestLevelsExamples(t *testing.T) {
	for _, x := range []struct{ n, threshold, want int }{
		// negative numbers, 0 and 1
		{math.MinInt, -1, 0}, {math.MinInt, 0, 0}, {math.MinInt, 1, 0}, {math.MinInt, math.MaxInt, 0}, {math.MinInt, math.MinInt, 0},
		{-64, 1, 0}, {-5, -6, 0}, {-1, -2, 0}, {-1, -1, 0}, {-1, 0, 0}, {-1, 1, 0},
		{0, -1, 0}, {0, 0, 0}, {0, 1, 0}, {1, -1, 0}, {1, 0, 0}, {1, 1, 0}, {1, 2, 0},
		// powers of two and their neighbours
		{2, -1, 0}, {2, 0, 0}, {2, 1, 1}, {2, 2, 0}, {2, 3, 0},
		{3, 0, 0}, {3, 1, 1}, {3, 2, 1}, {3, 3, 0}, {3, 4, 0},
		{4, 0, 0}, {4, 1, 2}, {4, 2, 1}, {4, 3, 1}, {4, 4, 0}, {4, 5, 0},
		{5, 0, 0}, {5, 1, 2}, {5, 2, 1}, {5, 4, 1}, {5, 5, 0}, {5, 6, 0},
		{7, -1, 0}, {7, 0, 0}, {7, 1, 2}, {7, 2, 2}, {7, 3, 1}, {7, 6, 1}, {7, 7, 0}, {7, 8, 0},
		{8, -1, 0}, {8, 0, 0}, {8, 1, 3}, {8, 2, 2}, {8, 3, 2}, {8, 4, 1}, {8, 7, 1}, {8, 8, 0}, {8, 9, 0},
		{9, -1, 0}, {9, 0, 0}, {9, 1, 3}, {9, 2, 2}, {9, 3, 2}, {9, 4, 1}, {9, 8, 1}, {9, 9, 0}, {9, 10, 0},
		{63, 0, 0}, {63, 1, 5}, {63, 30, 2}, {63, 31, 1}, {63, 62, 1}, {63, 63, 0}, {63, 64, 0},
		{64, 0, 0}, {64, 1, 6}, {64, 31, 2}, {64, 32, 1}, {64, 63, 1}, {64, 64, 0}, {64, 65, 0},
		{65, 0, 0}, {65, 1, 6}, {65, 31, 2}, {65, 32, 1}, {65, 64, 1}, {65, 65, 0}, {65, 66, 0},
		{1023, 1, 9}, {1023, 510, 2}, {1023, 511, 1}, {1023, 1022, 1}, {1023, 1023, 0},
		{1024, 1, 10}, {1024, 511, 2}, {1024, 512, 1}, {1024, 1023, 1}, {1024, 1024, 0},
		{1025, 1, 10}, {1025, 511, 2}, {1025, 512, 1}, {1025, 1024, 1}, {1025, 1025, 0},
		{524287, 1, 18}, {524287, 2, 18}, {524287, 524286, 1}, {524287, 524287, 0},
		{524288, 1, 19}, {524288, 524287, 1}, {524288, 524288, 0}, {524289, 1, 19},
		// 1000000 and its neighbours
		{999999, -1, 0}, {999999, 0, 0}, {999999, 1, 19}, {999999, 2, 19}, {999999, 3, 18}, {999999, 499998, 2},
		{999999, 499999, 1}, {999999, 500000, 1}, {999999, 999998, 1}, {999999, 999999, 0}, {999999, 1000000, 0},
		{1000000, -1, 0}, {1000000, 0, 0}, {1000000, 1, 19}, {1000000, 2, 19}, {1000000, 3, 18}, {1000000, 499999, 2},
		{1000000, 500000, 1}, {1000000, 999999, 1}, {1000000, 1000000, 0}, {1000000, 1000001, 0},
		{1000001, -1, 0}, {1000001, 0, 0}, {1000001, 1, 19}, {1000001, 2, 19}, {1000001, 499999, 2}, {1000001, 500000, 1},
		{1000001, 999999, 1}, {1000001, 1000000, 0}, {1000001, 1000001, 0}, {1000001, 1000002, 0},
		// larger numbers, which count as 1000000
		{1048575, 1, 19}, {1048576, 1, 19}, {2000000, 1, 19}, {2000001, 1000000, 0}, {1 << 40, 1, 19}, {1 << 40, 999999, 1}, {1 << 40, 1000000, 0},
		{math.MaxInt, math.MinInt, 0}, {math.MaxInt, -1, 0}, {math.MaxInt, 0, 0}, {math.MaxInt, 1, 19}, {math.MaxInt, 2, 19}, {math.MaxInt, 999999, 1},
		{math.MaxInt, 1000000, 0}, {math.MaxInt, math.MaxInt - 1, 0}, {math.MaxInt, math.MaxInt, 0},
	} {
		if got := impl.Levels(x.n, x.threshold); got != x.want || got != levels(x.n, x.threshold) {
			t.Errorf("Levels(%d, %d) = %d, want %d", x.n, x.threshold, got, x.want)
		}
	}
}

func TestLevelsOfAllNumbers(t *testing.T) {
	check := func(n, threshold int) {
		if got, want := impl.Levels(n, threshold), levels(n, threshold); got != want {
			t.Errorf("Levels(%d, %d) = %d, want %d", n, threshold, got, want)
		}
	}
	for n := -3; n <= 300; n++ {
		for threshold := -3; threshold <= 303; threshold++ {
			check(n, threshold)
		}
	}
	numbers := []int{math.MinInt, math.MaxInt, 999998, 999999, 1000000, 1000001, 1000002, 499999, 500000, 500001}
	for power := 1; power > 0; power *= 2 {
		numbers = append(numbers, power-1, power, power+1, -power)
	}
	for _, n := range numbers {
		for _, threshold := range numbers {
			check(n, threshold)
			check(n, threshold/3)
		}
		check(n, n)
		check(n, n-1)
		check(n, n/2)
		check(n, n/2-1)
	}
}

func TestSwapBoundExamples(t *testing.T) {
	for _, x := range []struct {
		n       int
		s       impl.Settings
		queries int
		want    int
	}{
		{8, plain(2, 0), 3, 24}, {8, plain(1, 5), 3, 24}, {8, plain(64, 0), 3, 24},
		{8, center(2, 0), 3, 22}, {8, center(1, 5), 3, 27}, {8, center(64, 0), 3, 192},
		{8, random(2, 0), 3, 70}, {8, random(1, 5), 3, 67}, {8, random(64, 0), 3, 256},
		{10, plain(3, 0), 7, 70}, {10, center(3, 0), 7, 41}, {10, random(3, 0), 7, 121},
		// no values, and one
		{0, plain(5, 0), 7, 0}, {0, center(5, 0), 7, 35}, {0, random(5, 0), 7, 35}, {0, center(5, 0), 0, 0}, {0, random(5, 0), 0, 0}, {0, plain(5, 0), 0, 0},
		{1, plain(1, 0), 7, 7}, {1, center(1, 0), 7, 7}, {1, random(1, 0), 7, 8}, {1, center(2, 0), 7, 14}, {1, random(2, 0), 7, 15},
		// 64 values, and more
		{64, plain(1, 0), 30, 1920}, {64, center(1, 0), 30, 414}, {64, random(1, 0), 30, 4126},
		{64, plain(64, 0), 30, 1920}, {64, center(64, 0), 30, 1920}, {64, random(64, 0), 30, 6016},
		{64, center(63, 0), 30, 1954}, {64, center(32, 0), 30, 1024}, {64, center(31, 0), 30, 1058}, {63, center(31, 0), 30, 993},
		{65, plain(1, 0), 30, 0}, {65, center(1, 0), 30, 0}, {65, random(1, 0), 30, 0}, {65, center(64, 0), 1, 0},
		{math.MaxInt, plain(1, 0), 30, 0}, {math.MaxInt, center(1, 0), 30, 0}, {math.MaxInt, random(1, 0), 30, 0},
		{-1, plain(1, 0), 30, 0}, {-1, center(1, 0), 30, 0}, {-1, random(1, 0), 30, 0}, {-5, random(3, 0), 2, 0},
		{math.MinInt, plain(1, 0), 30, 0}, {math.MinInt, center(1, 0), 30, 0}, {math.MinInt, random(1, 0), 30, 0},
		// no queries, one, 29, 30 and more
		{8, plain(2, 0), 0, 0}, {8, center(2, 0), 0, 16}, {8, random(2, 0), 0, 64},
		{8, plain(2, 0), 1, 8}, {8, center(2, 0), 1, 18}, {8, random(2, 0), 1, 66},
		{8, plain(2, 0), 29, 232}, {8, center(2, 0), 29, 74}, {8, random(2, 0), 29, 122},
		{8, plain(2, 0), 30, 240}, {8, center(2, 0), 30, 76}, {8, random(2, 0), 30, 124},
		{8, plain(2, 0), 31, 0}, {8, center(2, 0), 31, 0}, {8, random(2, 0), 31, 0},
		{8, plain(2, 0), math.MaxInt, 0}, {8, center(2, 0), math.MaxInt, 0}, {8, random(2, 0), math.MaxInt, 0},
		{8, plain(2, 0), -1, 0}, {8, center(2, 0), -1, 0}, {8, random(2, 0), -1, 0}, {8, center(2, 0), math.MinInt, 0},
		// seeds
		{8, random(2, 10006), 3, 70}, {8, random(2, 10007), 3, 0}, {8, random(2, -1), 3, 0}, {8, plain(2, 10007), 3, 0}, {8, center(2, -1), 3, 0},
		// thresholds
		{8, plain(0, 0), 3, 0}, {8, center(0, 0), 3, 0}, {8, random(0, 0), 3, 0}, {8, plain(65, 0), 3, 0}, {8, center(65, 0), 3, 0}, {8, random(65, 0), 3, 0},
		// policies
		{8, settings(-1, 2, 0), 3, 0}, {8, settings(3, 2, 0), 3, 0}, {8, impl.Settings{}, 3, 0},
		// several at once
		{65, center(0, 0), 31, 0}, {-1, settings(3, 2, 0), -1, 0}, {-3, center(2, 0), -3, 0},
	} {
		if got := impl.SwapBound(x.n, x.s, x.queries); got != x.want || got != swapBound(x.n, x.s, x.queries) {
			t.Errorf("SwapBound(%d, %v, %d) = %d, want %d", x.n, x.s, x.queries, got, x.want)
		}
	}
}

func TestSwapBoundOfAllLimits(t *testing.T) {
	check := func(n int, s impl.Settings, queries int) {
		if got, want := impl.SwapBound(n, s, queries), swapBound(n, s, queries); got != want {
			t.Errorf("SwapBound(%d, %v, %d) = %d, want %d", n, s, queries, got, want)
		}
	}
	for _, n := range []int{math.MinInt, -65, -1, 0, 1, 2, 31, 32, 33, 63, 64, 65, 1000000, math.MaxInt} {
		for _, queries := range []int{math.MinInt, -30, -1, 0, 1, 15, 29, 30, 31, 32, math.MaxInt} {
			for _, policy := range []int{math.MinInt, -1, 0, 1, 2, 3, math.MaxInt} {
				for _, threshold := range []int{math.MinInt, -1, 0, 1, 2, 31, 32, 63, 64, 65, math.MaxInt} {
					for _, seed := range []int{math.MinInt, -1, 0, 5, 10006, 10007, math.MaxInt} {
						check(n, settings(policy, threshold, seed), queries)
					}
				}
			}
		}
	}
	for n := -2; n <= 66; n++ {
		for threshold := -2; threshold <= 66; threshold++ {
			for policy := -1; policy <= 3; policy++ {
				check(n, settings(policy, threshold, n+threshold), n%31)
				check(n, settings(policy, threshold, 5), (threshold+30)%33)
			}
		}
	}
	for queries := -40; queries <= 80; queries++ {
		for _, s := range sweptSettings {
			check(17, s, queries)
			check(64, s, queries)
		}
	}
}

// A queryExample is what RunQueries has to return, with the column as a text and its rows.
type queryExample struct {
	values  []int
	s       impl.Settings
	ranges  []impl.Range
	want    string
	rows    []int
	answers [][]int
	costs   []int
}

func TestRunQueriesExamples(t *testing.T) {
	five, negative := repeated(5, 5), []int{-5, 3, -9, 0, -1, 7}
	ten, edges := []int{4, 9, 1, 7, 3, 8, 2, 6, 5, 0}, []int{999, -999, 0, 998, -998}
	for name, x := range map[string]queryExample{
		"plain":                          {eight, plain(4, 0), spans(3, 8, 3, 8, 0, 3), "[0] 1 2 2 [3] 3 7 5 [8] 8 9", []int{5, 1, 3, 7, 4, 0, 6, 2}, [][]int{{0, 4, 7}, {0, 4, 7}, {1, 3, 5}}, []int{3, 0, 0}},
		"plain, whatever the threshold":  {eight, plain(1, 7), spans(3, 8, 3, 8, 0, 3), "[0] 1 2 2 [3] 3 7 5 [8] 8 9", []int{5, 1, 3, 7, 4, 0, 6, 2}, [][]int{{0, 4, 7}, {0, 4, 7}, {1, 3, 5}}, []int{3, 0, 0}},
		"center":                         {eight, center(2, 5), spans(3, 8, 3, 8, 0, 3), "[0] 1 [2] 2 2 [3] 3 [4] 5 [7] 7 [8] 8 9", []int{5, 1, 3, 7, 0, 4, 6, 2}, [][]int{{0, 4, 7}, {0, 4, 7}, {1, 3, 5}}, []int{4, 0, 0}},
		"center, a threshold of 1":       {eight, center(1, 0), spans(7, 8, 1, 2, 2, 9), "[1] 1 [2] 2 2 [3] 3 [4] 5 [7] 7 [8] 8 [9] 9", []int{5, 1, 3, 7, 0, 4, 6, 2}, [][]int{{4}, {5}, {0, 1, 3, 4, 6, 7}}, []int{4, 0, 0}},
		"random":                         {eight, random(2, 5), spans(3, 8, 3, 8, 0, 3), "[0] 1 [2] 2 2 [3] 3 5 [7] 7 [8] 8 9", []int{5, 1, 3, 7, 0, 4, 6, 2}, [][]int{{0, 4, 7}, {0, 4, 7}, {1, 3, 5}}, []int{4, 0, 0}},
		"random, a threshold of 1":       {eight, random(1, 0), spans(7, 8, 1, 2, 2, 9), "[1] 1 [2] 2 2 [3] 3 [4] [5] 5 [6] [7] 7 [8] 8 [9] 9", []int{5, 1, 3, 7, 0, 4, 6, 2}, [][]int{{4}, {5}, {0, 1, 3, 4, 6, 7}}, []int{4, 0, 0}},
		"random, the greatest seed":      {eight, random(1, 10006), spans(7, 8, 1, 2, 2, 9), "[1] 1 [2] 2 2 [3] 3 5 [7] 7 [8] 8 [9] 9 [10]", []int{5, 1, 3, 7, 0, 4, 6, 2}, [][]int{{4}, {5}, {0, 1, 3, 4, 6, 7}}, []int{4, 0, 0}},
		"random, a choice in each query": {ten, random(3, 5), spans(9, 10, 5, 6, 2, 3, 0, 9), "[0] 0 [1] 1 [2] 2 [3] 3 [4] 4 [5] 5 [6] 7 6 8 [9] 9 [10]", []int{9, 2, 6, 4, 0, 8, 3, 7, 5, 1}, [][]int{{1}, {8}, {6}, {0, 2, 3, 4, 5, 6, 7, 8, 9}}, []int{6, 0, 1, 0}},
		"random, the other order":        {ten, random(3, 5), spans(2, 3, 5, 6, 9, 10, 0, 9), "[0] 0 1 [2] 2 [3] 3 [4] 4 [5] 5 [6] 6 [7] 7 8 [9] 9 [10]", []int{9, 2, 6, 4, 0, 8, 7, 3, 5, 1}, [][]int{{6}, {8}, {1}, {0, 2, 3, 4, 5, 6, 7, 8, 9}}, []int{5, 2, 1, 0}},
		"plain, one range":               {eight, plain(4, 0), spans(2, 7), "1 [2] 2 3 2 5 [7] 7 8 9", []int{5, 1, 7, 3, 0, 4, 6, 2}, [][]int{{0, 1, 3, 7}}, []int{3}},
		"center, one range":              {eight, center(4, 0), spans(2, 7), "1 [2] 2 2 [3] 3 [4] 5 [7] 7 8 9", []int{5, 1, 3, 7, 0, 4, 6, 2}, [][]int{{0, 1, 3, 7}}, []int{4}},
		"random, one range":              {eight, random(4, 0), spans(2, 7), "1 [2] 2 2 [3] 3 [4] 5 [7] 7 8 9", []int{5, 1, 3, 7, 0, 4, 6, 2}, [][]int{{0, 1, 3, 7}}, []int{4}},
		"plain, no ranges":               {eight, plain(4, 0), nil, "5 2 9 2 7 1 8 3", upTo(8), nil, nil},
		"center, no ranges":              {eight, center(4, 0), nil, "5 2 9 2 7 1 8 3", upTo(8), nil, nil},
		"random, no ranges":              {eight, random(4, 5), nil, "5 2 9 2 7 1 8 3", upTo(8), nil, nil},
		"plain, no values":               {nil, plain(4, 0), spans(3, 8, 5, 6), "[3] [5] [6] [8]", nil, [][]int{{}, {}}, []int{0, 0}},
		"center, no values":              {nil, center(1, 0), spans(3, 8, 5, 6), "[3] [5] [6] [8]", nil, [][]int{{}, {}}, []int{0, 0}},
		"random, no values":              {nil, random(1, 5), spans(3, 8, 5, 6), "[3] [5] [6] [8]", nil, [][]int{{}, {}}, []int{0, 0}},
		"no values and no ranges":        {nil, random(1, 5), nil, "none", nil, nil, nil},
		"plain, empty ranges":            {eight, plain(4, 0), spans(4, 4, 4, 4, -1000, -1000, 1000, 1000), "[-1000] 3 2 1 2 [4] 7 9 8 5 [1000]", []int{7, 1, 5, 3, 4, 2, 6, 0}, [][]int{{}, {}, {}, {}}, []int{2, 0, 0, 0}},
		"center, empty ranges":           {eight, center(2, 0), spans(4, 4, 4, 4, -1000, -1000, 1000, 1000), "[-1000] 1 [2] 2 2 [3] 3 [4] 5 [7] 7 [8] 8 9 [1000]", []int{5, 1, 3, 7, 0, 4, 6, 2}, [][]int{{}, {}, {}, {}}, []int{3, 0, 0, 1}},
		"random, empty ranges":           {eight, random(2, 5), spans(4, 4, 4, 4, -1000, -1000, 1000, 1000), "[-1000] 1 [2] 2 2 [3] 3 [4] 5 [7] 7 [8] 8 9 [1000]", []int{5, 1, 3, 7, 0, 4, 6, 2}, [][]int{{}, {}, {}, {}}, []int{4, 0, 0, 0}},
		"plain, everything first":        {negative, plain(1, 0), spans(-1000, 1000, -6, 0, -1, 4), "[-1000] -9 [-6] -5 [-1] -1 [0] 0 3 [4] 7 [1000]", []int{2, 0, 4, 3, 1, 5}, [][]int{{0, 1, 2, 3, 4, 5}, {0, 4}, {1, 3, 4}}, []int{0, 2, 1}},
		"center, everything first":       {negative, center(1, 0), spans(-1000, 1000, -6, 0, -1, 4), "[-1000] [-9] -9 [-8] [-6] -5 [-1] -1 [0] 0 [3] 3 [4] 7 [1000]", []int{2, 0, 4, 3, 1, 5}, [][]int{{0, 1, 2, 3, 4, 5}, {0, 4}, {1, 3, 4}}, []int{3, 0, 0}},
		"random, everything first":       {negative, random(1, 3), spans(-1000, 1000, -6, 0, -1, 4), "[-1000] [-9] -9 [-8] [-6] [-5] -5 [-4] [-1] -1 [0] 0 [3] 3 [4] [7] 7 [8] [1000]", []int{2, 0, 4, 3, 1, 5}, [][]int{{0, 1, 2, 3, 4, 5}, {0, 4}, {1, 3, 4}}, []int{3, 0, 0}},
		"plain, everything last":         {negative, plain(1, 0), spans(-1, 4, -6, 0, -1000, 1000), "[-1000] -9 [-6] -5 [-1] -1 [0] 0 3 [4] 7 [1000]", []int{2, 0, 4, 3, 1, 5}, [][]int{{1, 3, 4}, {0, 4}, {0, 1, 2, 3, 4, 5}}, []int{1, 2, 0}},
		"center, equal values":           {five, center(2, 0), spans(5, 6, 4, 5, 6, 7, 0, 9), "[0] [4] [5] 5 5 5 5 5 [6] [7] [9]", upTo(5), [][]int{{0, 1, 2, 3, 4}, {}, {}, {0, 1, 2, 3, 4}}, []int{0, 0, 0, 0}},
		"random, equal values":           {five, random(2, 5), spans(5, 6, 4, 5, 6, 7, 0, 9), "[0] [4] [5] 5 5 5 5 5 [6] [7] [9]", upTo(5), [][]int{{0, 1, 2, 3, 4}, {}, {}, {0, 1, 2, 3, 4}}, []int{0, 0, 0, 0}},
		"plain, the limits":              {edges, plain(1, 0), spans(-1000, -998, 998, 1000, -999, 999), "[-1000] [-999] -999 [-998] -998 0 [998] 998 [999] 999 [1000]", []int{1, 4, 2, 3, 0}, [][]int{{1}, {0, 3}, {1, 2, 3, 4}}, []int{1, 1, 0}},
		"center, the limits":             {edges, center(1, 0), spans(-1000, -998, 998, 1000, -999, 999), "[-1000] [-999] -999 [-998] -998 [0] 0 [1] [998] 998 [999] 999 [1000]", []int{1, 4, 2, 3, 0}, [][]int{{1}, {0, 3}, {1, 2, 3, 4}}, []int{2, 0, 0}},
		"random, the limits":             {edges, random(1, 3), spans(-1000, -998, 998, 1000, -999, 999), "[-1000] [-999] -999 [-998] -998 [-997] [0] 0 [1] [998] 998 [999] 999 [1000]", []int{1, 4, 2, 3, 0}, [][]int{{1}, {0, 3}, {1, 2, 3, 4}}, []int{2, 0, 0}},
		"plain, ascending":               {ten, plain(3, 0), spans(0, 2, 2, 4, 4, 6, 6, 8, 8, 10), "[0] 0 1 [2] 2 3 [4] 4 5 [6] 7 6 [8] 8 9 [10]", []int{9, 2, 6, 4, 0, 8, 3, 7, 5, 1}, [][]int{{2, 9}, {4, 6}, {0, 8}, {3, 7}, {1, 5}}, []int{2, 2, 2, 1, 0}},
		"plain, descending":              {ten, plain(3, 0), spans(8, 10, 6, 8, 4, 6, 2, 4, 0, 2), "[0] 1 0 [2] 3 2 [4] 4 5 [6] 7 6 [8] 8 9 [10]", []int{2, 9, 4, 6, 0, 8, 3, 7, 5, 1}, [][]int{{1, 5}, {3, 7}, {0, 8}, {4, 6}, {2, 9}}, []int{2, 1, 1, 1, 0}},
		"center, ascending":              {ten, center(3, 0), spans(0, 2, 2, 4, 4, 6, 6, 8, 8, 10), "[0] 0 [1] 1 [2] 2 3 [4] 4 [5] 5 [6] 6 [7] 7 [8] 8 9 [10]", []int{9, 2, 6, 4, 0, 8, 7, 3, 5, 1}, [][]int{{2, 9}, {4, 6}, {0, 8}, {3, 7}, {1, 5}}, []int{5, 0, 3, 0, 0}},
		"center, descending":             {ten, center(3, 0), spans(8, 10, 6, 8, 4, 6, 2, 4, 0, 2), "[0] 0 [1] 1 [2] 2 3 [4] 4 [5] 5 [6] 6 [7] 7 [8] 8 9 [10]", []int{9, 2, 6, 4, 0, 8, 7, 3, 5, 1}, [][]int{{1, 5}, {3, 7}, {0, 8}, {4, 6}, {2, 9}}, []int{7, 0, 0, 1, 0}},
		"random, ascending":              {ten, random(3, 9), spans(0, 2, 2, 4, 4, 6, 6, 8, 8, 10), "[0] 0 [1] 1 [2] 2 3 [4] 4 [5] 5 [6] 7 6 [8] 8 [9] 9 [10]", []int{9, 2, 6, 4, 0, 8, 3, 7, 5, 1}, [][]int{{2, 9}, {4, 6}, {0, 8}, {3, 7}, {1, 5}}, []int{7, 0, 0, 0, 0}},
		"random, descending":             {ten, random(3, 9), spans(8, 10, 6, 8, 4, 6, 2, 4, 0, 2), "[0] 0 [1] 1 [2] 2 3 [4] 4 [5] 5 [6] 7 6 [8] 8 [9] 9 [10]", []int{9, 2, 6, 4, 0, 8, 3, 7, 5, 1}, [][]int{{1, 5}, {3, 7}, {0, 8}, {4, 6}, {2, 9}}, []int{2, 4, 0, 1, 0}},
		"plain, from the outside":        {ten, plain(3, 0), spans(0, 10, 1, 9, 2, 8, 3, 7, 4, 6), "[0] 0 [1] 1 [2] 2 [3] 3 [4] 4 5 [6] 6 [7] 7 [8] 8 [9] 9 [10]", []int{9, 2, 6, 4, 0, 8, 7, 3, 5, 1}, [][]int{{0, 1, 2, 3, 4, 5, 6, 7, 8, 9}, {0, 2, 3, 4, 5, 6, 7, 8}, {0, 3, 4, 6, 7, 8}, {0, 4, 7, 8}, {0, 8}}, []int{0, 2, 2, 2, 2}},
		"plain, from the inside":         {ten, plain(3, 0), spans(4, 6, 3, 7, 2, 8, 1, 9, 0, 10), "[0] 0 [1] 1 [2] 2 [3] 3 [4] 4 5 [6] 6 [7] 7 [8] 8 [9] 9 [10]", []int{9, 2, 6, 4, 0, 8, 7, 3, 5, 1}, [][]int{{0, 8}, {0, 4, 7, 8}, {0, 3, 4, 6, 7, 8}, {0, 2, 3, 4, 5, 6, 7, 8}, {0, 1, 2, 3, 4, 5, 6, 7, 8, 9}}, []int{5, 1, 2, 0, 0}},
		"plain, each range twice":        {eight, plain(4, 0), spans(5, 8, 5, 8, 2, 3, 2, 3), "1 [2] 2 2 [3] 3 [5] 7 5 [8] 8 9", []int{5, 1, 3, 7, 4, 0, 6, 2}, [][]int{{0, 4}, {0, 4}, {1, 3}, {1, 3}}, []int{3, 0, 2, 0}},
		"center, each range twice":       {eight, center(2, 0), spans(5, 8, 5, 8, 2, 3, 2, 3), "1 [2] 2 2 [3] 3 [4] [5] 5 [7] 7 [8] 8 9", []int{5, 1, 3, 7, 0, 4, 6, 2}, [][]int{{0, 4}, {0, 4}, {1, 3}, {1, 3}}, []int{4, 0, 0, 0}},
		"random, each range twice":       {eight, random(2, 9), spans(5, 8, 5, 8, 2, 3, 2, 3), "1 [2] 2 2 [3] 3 [5] 5 [6] 7 [8] 8 [9] 9 [10]", []int{5, 1, 3, 7, 0, 4, 6, 2}, [][]int{{0, 4}, {0, 4}, {1, 3}, {1, 3}}, []int{4, 0, 0, 0}},
		"plain, one value":               {[]int{7}, plain(1, 0), spans(7, 8, 5, 7, 8, 9), "[5] [7] 7 [8] [9]", upTo(1), [][]int{{0}, {}, {}}, []int{0, 0, 0}},
		"random, one value":              {[]int{7}, random(1, 0), spans(7, 8, 5, 7, 8, 9), "[5] [7] 7 [8] [9]", upTo(1), [][]int{{0}, {}, {}}, []int{0, 0, 0}},
		"center, two values":             {[]int{9, 1}, center(1, 0), spans(5, 9, 1, 2), "[1] 1 [2] [5] [9] 9", []int{1, 0}, [][]int{{}, {1}}, []int{1, 0}},
		"random, two values":             {[]int{9, 1}, random(1, 0), spans(5, 9, 1, 2), "[1] 1 [2] [5] [9] 9", []int{1, 0}, [][]int{{}, {1}}, []int{1, 0}},
	} {
		c, answers, costs := impl.RunQueries(x.values, x.s, x.ranges)
		if impl.FormatCracker(c) != x.want || !slices.Equal(c.Rows, x.rows) || !sameLists(answers, x.answers) || !slices.Equal(costs, x.costs) {
			t.Errorf("%s: RunQueries(%d, %v, %v) = %s in the rows %d, %d, %d, want %s in %d, %d, %d",
				name, x.values, x.s, x.ranges, impl.FormatCracker(c), c.Rows, answers, costs, x.want, x.rows, x.answers, x.costs)
		}
		if !impl.IsWithinBound(x.values, x.s, x.ranges) {
			t.Errorf("%s: IsWithinBound(%d, %v, %v) = false", name, x.values, x.s, x.ranges)
		}
		checkRunQueries(t, x.values, x.s, x.ranges)
	}
}

// TestThresholdOfTheWholeColumn compares thresholds that are the number of values, one less and one more: what is allowed, and what is made.
func TestThresholdOfTheWholeColumn(t *testing.T) {
	three, two, one := spans(3, 8, 1, 2, 5, 9), spans(32, 48, 8, 16), spans(5, 9)
	for _, x := range []struct {
		values []int
		s      impl.Settings
		ranges []impl.Range
		pivots int
		costs  []int
		bound  int
	}{
		{eight, plain(7, 5), three, 6, []int{3, 0, 0}, 24},
		{eight, plain(8, 5), three, 6, []int{3, 0, 0}, 24},
		{eight, plain(9, 5), three, 6, []int{3, 0, 0}, 24},
		{eight, center(7, 5), three, 7, []int{3, 0, 0}, 29},
		{eight, center(8, 5), three, 6, []int{3, 0, 0}, 24},
		{eight, center(9, 5), three, 6, []int{3, 0, 0}, 27},
		{eight, random(7, 5), three, 7, []int{4, 0, 0}, 85},
		{eight, random(8, 5), three, 6, []int{3, 0, 0}, 88},
		{eight, random(9, 5), three, 6, []int{3, 0, 0}, 91},
		{costly(0, 8), plain(7, 5), three, 6, []int{3, 2, 2}, 24},
		{costly(0, 8), plain(8, 5), three, 6, []int{3, 2, 2}, 24},
		{costly(0, 8), plain(9, 5), three, 6, []int{3, 2, 2}, 24},
		{costly(0, 8), center(7, 5), three, 7, []int{4, 2, 1}, 29},
		{costly(0, 8), center(8, 5), three, 6, []int{3, 2, 2}, 24},
		{costly(0, 8), center(9, 5), three, 6, []int{3, 2, 2}, 27},
		{costly(0, 8), random(7, 5), three, 6, []int{3, 0, 1}, 85},
		{costly(0, 8), random(8, 5), three, 6, []int{3, 2, 2}, 88},
		{costly(0, 8), random(9, 5), three, 6, []int{3, 2, 2}, 91},
		{[]int{7}, plain(1, 5), one, 2, []int{0}, 1},
		{[]int{7}, plain(2, 5), one, 2, []int{0}, 1},
		{[]int{7}, center(1, 5), one, 2, []int{0}, 1},
		{[]int{7}, center(2, 5), one, 2, []int{0}, 2},
		{[]int{7}, random(1, 5), one, 2, []int{0}, 2},
		{[]int{7}, random(2, 5), one, 2, []int{0}, 3},
		{[]int{9, 1}, plain(1, 5), one, 2, []int{1}, 2},
		{[]int{9, 1}, plain(2, 5), one, 2, []int{1}, 2},
		{[]int{9, 1}, plain(3, 5), one, 2, []int{1}, 2},
		{[]int{9, 1}, center(1, 5), one, 4, []int{1}, 3},
		{[]int{9, 1}, center(2, 5), one, 2, []int{1}, 2},
		{[]int{9, 1}, center(3, 5), one, 2, []int{1}, 3},
		{[]int{9, 1}, random(1, 5), one, 3, []int{1}, 5},
		{[]int{9, 1}, random(2, 5), one, 2, []int{1}, 6},
		{[]int{9, 1}, random(3, 5), one, 2, []int{1}, 7},
		{[]int{6, 7, 1}, plain(2, 5), one, 2, []int{1}, 3},
		{[]int{6, 7, 1}, plain(3, 5), one, 2, []int{1}, 3},
		{[]int{6, 7, 1}, plain(4, 5), one, 2, []int{1}, 3},
		{[]int{6, 7, 1}, center(2, 5), one, 4, []int{2}, 5},
		{[]int{6, 7, 1}, center(3, 5), one, 2, []int{1}, 3},
		{[]int{6, 7, 1}, center(4, 5), one, 2, []int{1}, 4},
		{[]int{6, 7, 1}, random(2, 5), one, 4, []int{2}, 11},
		{[]int{6, 7, 1}, random(3, 5), one, 2, []int{1}, 12},
		{[]int{6, 7, 1}, random(4, 5), one, 2, []int{1}, 13},
		{costly(0, 64), plain(63, 5), two, 4, []int{48, 16}, 128},
		{costly(0, 64), plain(64, 5), two, 4, []int{48, 16}, 128},
		{costly(0, 64), center(63, 5), two, 5, []int{47, 16}, 190},
		{costly(0, 64), center(64, 5), two, 4, []int{48, 16}, 128},
		{costly(0, 64), random(63, 5), two, 6, []int{46, 16}, 4222},
		{costly(0, 64), random(64, 5), two, 4, []int{48, 16}, 4224},
		{costly(0, 63), plain(62, 5), two, 4, []int{46, 16}, 126},
		{costly(0, 63), plain(63, 5), two, 4, []int{46, 16}, 126},
		{costly(0, 63), plain(64, 5), two, 4, []int{46, 16}, 126},
		{costly(0, 63), center(62, 5), two, 5, []int{46, 16}, 187},
		{costly(0, 63), center(63, 5), two, 4, []int{46, 16}, 126},
		{costly(0, 63), center(64, 5), two, 4, []int{46, 16}, 128},
		{costly(0, 63), random(62, 5), two, 6, []int{43, 15}, 4093},
		{costly(0, 63), random(63, 5), two, 4, []int{46, 16}, 4095},
		{costly(0, 63), random(64, 5), two, 4, []int{46, 16}, 4097},
		{nil, plain(1, 5), one, 2, []int{0}, 0},
		{nil, center(1, 5), one, 2, []int{0}, 1},
		{nil, random(1, 5), one, 2, []int{0}, 1},
	} {
		c, _, costs := impl.RunQueries(x.values, x.s, x.ranges)
		bound := impl.SwapBound(len(x.values), x.s, len(x.ranges))
		if len(c.Pivots) != x.pivots || !slices.Equal(costs, x.costs) || bound != x.bound || !impl.IsWithinBound(x.values, x.s, x.ranges) {
			t.Errorf("RunQueries(%d, %v, %v) adds %d pivots with the swaps %d, of %d allowed, want %d pivots, %d, of %d",
				x.values, x.s, x.ranges, len(c.Pivots), costs, bound, x.pivots, x.costs, x.bound)
		}
		checkRunQueries(t, x.values, x.s, x.ranges)
	}
}

// TestThresholdsOfAllWholeColumns asks for the divisions of PolicyPlain where no piece is larger than the threshold, and for other ones where the first is.
func TestThresholdsOfAllWholeColumns(t *testing.T) {
	ranges := spans(20, 40, -5, 7, 10, 30, 63, 64)
	for n := range 65 {
		for _, values := range [][]int{upTo(n), downFrom(n), costly(0, n), spread(n), repeated(n, 7)} {
			want := checkRunQueries(t, values, plain(1, 5), ranges)
			for threshold := max(n-1, 1); threshold <= min(n+1, 64); threshold++ {
				for policy, bound := range []int{n * 4, n*levels(n, threshold) + 4*threshold, n*n + 4*threshold} {
					s := settings(policy, threshold, 5)
					got := checkRunQueries(t, values, s, ranges)
					if allowed := impl.SwapBound(n, s, 4); allowed != bound || total(got.costs) > bound {
						t.Errorf("of %d values, %v allows %d swaps for 4 queries, want %d, and %d are made", n, s, allowed, bound, got.costs)
					}
					if (policy == 0 || threshold >= n) && !sameRun(got, want) {
						t.Errorf("RunQueries(%d, %v) = %v, want %v, as for PolicyPlain", values, s, got, want)
					}
					median := medianOf(values)
					_, divided := impl.FindPivot(got.c, median)
					if policy == 1 && threshold < n && !divided {
						t.Errorf("RunQueries(%d, %v) = %v, which has no pivot at the median %d", values, s, got, median)
					}
				}
			}
		}
	}
}

// checkNoQueries asks for zero values.
func checkNoQueries(t *testing.T, name string, values []int, s impl.Settings, ranges []impl.Range) {
	t.Helper()
	if c, answers, costs := impl.RunQueries(values, s, ranges); !impl.EqualCrackers(c, impl.Cracker{}) || len(answers) != 0 || len(costs) != 0 {
		t.Errorf("%s: RunQueries(%d, %v, %v) = %v, %d, %d", name, values, s, ranges, c, answers, costs)
	}
	if impl.IsWithinBound(values, s, ranges) || areQueries(values, s, ranges) {
		t.Errorf("%s: IsWithinBound(%d, %v, %v) = true", name, values, s, ranges)
	}
}

// replaced returns the list with another number at a place.
func replaced(l []int, place, n int) []int {
	l = slices.Clone(l)
	l[place] = n
	return l
}

// queryValues and queryRanges are at the limits of what is valid, noQueryValues beyond them.
var (
	queryValues = map[string][]int{
		"no values": nil, "an empty list": {}, "one value": {7}, "eight values": eight, "63 values": spread(63), "64 values": spread(64),
		"64 equal values": repeated(64, 7), "the limits": {999, -999}, "64 limits": repeated(64, -999),
	}
	noQueryValues = map[string][]int{
		"65 values": upTo(65), "65 equal values": repeated(65, 7), "1000 values": repeated(1000, 7),
		"a value of 1000": {1000}, "a value of -1000": {-1000}, "the greatest int": {math.MaxInt}, "the least int": {math.MinInt},
		"a first value of 1000": replaced(eight, 0, 1000), "a middle value of -1000": replaced(eight, 4, -1000), "a last value of 1000": replaced(eight, 7, 1000),
		"64 values, the last one of 1000": replaced(upTo(64), 63, 1000), "65 values, the last one of 1000": replaced(upTo(65), 64, 1000),
	}
	queryRanges = map[string][]impl.Range{
		"no ranges": nil, "an empty list": {}, "one range": spans(3, 8), "29 ranges": pairs()[1:], "30 ranges": pairs(), "30 nested ranges": nested(),
		"30 empty ranges": make([]impl.Range, 30), "the limits": spans(-1000, 1000, -1000, -1000, 1000, 1000),
	}
)

// everyInvalidRun calls visit with values, settings and ranges of which at least one is not valid.
func everyInvalidRun(visit func(name string, values []int, s impl.Settings, ranges []impl.Range)) {
	noRanges := map[string][]impl.Range{
		"31 ranges": append(pairs(), span(3, 8)), "31 empty ranges": make([]impl.Range, 31), "1000 ranges": make([]impl.Range, 1000),
		"31 ranges, one not valid": append(pairs(), span(8, 3)),
	}
	for what, r := range invalidRanges {
		noRanges[what] = []impl.Range{r}
		for where, place := range map[string]int{"first": 0, "in the middle": 15, "last": 29} {
			l := pairs()
			l[place] = r
			noRanges[what+", "+where] = l
		}
	}
	for valuesName, v := range queryValues {
		for rangesName, l := range queryRanges {
			for settingsName, s := range invalidSettings {
				visit(valuesName+", "+settingsName+", "+rangesName, v, s, l)
			}
		}
		for rangesName, l := range noRanges {
			for _, s := range append([]impl.Settings{{}}, sweptSettings...) {
				visit(valuesName+", "+rangesName, v, s, l)
			}
		}
	}
	for valuesName, v := range noQueryValues {
		for _, s := range append([]impl.Settings{{}}, sweptSettings...) {
			for rangesName, l := range queryRanges {
				visit(valuesName+", "+rangesName, v, s, l)
			}
			for rangesName, l := range noRanges {
				visit(valuesName+", "+rangesName, v, s, l)
			}
		}
	}
}

func TestQueriesThatAreNotValid(t *testing.T) {
	everyInvalidRun(func(name string, values []int, s impl.Settings, ranges []impl.Range) {
		checkNoQueries(t, name, values, s, ranges)
	})
	for valuesName, v := range queryValues {
		for rangesName, l := range queryRanges {
			for settingsName, s := range validSettings {
				if !impl.IsWithinBound(v, s, l) || !areQueries(v, s, l) {
					t.Errorf("%s, %s, %s: IsWithinBound(%d, %v, %v) = false", valuesName, settingsName, rangesName, v, s, l)
				}
			}
		}
	}
}

func TestRunQueriesOfTheLimits(t *testing.T) {
	for _, values := range [][]int{nil, {}, {7}, spread(63), spread(64), upTo(65), repeated(64, 999), replaced(eight, 7, 1000)} {
		for _, ranges := range [][]impl.Range{nil, {}, spans(3, 8), pairs()[1:], pairs(), append(pairs(), span(3, 8)), append(pairs()[1:], span(8, 3))} {
			for _, s := range append([]impl.Settings{{}, center(65, 0), random(1, 10007)}, sweptSettings...) {
				checkRunQueries(t, values, s, ranges)
			}
		}
	}
}

// TestMostSwapsOfSmallColumns looks at every order of a few values, and at every one and two ranges.
func TestMostSwapsOfSmallColumns(t *testing.T) {
	for _, x := range []struct {
		n, queries int
		s          impl.Settings
		most       int
		bound      int
	}{
		{0, 2, plain(1, 5), 0, 0}, {0, 2, center(1, 5), 0, 2}, {0, 2, random(1, 5), 0, 2},
		{1, 2, plain(1, 5), 0, 2}, {1, 2, center(1, 5), 0, 2}, {1, 2, center(2, 5), 0, 4}, {1, 2, random(1, 5), 0, 3},
		{2, 1, plain(1, 5), 1, 2}, {2, 1, center(1, 5), 1, 3}, {2, 1, random(1, 5), 1, 5},
		{2, 2, plain(1, 5), 1, 4}, {2, 2, center(1, 5), 1, 4}, {2, 2, center(2, 5), 1, 4}, {2, 2, center(3, 5), 1, 6}, {2, 2, random(1, 5), 1, 6},
		{3, 1, plain(1, 5), 2, 3}, {3, 1, center(1, 5), 2, 4}, {3, 1, random(1, 5), 2, 10},
		{3, 2, plain(1, 5), 2, 6}, {3, 2, center(1, 5), 2, 5}, {3, 2, center(2, 5), 2, 7}, {3, 2, center(3, 5), 2, 6}, {3, 2, center(4, 5), 2, 8},
		{3, 2, random(1, 5), 2, 11}, {3, 2, random(2, 5), 2, 13}, {3, 2, random(3, 5), 2, 15}, {3, 2, random(4, 5), 2, 17},
		{4, 1, plain(1, 5), 3, 4}, {4, 1, center(1, 5), 3, 9}, {4, 1, center(4, 5), 3, 4}, {4, 1, random(1, 5), 4, 17}, {4, 1, random(4, 5), 3, 20},
		{4, 2, plain(1, 5), 4, 8}, {4, 2, center(1, 5), 3, 10}, {4, 2, center(2, 5), 3, 8}, {4, 2, center(3, 5), 3, 10}, {4, 2, center(4, 5), 4, 8},
		{4, 2, center(5, 5), 4, 10}, {4, 2, random(1, 5), 4, 18}, {4, 2, random(3, 5), 4, 22}, {4, 2, random(4, 5), 4, 24}, {4, 2, random(5, 5), 4, 26},
		{5, 1, plain(1, 5), 3, 5}, {5, 1, center(1, 5), 5, 11}, {5, 1, center(2, 5), 5, 7}, {5, 1, center(4, 5), 5, 9}, {5, 1, center(5, 5), 3, 5},
		{5, 1, center(6, 5), 3, 6}, {5, 1, random(1, 5), 5, 26}, {5, 1, random(4, 5), 5, 29}, {5, 1, random(5, 5), 3, 30}, {5, 1, random(6, 5), 3, 31},
	} {
		most := 0
		everyOrder(upTo(x.n), func(values []int) {
			everySpans(x.n, x.queries, func(ranges []impl.Range) {
				_, answers, costs := impl.RunQueries(values, x.s, ranges)
				most = max(most, total(costs))
				for i, r := range ranges {
					if !slices.Equal(answers[i], scanValues(values, r)) {
						t.Errorf("RunQueries(%d, %v, %v) answers %d", values, x.s, ranges, answers)
					}
				}
			})
		})
		if bound := impl.SwapBound(x.n, x.s, x.queries); most != x.most || bound != x.bound || most > bound {
			t.Errorf("%d queries of %d values with %v make up to %d swaps, of %d allowed, want %d, of %d", x.queries, x.n, x.s, most, bound, x.most, x.bound)
		}
	}
}

// everySpans calls visit with all lists of so many ranges from 0 to n.
func everySpans(n, queries int, visit func([]impl.Range)) {
	if queries == 0 {
		visit(nil)
		return
	}
	everySpans(n, queries-1, func(l []impl.Range) {
		for from := range n + 1 {
			for to := from; to <= n; to++ {
				visit(append(slices.Clone(l), span(from, to)))
			}
		}
	})
}

func TestQueriesOfEverySmallColumn(t *testing.T) {
	some := []impl.Settings{plain(1, 5), center(1, 5), center(3, 5), random(1, 0), random(2, 1), random(3, 5)}
	everyList([]int{0, 1, 2}, 4, func(values []int) {
		for _, s := range some {
			for _, ranges := range [][]impl.Range{
				nil, spans(1, 2), spans(1, 2, 1, 2), spans(0, 1, 1, 2, 2, 3), spans(2, 3, 1, 2, 0, 1), spans(-1, 4, 0, 3, 1, 2), spans(1, 2, 0, 3, -1, 4), spans(1, 1, 2, 2, 0, 0),
			} {
				checkRunQueries(t, values, s, ranges)
			}
		}
	})
	everyOrder([]int{1, 3, 4, 6, 9}, func(values []int) {
		for _, s := range some {
			checkRunQueries(t, values, s, spans(3, 5, 1, 9, 6, 7, 0, 4))
		}
	})
}

// everyOrderOfSpans calls visit with five ranges, which overlap or touch, in all of their orders.
func everyOrderOfSpans(visit func([]impl.Range)) {
	ranges := spans(3, 8, 2, 5, -1000, 1000, 5, 5, 8, 9)
	everyOrder(upTo(len(ranges)), func(order []int) {
		var l []impl.Range
		for _, i := range order {
			l = append(l, ranges[i])
		}
		visit(l)
	})
}

func TestQueriesInEveryOrder(t *testing.T) {
	everyOrderOfSpans(func(l []impl.Range) {
		for _, s := range sweptSettings {
			for _, values := range [][]int{eight, repeated(5, 5), nil} {
				once := checkRunQueries(t, values, s, l)
				// When all ranges were asked for, asking again divides nothing.
				twice := checkRunQueries(t, values, s, append(slices.Clone(l), l...))
				if total(twice.costs) != total(once.costs) || total(twice.costs[len(l):]) != 0 || !impl.EqualCrackers(twice.c, once.c) {
					t.Errorf("RunQueries(%d, %v, %v) costs %d, and %d if all is asked twice", values, s, l, once.costs, twice.costs)
				}
			}
		}
	})
}

// TestQueriesAfterTheSameQuery asks for each range twice in a row.
func TestQueriesAfterTheSameQuery(t *testing.T) {
	for _, values := range [][]int{costly(0, 64), shuffled(), spread(64), spread(9), eight, repeated(64, 7), nil} {
		for _, s := range sweptSettings {
			for _, ranges := range [][]impl.Range{pairs()[:15], nested()[:15], backward(nested())[:15], spans(32, 48, 8, 16, 0, 64, 999, 1000)} {
				var doubled []impl.Range
				for _, r := range ranges {
					doubled = append(doubled, r, r)
				}
				once, twice := checkRunQueries(t, values, s, ranges), checkRunQueries(t, values, s, doubled)
				for i := range ranges {
					if twice.costs[2*i] != once.costs[i] || twice.costs[2*i+1] != 0 || !slices.Equal(twice.answers[2*i], twice.answers[2*i+1]) {
						t.Errorf("RunQueries(%d, %v, %v) costs %d, and %d if each range is asked for twice", values, s, ranges, once.costs, twice.costs)
						break
					}
				}
			}
		}
	}
}

// TestSwapsOfManyQueries has 30 ranges, and the sums of their swaps for each of the settings.
func TestSwapsOfManyQueries(t *testing.T) {
	with := []impl.Settings{plain(1, 0), center(1, 0), center(8, 0), center(64, 0), random(1, 5), random(8, 10006), random(64, 5)}
	bounds := []int{1920, 414, 432, 1920, 4126, 4336, 6016}
	same := slices.Repeat(spans(20, 40), 30)
	for name, x := range map[string]struct {
		values []int
		ranges []impl.Range
		sums   []int
	}{
		"in order, ascending":    {upTo(64), pairs(), []int{0, 0, 0, 0, 0, 0, 0}},
		"in order, nested":       {upTo(64), nested(), []int{0, 0, 0, 0, 0, 0, 0}},
		"descending, ascending":  {downFrom(64), pairs(), []int{32, 32, 32, 32, 32, 32, 32}},
		"descending, descending": {downFrom(64), backward(pairs()), []int{32, 32, 32, 32, 32, 32, 32}},
		"descending, repeated":   {downFrom(64), same, []int{24, 32, 32, 24, 31, 28, 24}},
		"descending, nested":     {downFrom(64), nested(), []int{29, 32, 32, 29, 32, 31, 29}},
		"descending, wider":      {downFrom(64), backward(nested()), []int{29, 32, 32, 29, 32, 31, 29}},
		"costly, ascending":      {costly(0, 64), pairs(), []int{32, 143, 124, 32, 115, 69, 32}},
		"costly, descending":     {costly(0, 64), backward(pairs()), []int{38, 143, 124, 38, 117, 61, 38}},
		"costly, repeated":       {costly(0, 64), same, []int{36, 83, 82, 36, 66, 55, 36}},
		"costly, nested":         {costly(0, 64), nested(), []int{32, 144, 133, 32, 103, 79, 32}},
		"costly, wider":          {costly(0, 64), backward(nested()), []int{85, 144, 134, 85, 104, 77, 85}},
		"shuffled, ascending":    {shuffled(), pairs(), []int{53, 90, 78, 53, 82, 76, 53}},
		"shuffled, descending":   {shuffled(), backward(pairs()), []int{54, 90, 78, 54, 78, 69, 54}},
		"shuffled, repeated":     {shuffled(), same, []int{24, 48, 47, 24, 45, 42, 24}},
		"shuffled, nested":       {shuffled(), nested(), []int{58, 92, 90, 58, 85, 83, 58}},
		"shuffled, wider":        {shuffled(), backward(nested()), []int{71, 92, 91, 71, 82, 80, 71}},
	} {
		for i, s := range with {
			got := checkRunQueries(t, x.values, s, x.ranges)
			if bound := impl.SwapBound(64, s, 30); total(got.costs) != x.sums[i] || bound != bounds[i] || total(got.costs) > bound {
				t.Errorf("%s: with %v, %d swaps are made, of %d allowed, want %d, of %d", name, s, total(got.costs), bound, x.sums[i], bounds[i])
			}
		}
	}
}

// costliest asks again and again for the range that makes the most swaps, as long as one makes any.
func costliest(values []int, s impl.Settings) []impl.Range {
	var ranges []impl.Range
	c, left, worst := impl.NewCracker(values), s, 1
	for worst > 0 && len(ranges) < 30 {
		worst = 0
		before, with, r := c, left, impl.Range{}
		for from := 0; from <= 64; from += 4 {
			for to := from; to <= 64; to += 4 {
				if next, after, _, n := impl.SelectWith(before, with, span(from, to)); n > worst {
					c, left, worst, r = next, after, n, span(from, to)
				}
			}
		}
		if worst > 0 {
			ranges = append(ranges, r)
		}
	}
	return ranges
}

func TestSwapsOfTheCostliestQueries(t *testing.T) {
	for _, x := range []struct {
		values []int
		s      impl.Settings
		costs  []int
		bound  int
	}{
		{costly(0, 64), plain(1, 0), []int{48, 24, 16, 12, 8, 8, 8, 4}, 512},
		{costly(0, 64), center(1, 0), []int{91, 23, 6, 6}, 388},
		{costly(0, 64), center(4, 0), []int{88, 21, 6, 6}, 272},
		{costly(0, 64), center(8, 0), []int{86, 20, 4, 4}, 224},
		{costly(0, 64), center(64, 0), []int{48, 24, 16, 12, 8, 8, 8, 4}, 512},
		{costly(0, 64), random(1, 5), []int{86, 9, 4, 2}, 4100},
		{costly(0, 64), random(4, 77), []int{78, 5, 1, 1}, 4112},
		{costly(0, 64), random(8, 10006), []int{56, 8, 2}, 4120},
		{costly(0, 64), random(64, 5), []int{48, 24, 16, 12, 8, 8, 8, 4}, 4608},
		{shuffled(), plain(1, 0), []int{25, 12, 8, 7, 6, 4, 3, 1}, 512},
		{shuffled(), center(1, 0), []int{53, 14, 5, 2}, 388},
		{shuffled(), center(4, 0), []int{50, 14, 5, 2}, 272},
		{shuffled(), center(8, 0), []int{50, 12, 4, 2}, 224},
		{shuffled(), center(64, 0), []int{25, 12, 8, 7, 6, 4, 3, 1}, 512},
		{shuffled(), random(1, 5), []int{55, 14, 3, 2}, 4100},
		{shuffled(), random(4, 77), []int{55, 10, 7, 1}, 4112},
		{shuffled(), random(8, 10006), []int{52, 8, 2, 1}, 4128},
		{shuffled(), random(64, 5), []int{25, 12, 8, 7, 6, 4, 3, 1}, 4608},
		{downFrom(64), plain(1, 0), []int{32}, 64},
		{downFrom(64), center(1, 0), []int{32}, 385},
		{downFrom(64), center(4, 0), []int{32}, 260},
		{downFrom(64), center(8, 0), []int{32}, 200},
		{downFrom(64), center(64, 0), []int{32}, 64},
		{downFrom(64), random(1, 5), []int{32}, 4097},
		{downFrom(64), random(4, 77), []int{32}, 4100},
		{downFrom(64), random(8, 10006), []int{32}, 4104},
		{downFrom(64), random(64, 5), []int{32}, 4160},
	} {
		ranges := costliest(x.values, x.s)
		got := checkRunQueries(t, x.values, x.s, ranges)
		if bound := impl.SwapBound(64, x.s, len(ranges)); !slices.Equal(got.costs, x.costs) || bound != x.bound || total(got.costs) > bound {
			t.Errorf("with %v, %v make the swaps %d, of %d allowed, want %d, of %d", x.s, ranges, got.costs, bound, x.costs, x.bound)
		}
	}
}

func TestManyQueries(t *testing.T) {
	for _, values := range [][]int{spread(64), spread(63), spread(9), append(repeated(40, 0), spread(24)...), {999, -999}} {
		var ranges []impl.Range
		for i := range 30 {
			from := (i*577+i*i*31)%2001 - 1000
			ranges = append(ranges, span(from, min(1000, from+i*i%401)))
		}
		for i := range values[:len(values)/8] {
			ranges[3*i] = span(values[i], values[i]+1)
		}
		for _, s := range []impl.Settings{plain(4, 0), center(1, 0), center(4, 0), center(16, 0), random(1, 0), random(4, 99), random(16, 10006)} {
			for _, n := range []int{0, 1, 2, 3, 10, 29, 30} {
				checkRunQueries(t, values, s, ranges[:n])
			}
			checkRunQueries(t, values, s, backward(ranges))
		}
	}
}

func TestWorstQueryExamples(t *testing.T) {
	for _, x := range []struct {
		costs []int
		want  int
	}{
		{nil, -1},
		{[]int{}, -1},
		{[]int{7}, 0},
		{[]int{0}, 0},
		{[]int{-7}, 0},
		{[]int{math.MinInt}, 0},
		{[]int{math.MaxInt}, 0},
		{[]int{1, 5, 5}, 1},
		{[]int{5, 1, 5}, 0},
		{[]int{5, 5, 1}, 0},
		{[]int{5, 5, 5}, 0},
		{[]int{1, 5, 1, 5, 3}, 1},
		{[]int{1, 2, 3}, 2},
		{[]int{3, 2, 1}, 0},
		{[]int{1, 3, 2}, 1},
		{[]int{0, 0, 1}, 2},
		{[]int{0, 0}, 0},
		{[]int{3, 0, 0}, 0},
		// negative numbers
		{[]int{-1, -5}, 0},
		{[]int{-5, -1}, 1},
		{[]int{-5, -1, -1}, 1},
		{[]int{-1, 0}, 1},
		{[]int{0, -1}, 0},
		{[]int{-3, -2, -1, -2}, 2},
		{[]int{-1, -1}, 0},
		// the limits
		{[]int{math.MinInt, math.MinInt}, 0},
		{[]int{math.MinInt, math.MinInt + 1}, 1},
		{[]int{math.MinInt, math.MaxInt, math.MaxInt}, 1},
		{[]int{0, math.MinInt, math.MaxInt, 5}, 2},
		{[]int{math.MaxInt - 1, math.MaxInt}, 1},
		// more than there can be queries
		{repeated(31, 7), 0},
		{upTo(31), 30},
		{upTo(100000), 99999},
		{repeated(100000, -7), 0},
		{downFrom(65), 0},
	} {
		if got := impl.WorstQuery(x.costs); got != x.want {
			t.Errorf("WorstQuery(%d) = %d, want %d", x.costs, got, x.want)
		}
	}
}

func TestWorstQueryOfAllLists(t *testing.T) {
	check := func(costs []int) {
		given := spare(costs)
		before := slices.Clone(given[:cap(given)])
		if got, want := impl.WorstQuery(given), worstQuery(costs); got != want {
			t.Errorf("WorstQuery(%d) = %d, want %d", costs, got, want)
		}
		if !slices.Equal(given[:cap(given)], before) {
			t.Errorf("WorstQuery(%d) leaves %d", costs, given[:cap(given)])
		}
	}
	everyList([]int{-2, 0, 1}, 7, check)
	everyOrder([]int{math.MinInt, -3, 1, 4, 50, math.MaxInt}, check)
	for n := range 130 {
		check(spread(n))
	}
}

// TestQueriesKeepNoState asks for the same queries between others.
func TestQueriesKeepNoState(t *testing.T) {
	var first []queryRun
	for round := range 3 {
		for i, s := range sweptSettings {
			c, answers, costs := impl.RunQueries(spread(64), s, nested())
			x := queryRun{c, answers, costs}
			if round == 0 {
				first = append(first, x)
			}
			if !sameRun(x, first[i]) {
				t.Errorf("in round %d, %v leads to %v, but to %v before", round, s, x, first[i])
			}
			impl.IsWithinBound(spread(9), s, pairs())
			impl.RunQueries(eight, random(1, i), spans(8, 3))
			impl.SwapBound(i, s, round)
			impl.Levels(i, round)
			impl.WorstQuery(costs)
		}
	}
}

// queried performs all functions of chapter 8 that have a list, successfully and not, and returns what they answer.
func queried(c impl.Cracker) ([]impl.Cracker, [][]int) {
	var columns []impl.Cracker
	var lists [][]int
	for _, s := range append([]impl.Settings{{}, center(65, 5)}, sweptSettings...) {
		for _, ranges := range [][]impl.Range{nil, spans(0, 5, 4, 4, -1000, 1000), spans(3, 8, 3, 8, 2, 3), spans(0, 5, 8, 3)} {
			for _, values := range [][]int{c.Values, c.Rows} {
				x, answers, costs := impl.RunQueries(values, s, ranges)
				columns, lists = append(columns, x), append(append(lists, answers...), costs)
				impl.IsWithinBound(values, s, ranges)
			}
		}
	}
	impl.WorstQuery(c.Values)
	impl.WorstQuery(c.Rows)
	return columns, lists
}

func TestQueryArgumentsStay(t *testing.T) { checkArgumentsStay(t, queried) }

func TestAnswersOfQueriesAreNewMemory(t *testing.T) { checkNewMemory(t, queried) }

// TestListsOfQueriesAreApart changes one list of an answer at a time, up to its capacity.
func TestListsOfQueriesAreApart(t *testing.T) {
	for _, values := range [][]int{nil, {7}, eight, spread(64), repeated(5, 5)} {
		for _, s := range sweptSettings {
			ranges := spans(-1000, 1000, 0, 5, 4, 4, 3, 8, 3, 8)
			want := runQueries(values, s, ranges)
			c, answers, costs := impl.RunQueries(values, s, ranges)
			for i, l := range answers {
				fill(l, 789)
				if !impl.EqualCrackers(c, want.c) || !sameLists(answers[i+1:], want.answers[i+1:]) || !slices.Equal(costs, want.costs) {
					t.Errorf("after a change of answer %d, there are %v, %d, %d", i, c, answers, costs)
				}
			}
			fill(costs, 456)
			if !impl.EqualCrackers(c, want.c) {
				t.Errorf("after a change of the costs, the column is %v", c)
			}
			c, answers, costs = impl.RunQueries(values, s, ranges)
			fillColumn(c)
			fill(costs, 456)
			if !sameLists(answers, want.answers) {
				t.Errorf("after a change of the column and the costs, the answers are %d", answers)
			}
		}
	}
}

// TestRangesStay gives ranges with marked capacity behind them.
func TestRangesStay(t *testing.T) {
	for _, list := range [][]impl.Range{nil, spans(3, 8), spans(5, 8, 3, 4, 5, 8), spans(0, 5, 8, 3), pairs(), nested()} {
		for _, s := range append([]impl.Settings{{}}, sweptSettings...) {
			long := append(slices.Clone(list), spans(777, 888, 555, 444)...)
			ranges := long[:len(list)]
			before := slices.Clone(long)
			impl.IsWithinBound(eight, s, ranges)
			c, answers, costs := impl.RunQueries(eight, s, ranges)
			fillColumn(c)
			fill(costs, 456)
			for _, l := range answers {
				fill(l, 789)
			}
			if !slices.Equal(long, before) {
				t.Errorf("the ranges have become %v, they were %v", long, before)
			}
		}
	}
}
