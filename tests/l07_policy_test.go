package tests

import (
	"math"
	"math/big"
	"reflect"
	"slices"
	"testing"

	"loop.example/g01984/impl"
)

// Promise 4: every answer is that of a full scan, whatever policy, history and order of queries led to it.

func settings(policy, threshold, seed int) impl.Settings {
	return impl.Settings{Policy: policy, Threshold: threshold, Seed: seed}
}

func plain(threshold, seed int) impl.Settings  { return settings(0, threshold, seed) }
func center(threshold, seed int) impl.Settings { return settings(1, threshold, seed) }
func random(threshold, seed int) impl.Settings { return settings(2, threshold, seed) }

var (
	validSettings = map[string]impl.Settings{
		"plain":                        plain(4, 0),
		"center":                       center(2, 5),
		"random":                       random(2, 5),
		"plain, a threshold of 1":      plain(1, 3),
		"center, a threshold of 1":     center(1, 0),
		"random, a threshold of 1":     random(1, 0),
		"plain, a threshold of 64":     plain(64, 3),
		"center, a threshold of 64":    center(64, 3),
		"random, a threshold of 64":    random(64, 3),
		"random, a threshold of 63":    random(63, 9999),
		"plain, the greatest seed":     plain(2, 10006),
		"center, the greatest seed":    center(3, 10006),
		"random, the greatest seed":    random(3, 10006),
		"random, the seed below that":  random(5, 10005),
		"random, all at the limits":    random(64, 10006),
		"plain, all at the low limits": plain(1, 0),
	}

	invalidSettings = map[string]impl.Settings{
		"the zero value":                    {},
		"a policy of -1":                    settings(-1, 2, 5),
		"a policy of 3":                     settings(3, 2, 5),
		"a policy of 4":                     settings(4, 2, 5),
		"the least int as a policy":         settings(math.MinInt, 2, 5),
		"the greatest int as a policy":      settings(math.MaxInt, 2, 5),
		"plain, a threshold of 0":           plain(0, 5),
		"center, a threshold of 0":          center(0, 5),
		"random, a threshold of 0":          random(0, 5),
		"a threshold of -1":                 center(-1, 5),
		"plain, a threshold of 65":          plain(65, 5),
		"center, a threshold of 65":         center(65, 5),
		"random, a threshold of 65":         random(65, 5),
		"the least int as a threshold":      random(math.MinInt, 5),
		"the greatest int as a threshold":   random(math.MaxInt, 5),
		"plain, a seed of -1":               plain(2, -1),
		"center, a seed of -1":              center(2, -1),
		"random, a seed of -1":              random(2, -1),
		"plain, a seed of 10007":            plain(2, 10007),
		"center, a seed of 10007":           center(2, 10007),
		"random, a seed of 10007":           random(2, 10007),
		"the least int as a seed":           random(2, math.MinInt),
		"the greatest int as a seed":        random(2, math.MaxInt),
		"a policy and a threshold":          settings(3, 0, 5),
		"a policy and a seed":               settings(-1, 2, 10007),
		"a threshold and a seed":            random(65, -1),
		"everything":                        settings(-1, 65, 10007),
		"a policy and a threshold in place": settings(5, 2, 2),
	}

	// sweptSettings are those with which the tests below divide and select everything.
	sweptSettings = []impl.Settings{
		plain(1, 5), center(1, 0), center(3, 7), center(64, 7), random(1, 0), random(2, 10006), random(5, 77), random(64, 5),
	}
)

// areSettings has a condition for each one of the document.
func areSettings(s impl.Settings) bool {
	if s.Policy != 0 && s.Policy != 1 && s.Policy != 2 {
		return false
	}
	if s.Threshold < 1 || s.Threshold > 64 {
		return false
	}
	return s.Seed >= 0 && s.Seed <= 10006
}

// nextSeed computes with numbers of any size, whose Mod is never negative.
func nextSeed(seed int) int {
	x, modulus := big.NewInt(int64(seed)), big.NewInt(10007)
	x.Mod(x, modulus)
	x.Mul(x, big.NewInt(1103))
	x.Add(x, big.NewInt(2345))
	return int(x.Mod(x, modulus).Int64())
}

// medianOf counts instead of sorting: the numbers equal to the median take the places from less up to less+equal.
func medianOf(l []int) int {
	if len(l) > 64 {
		return 0
	}
	for _, m := range l {
		less, equal := 0, 0
		for _, n := range l {
			if n < m {
				less++
			}
			if n == m {
				equal++
			}
		}
		if middle := (len(l) - 1) / 2; less <= middle && middle < less+equal {
			return m
		}
	}
	return 0
}

func choosePivot(c impl.Cracker, s impl.Settings, a, b int) (int, impl.Settings) {
	if !isColumn(c) || !areSettings(s) || !(0 <= a && a < b && b <= len(c.Values)) {
		return 0, s
	}
	if s.Policy != 2 {
		return medianOf(c.Values[a:b]), s
	}
	s.Seed = nextSeed(s.Seed)
	return c.Values[a+s.Seed%(b-a)], s
}

// A policyRun is what divisions by a policy lead to, and the values at which they divided, one by one.
type policyRun struct {
	c     impl.Cracker
	s     impl.Settings
	swaps int
	at    []int
}

// crack divides with the reader of chapter 5.
func (x *policyRun) crack(v int) {
	c, l, _ := crackColumn(x.c, v)
	x.c, x.swaps, x.at = c, x.swaps+len(l), append(x.at, v)
}

// crackBy performs the loop of the document as it is written there, with the two conditions one by one.
func (x *policyRun) crackBy(v int) {
	for x.s.Policy != 0 {
		if slices.ContainsFunc(x.c.Pivots, func(p impl.Pivot) bool { return p.Value == v }) {
			break
		}
		from, to := pieceOf(x.c, v)
		if to-from <= x.s.Threshold {
			break
		}
		m, s := choosePivot(x.c, x.s, from, to)
		x.s = s
		x.crack(m)
		x.crack(m + 1)
	}
	x.crack(v)
}

func crackBy(c impl.Cracker, s impl.Settings, v int) policyRun {
	x := policyRun{c: withoutNil(c), s: s}
	if isColumn(c) && areSettings(s) && -1000 <= v && v <= 1000 {
		x.crackBy(v)
	}
	return x
}

func selectBy(c impl.Cracker, s impl.Settings, r impl.Range) policyRun {
	x := policyRun{c: withoutNil(c), s: s}
	if isColumn(c) && areSettings(s) && isSpan(r) {
		x.crackBy(r.From)
		x.crackBy(r.To)
	}
	return x
}

func checkChoosePivot(t *testing.T, c impl.Cracker, s impl.Settings, a, b int) {
	t.Helper()
	want, wantSettings := choosePivot(c, s, a, b)
	if got, next := impl.ChoosePivot(c, s, a, b); got != want || next != wantSettings {
		t.Errorf("ChoosePivot(%v, %v, %d, %d) = %d, %v, want %d, %v", c, s, a, b, got, next, want, wantSettings)
	}
}

// checkCrackWith compares with the functions above, and returns what CrackWith left for the next division.
func checkCrackWith(t *testing.T, c impl.Cracker, s impl.Settings, v int) (impl.Cracker, impl.Settings) {
	t.Helper()
	want := crackBy(c, s, v)
	got, next, n := impl.CrackWith(c, s, v)
	if !impl.EqualCrackers(got, want.c) || next != want.s || n != want.swaps {
		t.Errorf("CrackWith(%v, %v, %d) = %v, %v, %d, want %v, %v, %d", c, s, v, got, next, n, want.c, want.s, want.swaps)
	}
	if len(want.at) == 0 {
		return got, next
	}
	from, to := pieceOf(c, v)
	checkPolicyRun(t, c, got, n, want.at, func(place int) bool { return from <= place && place < to })
	again, last, n := impl.CrackWith(got, next, v)
	if !impl.EqualCrackers(again, got) || last != next || n != 0 {
		t.Errorf("CrackWith(%v, %v, %d), again, = %v, %v, %d", got, next, v, again, last, n)
	}
	return got, next
}

// checkPolicyRun divides at all values one by one, and asks for what the divisions may change: elements where it is allowed, and pivots.
func checkPolicyRun(t *testing.T, before, after impl.Cracker, n int, at []int, allowed func(place int) bool) {
	t.Helper()
	x, count := before, 0
	for _, v := range at {
		next, l, ok := impl.CrackAt(x, v)
		if !ok {
			t.Errorf("%v cannot be divided at %d", x, v)
		}
		x, count = next, count+len(l)
	}
	if !impl.EqualCrackers(after, x) || n != count {
		t.Errorf("%v is divided to %v by %d swaps, but the divisions at %d lead to %v by %d", before, after, n, at, x, count)
	}
	if !isColumn(after) || !slices.Equal(elements(before), elements(after)) {
		t.Errorf("%v is divided to %v, which is not valid or has other elements", before, after)
		return
	}
	for place := range before.Values {
		same := before.Values[place] == after.Values[place] && before.Rows[place] == after.Rows[place]
		if !same && !allowed(place) {
			t.Errorf("%v is divided to %v, which has another element at %d", before, after, place)
		}
	}
	want, got := slices.Clone(at), []int(nil)
	for _, p := range before.Pivots {
		want = append(want, p.Value)
	}
	for _, p := range after.Pivots {
		got = append(got, p.Value)
	}
	slices.Sort(want)
	if !slices.Equal(got, slices.Compact(want)) {
		t.Errorf("%v, divided at %d, has become %v", before, at, after)
	}
}

// checkSelectWith compares with the functions above and a scan, and returns what SelectWith left for the next selection.
func checkSelectWith(t *testing.T, c impl.Cracker, s impl.Settings, r impl.Range) (impl.Cracker, impl.Settings) {
	t.Helper()
	want, wantRows := selectBy(c, s, r), scanColumn(c, r)
	if len(want.at) == 0 {
		wantRows = nil
	}
	got, next, rows, n := impl.SelectWith(c, s, r)
	if !impl.EqualCrackers(got, want.c) || next != want.s || !slices.Equal(rows, wantRows) || n != want.swaps {
		t.Errorf("SelectWith(%v, %v, %v) = %v, %v, %d, %d, want %v, %v, %d, %d", c, s, r, got, next, rows, n, want.c, want.s, wantRows, want.swaps)
	}
	if len(want.at) == 0 {
		return got, next
	}
	first, middle, n1 := impl.CrackWith(c, s, r.From)
	second, last, n2 := impl.CrackWith(first, middle, r.To)
	if !impl.EqualCrackers(got, second) || next != last || n != n1+n2 {
		t.Errorf("SelectWith(%v, %v, %v) = %v, %v, %d, but CrackWith leads to %v, %v, %d", c, s, r, got, next, n, second, last, n1+n2)
	}
	from, to := pieceOf(c, r.From)
	nextFrom, nextTo := pieceOf(first, r.To)
	checkPolicyRun(t, c, got, n, want.at, func(place int) bool {
		return from <= place && place < to || nextFrom <= place && place < nextTo
	})
	again, lastAgain, rowsAgain, n := impl.SelectWith(got, next, r)
	if !impl.EqualCrackers(again, got) || lastAgain != next || !slices.Equal(rowsAgain, rows) || n != 0 {
		t.Errorf("SelectWith(%v, %v, %v), again, = %v, %v, %d, %d", got, next, r, again, lastAgain, rowsAgain, n)
	}
	return got, next
}

func TestPolicyConstants(t *testing.T) {
	if impl.PolicyPlain != 0 || impl.PolicyCenter != 1 || impl.PolicyRandom != 2 {
		t.Errorf("the policies are %d, %d and %d", impl.PolicyPlain, impl.PolicyCenter, impl.PolicyRandom)
	}
}

func TestPolicyName(t *testing.T) {
	for policy, want := range map[int]string{0: "plain", 1: "center", 2: "random", -1: "", 3: "", 4: "", math.MinInt: "", math.MaxInt: ""} {
		if got := impl.PolicyName(policy); got != want {
			t.Errorf("PolicyName(%d) = %q, want %q", policy, got, want)
		}
	}
	for policy := -1100; policy <= 1100; policy++ {
		if got := impl.PolicyName(policy); (got != "") != (0 <= policy && policy <= 2) {
			t.Errorf("PolicyName(%d) = %q", policy, got)
		}
	}
}

func TestIsSettingsExamples(t *testing.T) {
	for name, s := range validSettings {
		if !impl.IsSettings(s) || !areSettings(s) {
			t.Errorf("%s: IsSettings(%v) = false", name, s)
		}
	}
	for name, s := range invalidSettings {
		if impl.IsSettings(s) || areSettings(s) {
			t.Errorf("%s: IsSettings(%v) = true", name, s)
		}
	}
}

func TestIsSettingsOfAllLimits(t *testing.T) {
	policies := []int{math.MinInt, -2, -1, 0, 1, 2, 3, 4, 1000, math.MaxInt}
	thresholds := append([]int{math.MinInt, math.MaxInt, 1000, 10006}, upTo(130)...)
	seeds := []int{math.MinInt, -10007, -2, -1, 0, 1, 64, 65, 5000, 10005, 10006, 10007, 10008, 20000, math.MaxInt}
	check := func(s impl.Settings) {
		if got, want := impl.IsSettings(s), areSettings(s); got != want {
			t.Errorf("IsSettings(%v) = %t", s, got)
		}
	}
	for _, policy := range policies {
		for _, threshold := range append(thresholds, -1, -2, -64) {
			for _, seed := range seeds {
				check(settings(policy, threshold, seed))
			}
		}
	}
	for seed := -11000; seed <= 22000; seed++ {
		check(random(1, seed))
	}
}

func TestNextSeedExamples(t *testing.T) {
	for seed, want := range map[int]int{
		0: 2345, 1: 3448, 2: 4551, 3: 5654, 9: 2265, 10005: 139, 10006: 1242,
		10007: 2345, 10008: 3448, 20014: 2345, 123456789: 6306,
		-1: 1242, -2: 139, -10006: 3448, -10007: 2345, -10008: 1242,
		math.MaxInt: 4376, math.MinInt: 9218, math.MinInt + 1: 314,
	} {
		if got := impl.NextSeed(seed); got != want || got != nextSeed(seed) {
			t.Errorf("NextSeed(%d) = %d, want %d", seed, got, want)
		}
	}
	seed := 0
	for _, want := range []int{2345, 7074, 9514, 8951, 8396, 6658, 981, 3632, 5641, 14} {
		if seed = impl.NextSeed(seed); seed != want {
			t.Fatalf("the next seed is %d, want %d", seed, want)
		}
	}
}

func TestNextSeedOfAllSeeds(t *testing.T) {
	check := func(seed int) {
		if got, want := impl.NextSeed(seed), nextSeed(seed); got != want {
			t.Errorf("NextSeed(%d) = %d, want %d", seed, got, want)
		}
	}
	for seed := -25000; seed <= 25000; seed++ {
		check(seed)
	}
	for i := range 3000 {
		check(math.MaxInt - i*i*i)
		check(math.MinInt + i*i*i)
	}
	// Each seed follows exactly one other.
	var seen [10007]bool
	for seed := range 10007 {
		next := impl.NextSeed(seed)
		if next < 0 || next > 10006 || seen[next] {
			t.Fatalf("NextSeed(%d) = %d", seed, next)
		}
		seen[next] = true
	}
}

func TestMedianOfExamples(t *testing.T) {
	for _, x := range []struct {
		l    []int
		want int
	}{
		{nil, 0},
		{[]int{}, 0},
		{[]int{7}, 7},
		{[]int{-7}, -7},
		{[]int{0}, 0},
		{[]int{1, 2}, 1},
		{[]int{2, 1}, 1},
		{[]int{-1, -2}, -2},
		{[]int{1, 2, 3}, 2},
		{[]int{3, 1, 2}, 2},
		{[]int{2, 3, 1}, 2},
		{[]int{4, 3, 2, 1}, 2},
		{[]int{5, 4, 3, 2, 1}, 3},
		{[]int{6, 5, 4, 3, 2, 1}, 3},
		{[]int{5, 2, 9, 2, 7, 1, 8, 3}, 3},
		{[]int{5, 2, 9, 2, 7, 1, 8}, 5},
		// equal numbers
		{[]int{4, 4}, 4},
		{[]int{4, 4, 4}, 4},
		{[]int{9, 4, 4}, 4},
		{[]int{4, 9, 9}, 9},
		{[]int{9, 4, 9, 4}, 4},
		{[]int{1, 9, 9, 9}, 9},
		{[]int{1, 1, 1, 9}, 1},
		// numbers whose order as texts is another one
		{[]int{10, 9, 100}, 10},
		{[]int{-1, -10, -100}, -10},
		// numbers that no column has
		{[]int{5000, -5000, 2000}, 2000},
		{[]int{math.MaxInt, math.MinInt}, math.MinInt},
		{[]int{math.MaxInt, 0, math.MinInt}, 0},
		{[]int{math.MaxInt, math.MaxInt, math.MinInt}, math.MaxInt},
		{[]int{math.MaxInt}, math.MaxInt},
		{[]int{math.MinInt}, math.MinInt},
		// 63, 64 and 65 numbers
		{upTo(63), 31},
		{upTo(64), 31},
		{upTo(65), 0},
		{upTo(65)[1:], 32},
		{upTo(65)[2:], 33},
		{repeated(64, 7), 7},
		{repeated(65, 7), 0},
		{repeated(100000, 7), 0},
	} {
		if got := impl.MedianOf(x.l); got != x.want || got != medianOf(x.l) {
			t.Errorf("MedianOf(%d) = %d, want %d", x.l, got, x.want)
		}
	}
}

func TestMedianOfAllLists(t *testing.T) {
	check := func(l []int) {
		given := spare(l)
		before := slices.Clone(given[:cap(given)])
		if got, want := impl.MedianOf(given), medianOf(l); got != want {
			t.Errorf("MedianOf(%d) = %d, want %d", l, got, want)
		}
		if !slices.Equal(given[:cap(given)], before) {
			t.Errorf("MedianOf(%d) leaves %d", l, given[:cap(given)])
		}
	}
	everyOrder([]int{math.MinInt, -3, 1, 4, 50, math.MaxInt}, check)
	everyOrder([]int{1, 2, 3, 4, 5}, check)
	everyList([]int{-1, 2, 7}, 7, check)
	for n := range 130 {
		check(spread(n))
		check(upTo(n))
		check(repeated(n, n+1))
		down := spread(n)
		slices.Reverse(down)
		check(down)
	}
}

func TestChoosePivotExamples(t *testing.T) {
	c := impl.NewCracker(eight)
	parts := crackedAt(eight, 5, 8) // 3 2 1 2 [5] 7 5 [8] 8 9
	for _, x := range []struct {
		c    impl.Cracker
		s    impl.Settings
		a, b int
		want int
		seed int
	}{
		{c, plain(2, 5), 0, 8, 3, 5},
		{c, center(2, 5), 0, 8, 3, 5},
		{c, center(64, 0), 0, 8, 3, 0},
		{c, center(1, 10006), 0, 8, 3, 10006},
		{c, random(2, 0), 0, 8, 2, 2345},
		{c, random(2, 5), 0, 8, 7, 7860},
		{c, random(2, 2345), 0, 8, 9, 7074},
		{c, random(64, 10006), 0, 8, 9, 1242},
		{c, random(1, 1), 0, 8, 5, 3448},
		// a part: at the beginning, in the middle, at the end
		{c, center(2, 5), 0, 3, 5, 5},
		{c, center(2, 5), 2, 6, 2, 5},
		{c, center(2, 5), 2, 5, 7, 5},
		{c, center(2, 5), 5, 8, 3, 5},
		{c, plain(2, 5), 5, 8, 3, 5},
		{c, random(2, 0), 0, 3, 9, 2345},
		{c, random(2, 0), 2, 6, 2, 2345},
		{c, random(2, 0), 1, 8, 2, 2345},
		{c, random(2, 5), 5, 8, 1, 7860},
		// one element
		{c, plain(2, 5), 2, 3, 9, 5},
		{c, center(2, 5), 2, 3, 9, 5},
		{c, random(2, 5), 2, 3, 9, 7860},
		{c, random(2, 0), 0, 1, 5, 2345},
		{c, random(2, 0), 7, 8, 3, 2345},
		// pieces, and parts across several
		{parts, center(2, 5), 0, 4, 2, 5},
		{parts, center(2, 5), 4, 6, 5, 5},
		{parts, center(2, 5), 3, 7, 5, 5},
		{parts, random(2, 0), 4, 6, 5, 2345},
		{parts, random(2, 5), 4, 6, 7, 7860},
		{parts, random(2, 0), 3, 8, 2, 2345},
		// equal values, and values below 0
		{impl.NewCracker([]int{5, 5, 5}), center(2, 5), 0, 3, 5, 5},
		{impl.NewCracker([]int{5, 5, 5}), random(2, 5), 0, 3, 5, 7860},
		{impl.NewCracker([]int{-5, 0, -9}), center(2, 5), 0, 3, -5, 5},
		{impl.NewCracker([]int{-5, 0, -9}), center(2, 5), 0, 2, -5, 5},
		{impl.NewCracker([]int{-5, 0, -9}), random(2, 0), 0, 3, -9, 2345},
		{impl.NewCracker([]int{999, -999}), random(2, 0), 0, 2, -999, 2345},
		{impl.NewCracker(upTo(64)), center(2, 5), 0, 64, 31, 5},
		{impl.NewCracker(upTo(64)), random(2, 0), 0, 64, 41, 2345},
	} {
		want := settings(x.s.Policy, x.s.Threshold, x.seed)
		if got, next := impl.ChoosePivot(x.c, x.s, x.a, x.b); got != x.want || next != want {
			t.Errorf("ChoosePivot(%v, %v, %d, %d) = %d, %v, want %d, %v", x.c, x.s, x.a, x.b, got, next, x.want, want)
		}
		checkChoosePivot(t, x.c, x.s, x.a, x.b)
	}
}

// checkNoChoice asks for 0 and the settings unchanged.
func checkNoChoice(t *testing.T, name string, c impl.Cracker, s impl.Settings, a, b int) {
	t.Helper()
	if got, next := impl.ChoosePivot(c, s, a, b); got != 0 || next != s {
		t.Errorf("%s: ChoosePivot(%v, %v, %d, %d) = %d, %v", name, c, s, a, b, got, next)
	}
}

func TestChoicesThatAreNotValid(t *testing.T) {
	c := impl.NewCracker(eight)
	for _, places := range [][2]int{
		{-1, 8}, {-1, 0}, {-1, -1}, {-2, -1}, {0, -1}, {-8, 3}, // below 0
		{0, 0}, {3, 3}, {7, 7}, {8, 8}, // equal
		{1, 0}, {5, 3}, {8, 7}, {8, 0}, {7, -1}, // in the wrong order
		{0, 9}, {7, 9}, {8, 9}, {9, 9}, {9, 10}, {9, 8}, {-1, 9}, // at and beyond the number of values
		{math.MinInt, 8}, {0, math.MinInt}, {math.MinInt, math.MinInt}, {math.MinInt, 0}, {math.MinInt, -1},
		{0, math.MaxInt}, {math.MaxInt, 8}, {math.MaxInt, math.MaxInt}, {math.MinInt, math.MaxInt}, {math.MaxInt, math.MinInt},
	} {
		for name, s := range validSettings {
			checkNoChoice(t, name, c, s, places[0], places[1])
		}
		for name, s := range invalidSettings {
			checkNoChoice(t, name, c, s, places[0], places[1])
		}
	}
	for name, s := range validSettings {
		for _, none := range []impl.Cracker{{}, withoutNil(impl.Cracker{}), cracked(nil, 3, 0)} {
			for _, places := range [][2]int{{0, 0}, {0, 1}, {-1, 0}, {1, 1}} {
				checkNoChoice(t, name, none, s, places[0], places[1])
			}
		}
		for what, spoiled := range invalidColumns {
			for _, places := range [][2]int{{0, len(spoiled.Values)}, {0, 1}, {1, 2}, {0, 0}, {-1, 1}} {
				checkNoChoice(t, name+", "+what, spoiled, s, places[0], places[1])
			}
		}
	}
	for name, s := range invalidSettings {
		checkNoChoice(t, name, c, s, 0, 8)
		checkNoChoice(t, name, c, s, 2, 3)
		for what, spoiled := range invalidColumns {
			checkNoChoice(t, name+", "+what, spoiled, s, 0, 1)
			checkNoChoice(t, name+", "+what, spoiled, s, 3, 1)
		}
	}
}

func TestChoosePivotOfAllColumns(t *testing.T) {
	for _, columns := range []map[string]impl.Cracker{validColumns, invalidColumns} {
		for _, c := range columns {
			n := len(c.Values)
			for _, s := range sweptSettings {
				for _, a := range []int{math.MinInt, -1, 0, 1, n / 2, n - 1, n, n + 1, math.MaxInt} {
					for _, b := range []int{math.MinInt, -1, 0, 1, 2, n / 2, n - 1, n, n + 1, math.MaxInt} {
						checkChoosePivot(t, c, s, a, b)
					}
				}
			}
		}
	}
	// All places of a column, and all places that a seed can choose.
	c := impl.NewCracker(spread(64))
	for a := -1; a <= 65; a++ {
		for b := -1; b <= 65; b++ {
			checkChoosePivot(t, c, center(1, 5), a, b)
			checkChoosePivot(t, c, random(1, a*b%10007+66), a, b)
		}
	}
	for seed := 0; seed <= 10006; seed += 3 {
		checkChoosePivot(t, c, random(1, seed), 0, 64)
		checkChoosePivot(t, c, random(1, seed), 5, 42)
	}
	everyList([]int{-1, 0, 7}, 5, func(values []int) {
		for a := range values {
			for b := a + 1; b <= len(values); b++ {
				checkChoosePivot(t, impl.NewCracker(values), center(1, 0), a, b)
				checkChoosePivot(t, impl.NewCracker(values), random(1, a+b), a, b)
			}
		}
	})
}

// A policyDivision is what CrackWith has to return for a column that was divided before.
type policyDivision struct {
	values []int
	before []int
	s      impl.Settings
	v      int
	want   string
	rows   []int
	seed   int
	swaps  int
}

func TestCrackWithExamples(t *testing.T) {
	ten := []int{4, 9, 1, 7, 3, 8, 2, 6, 5, 0}
	edges := []int{999, -999, 0, 998, -998}
	for name, x := range map[string]policyDivision{
		"plain":                                  {eight, nil, plain(2, 5), 3, "1 2 2 [3] 9 7 5 8 3", []int{5, 1, 3, 2, 4, 0, 6, 7}, 5, 2},
		"plain, whatever the threshold":          {eight, nil, plain(1, 0), 5, "3 2 1 2 [5] 7 9 8 5", []int{7, 1, 5, 3, 4, 2, 6, 0}, 0, 2},
		"center, the median":                     {eight, nil, center(2, 5), 3, "1 2 2 [3] 3 [4] 7 5 8 9", []int{5, 1, 3, 7, 4, 0, 6, 2}, 5, 3},
		"center, greater than the median by one": {eight, nil, center(2, 0), 4, "1 2 2 [3] 3 [4] 7 5 8 9", []int{5, 1, 3, 7, 4, 0, 6, 2}, 0, 3},
		"center, greater by two":                 {eight, nil, center(4, 0), 5, "1 2 2 [3] 3 [4] [5] 7 5 8 9", []int{5, 1, 3, 7, 4, 0, 6, 2}, 0, 3},
		"center, two rounds":                     {eight, nil, center(3, 0), 5, "1 2 2 [3] 3 [4] [5] 5 [7] 7 [8] 8 9", []int{5, 1, 3, 7, 0, 4, 6, 2}, 0, 4},
		"center, the second median":              {eight, nil, center(2, 0), 2, "1 [2] 2 2 [3] 3 [4] 7 5 8 9", []int{5, 1, 3, 7, 4, 0, 6, 2}, 0, 3},
		"center, less than the second median":    {eight, nil, center(2, 0), 1, "[1] 1 [2] 2 2 [3] 3 [4] 7 5 8 9", []int{5, 1, 3, 7, 4, 0, 6, 2}, 0, 3},
		"center, three rounds":                   {ten, nil, center(1, 0), 9, "0 2 1 3 [4] 4 [5] 5 6 [7] 7 [8] 8 [9] 9", []int{9, 6, 2, 4, 0, 8, 7, 3, 5, 1}, 0, 7},
		"center, greater than all":               {eight, nil, center(1, 0), 1000, "1 2 2 [3] 3 [4] 5 [7] 7 [8] 8 [9] 9 [1000]", []int{5, 1, 3, 7, 0, 4, 6, 2}, 0, 4},
		"center, less than all":                  {eight, nil, center(1, 0), -1000, "[-1000] 1 [2] 2 2 [3] 3 [4] 7 5 8 9", []int{5, 1, 3, 7, 4, 0, 6, 2}, 0, 3},
		"center, two elements":                   {[]int{9, 1}, nil, center(1, 0), 5, "[1] 1 [2] [5] 9", []int{1, 0}, 0, 1},
		"center, two elements in order":          {[]int{1, 9}, nil, center(1, 0), 9, "[1] 1 [2] [9] 9", []int{0, 1}, 0, 0},
		"center, behind a pivot":                 {eight, []int{5}, center(2, 0), 8, "3 2 1 2 [5] 5 [7] 7 [8] 8 9", []int{7, 1, 5, 3, 0, 4, 6, 2}, 0, 2},
		"center, before a pivot":                 {eight, []int{5}, center(3, 0), 1, "[1] 1 [2] 2 2 [3] 3 [5] 7 9 8 5", []int{5, 1, 3, 7, 4, 2, 6, 0}, 0, 2},
		"center, between pivots":                 {eight, []int{3, 9}, center(3, 0), 8, "1 2 2 [3] 3 [5] 5 [6] 7 [8] 8 [9] 9", []int{5, 1, 3, 7, 0, 4, 6, 2}, 0, 1},
		"center, a small piece between pivots":   {eight, []int{3, 9}, center(4, 0), 8, "1 2 2 [3] 3 7 5 [8] 8 [9] 9", []int{5, 1, 3, 7, 4, 0, 6, 2}, 0, 0},
		"center, the median is a pivot":          {[]int{5, 5, 5, 7, 1}, []int{5}, center(2, 0), 6, "1 [5] 5 5 5 [6] 7", []int{4, 1, 2, 0, 3}, 0, 1},
		"center, the median is a pivot, beyond":  {[]int{5, 5, 5, 7, 1}, []int{5}, center(2, 0), 7, "1 [5] 5 5 5 [6] [7] 7", []int{4, 1, 2, 0, 3}, 0, 1},
		"center, a pivot behind the median":      {[]int{7, 5, 6, 6, 6}, []int{7}, center(2, 0), 6, "5 [6] 6 6 6 [7] 7", []int{1, 4, 2, 3, 0}, 0, 1},
		"center, before such a median":           {[]int{7, 5, 6, 6, 6}, []int{7}, center(2, 0), 5, "[5] 5 [6] 6 6 6 [7] 7", []int{1, 4, 2, 3, 0}, 0, 1},
		"center, values below 0":                 {[]int{-5, 3, -9, 0, -1, 7}, nil, center(2, 0), -2, "-5 -9 [-2] [-1] -1 [0] 0 3 7", []int{0, 2, 4, 3, 1, 5}, 0, 2},
		"center, 999":                            {edges, nil, center(1, 0), 999, "-998 -999 [0] 0 [1] [998] 998 [999] 999", []int{4, 1, 2, 3, 0}, 0, 1},
		"center, 1000":                           {edges, nil, center(1, 0), 1000, "-998 -999 [0] 0 [1] [998] 998 [999] 999 [1000]", []int{4, 1, 2, 3, 0}, 0, 1},
		"center, -1000":                          {edges, nil, center(1, 0), -1000, "[-1000] [-999] -999 [-998] -998 [0] 0 [1] 998 999", []int{1, 4, 2, 3, 0}, 0, 2},
		"random, seed 0":                         {eight, nil, random(2, 0), 5, "1 [2] 2 2 [3] 3 [4] [5] 7 5 [8] 8 [9] 9", []int{5, 1, 3, 7, 4, 0, 6, 2}, 9514, 3},
		"random, seed 5":                         {eight, nil, random(2, 5), 5, "1 [2] 2 2 [3] 3 [5] 5 [7] 7 [8] 8 9", []int{5, 1, 3, 7, 0, 4, 6, 2}, 5863, 4},
		"random, seed 10006":                     {eight, nil, random(2, 10006), 5, "1 [2] 2 2 [3] 3 [5] 5 [7] 7 [8] 8 [9] 9 [10]", []int{5, 1, 3, 7, 0, 4, 6, 2}, 8473, 4},
		"random, one round":                      {eight, nil, random(4, 5), 8, "5 2 3 2 1 [7] 7 [8] 8 9", []int{0, 1, 7, 3, 5, 4, 6, 2}, 7860, 2},
		"random, the value is chosen at last":    {eight, nil, random(2, 1), 2, "1 [2] 2 2 [3] 3 [5] 5 [6] 9 8 7", []int{5, 1, 3, 7, 0, 2, 6, 4}, 2829, 5},
		"random, three rounds":                   {eight, nil, random(1, 10006), 5, "1 [2] 2 2 [3] 3 [4] [5] 5 [7] 7 [8] 8 [9] 9 [10]", []int{5, 1, 3, 7, 0, 4, 6, 2}, 1526, 4},
		"random, four rounds":                    {eight, nil, random(1, 0), 5, "1 [2] 2 2 [3] 3 [4] [5] 5 [6] 7 [8] 8 [9] 9", []int{5, 1, 3, 7, 0, 4, 6, 2}, 8951, 4},
		"random, less than all":                  {eight, nil, random(1, 5), -1000, "[-1000] 1 [2] 2 2 [3] 3 5 [7] 7 [8] 8 9", []int{5, 1, 3, 7, 0, 4, 6, 2}, 5863, 4},
		"random, greater than all":               {eight, nil, random(1, 5), 1000, "5 2 3 2 1 [7] 7 [8] 8 [9] 9 [10] [1000]", []int{0, 1, 7, 3, 5, 4, 6, 2}, 5863, 2},
		"random, behind a pivot":                 {eight, []int{5}, random(2, 0), 8, "3 2 1 2 [5] 5 [7] 7 [8] 8 [9] 9 [10]", []int{7, 1, 5, 3, 0, 4, 6, 2}, 7074, 2},
		"random, before a pivot":                 {eight, []int{5}, random(2, 7), 1, "[1] 1 [2] 2 2 [3] 3 [5] 7 9 8 5", []int{5, 1, 3, 7, 4, 2, 6, 0}, 59, 2},
		"random, two elements":                   {[]int{9, 1}, nil, random(1, 0), 5, "[1] 1 [2] [5] 9", []int{1, 0}, 2345, 1},
		"random, a small piece":                  {eight, []int{5}, random(4, 7), 1, "[1] 3 2 1 2 [5] 7 9 8 5", []int{7, 1, 5, 3, 4, 2, 6, 0}, 7, 0},
		"plain, no elements":                     {nil, nil, plain(1, 5), 5, "[5]", nil, 5, 0},
		"center, no elements":                    {nil, nil, center(1, 5), 5, "[5]", nil, 5, 0},
		"random, no elements":                    {nil, nil, random(1, 5), 5, "[5]", nil, 5, 0},
		"random, no elements, between pivots":    {nil, []int{3, 7}, random(1, 5), 5, "[3] [5] [7]", nil, 5, 0},
		"random, 1000":                           {edges, nil, random(1, 3), 1000, "-999 [-998] -998 [-997] 0 998 [999] 999 [1000]", []int{1, 4, 2, 3, 0}, 4346, 2},
	} {
		c := crackedAt(x.values, x.before...)
		want := settings(x.s.Policy, x.s.Threshold, x.seed)
		got, next, n := impl.CrackWith(c, x.s, x.v)
		if impl.FormatCracker(got) != x.want || !slices.Equal(got.Rows, x.rows) || next != want || n != x.swaps {
			t.Errorf("%s: CrackWith(%s, %v, %d) = %s in the rows %d, %v, %d, want %s in %d, %v, %d",
				name, impl.FormatCracker(c), x.s, x.v, impl.FormatCracker(got), got.Rows, next, n, x.want, x.rows, want, x.swaps)
		}
		checkCrackWith(t, c, x.s, x.v)
	}
}

// TestCrackWithEqualValues divides a piece of five equal values that is above, at and below the threshold.
func TestCrackWithEqualValues(t *testing.T) {
	small := map[int]string{
		3: "[3] 5 5 5 5 5", 4: "[4] 5 5 5 5 5", 5: "[5] 5 5 5 5 5", 6: "5 5 5 5 5 [6]", 7: "5 5 5 5 5 [7]",
		-1000: "[-1000] 5 5 5 5 5", 1000: "5 5 5 5 5 [1000]",
	}
	large := map[int]string{
		3: "[3] [5] 5 5 5 5 5 [6]", 4: "[4] [5] 5 5 5 5 5 [6]", 5: "[5] 5 5 5 5 5 [6]", 6: "[5] 5 5 5 5 5 [6]", 7: "[5] 5 5 5 5 5 [6] [7]",
		-1000: "[-1000] [5] 5 5 5 5 5 [6]", 1000: "[5] 5 5 5 5 5 [6] [1000]",
	}
	c := impl.NewCracker(repeated(5, 5))
	for _, policy := range upTo(3) {
		for _, threshold := range []int{1, 2, 4, 5, 6, 63, 64} {
			for _, seed := range []int{0, 5, 10006} {
				s, want := settings(policy, threshold, seed), small
				next := s
				if threshold < 5 && policy != 0 {
					want = large
				}
				if threshold < 5 && policy == 2 {
					next.Seed = nextSeed(seed)
				}
				for v, text := range want {
					got, left, n := impl.CrackWith(c, s, v)
					if impl.FormatCracker(got) != text || !slices.Equal(got.Rows, upTo(5)) || left != next || n != 0 {
						t.Errorf("CrackWith(%v, %v, %d) = %v, %v, %d, want %s, %v", c, s, v, got, left, n, text, next)
					}
					checkCrackWith(t, c, s, v)
				}
			}
		}
	}
}

// TestCrackWithEqualValuesBetweenPivots divides the piece of 5 5 5 between all pivots that leave it whole.
func TestCrackWithEqualValuesBetweenPivots(t *testing.T) {
	values := []int{9, 5, 1, 5, 5}
	for _, before := range [][]int{{2, 8}, {4, 7}, {5, 7}, {5, 8}, {4, 6}, {3, 6}, {5, 6}, {5, 9}, {2, 6}, {-7, 4, 7, 12}, {4, 3, 6, 7}} {
		c := crackedAt(values, before...)
		for _, policy := range upTo(3) {
			for threshold := 1; threshold <= 4; threshold++ {
				for v := 1; v <= 10; v++ {
					got, next := checkCrackWith(t, c, settings(policy, threshold, 5), v)
					// Only a large piece of a policy that divides first gets both pivots around its values.
					_, is5 := impl.FindPivot(got, 5)
					_, is6 := impl.FindPivot(got, 6)
					from, to := pieceOf(c, v)
					if to-from == 3 && from == 1 {
						divided := policy != 0 && threshold < 3
						want5 := divided || v == 5 || slices.Contains(before, 5)
						want6 := divided || v == 6 || slices.Contains(before, 6)
						if is5 != want5 || is6 != want6 || (next.Seed != 5) != (divided && policy == 2) {
							t.Errorf("%v, divided by %v at %d, is %v, with %v", c, settings(policy, threshold, 5), v, got, next)
						}
					}
				}
			}
		}
	}
	for name, c := range map[string]impl.Cracker{
		"64 equal values":                impl.NewCracker(repeated(64, 7)),
		"64 equal values behind a pivot": crackedAt(repeated(64, 7), 7),
		"64 equal values before a pivot": crackedAt(repeated(64, 7), 8),
		"64 least values":                impl.NewCracker(repeated(64, -999)),
		"64 greatest values":             impl.NewCracker(repeated(64, 999)),
	} {
		for _, policy := range upTo(3) {
			for _, threshold := range []int{1, 32, 63, 64} {
				for _, v := range []int{-1000, -999, -998, 6, 7, 8, 9, 998, 999, 1000} {
					s := settings(policy, threshold, 5)
					if _, _, n := impl.CrackWith(c, s, v); n != 0 {
						t.Errorf("%s: CrackWith(%v, %d) has %d swaps", name, s, v, n)
					}
					checkCrackWith(t, c, s, v)
				}
			}
		}
	}
}

// TestCrackWithPiecesOfTheThreshold divides pieces with exactly the threshold's number of elements, and one more.
func TestCrackWithPiecesOfTheThreshold(t *testing.T) {
	for threshold := 1; threshold <= 64; threshold++ {
		for _, policy := range []int{1, 2} {
			s := settings(policy, threshold, 5)
			least := impl.NewCracker(upTo(threshold))
			got, next, _ := impl.CrackWith(least, s, 500)
			if len(got.Pivots) != 1 || next != s {
				t.Errorf("%d elements, divided by %v at 500, are %v, with %v", threshold, s, got, next)
			}
			checkCrackWith(t, least, s, threshold/2)
			// With pivots around it, the piece is smaller than the column.
			between := crackedAt(upTo(min(threshold+2, 64)), 1, threshold+1)
			checkCrackWith(t, between, s, 1+threshold/3)
			if threshold == 64 {
				continue
			}
			more := impl.NewCracker(upTo(threshold + 1))
			got, next, _ = impl.CrackWith(more, s, 500)
			if len(got.Pivots) != 3 || (next.Seed == nextSeed(5)) != (policy == 2) {
				t.Errorf("%d elements, divided by %v at 500, are %v, with %v", threshold+1, s, got, next)
			}
			for v := -1; v <= threshold+1; v++ {
				checkCrackWith(t, more, s, v)
			}
		}
	}
}

// TestCrackWithLeavesSmallPieces looks only at the divided column: what was large before the last division has become a pivot by a choice.
func TestCrackWithLeavesSmallPieces(t *testing.T) {
	for _, values := range [][]int{spread(64), upTo(64), spread(33), eight} {
		for threshold := 1; threshold <= 64; threshold++ {
			for _, v := range []int{-999, -321, 0, 5, 6, 17, 444, 999} {
				for _, s := range []impl.Settings{center(threshold, 5), random(threshold, 5)} {
					got, _, _ := impl.CrackWith(impl.NewCracker(values), s, v)
					from, _ := pieceOf(got, v-1)
					_, to := pieceOf(got, v+1)
					_, isChosen := impl.FindPivot(got, v+1)
					_, isBehindChosen := impl.FindPivot(got, v-1)
					if to-from > threshold && !isChosen && !isBehindChosen {
						t.Errorf("%v, divided at %d, has divided the elements from %d to %d in %v", s, v, from, to, got)
					}
				}
			}
		}
	}
}

func TestCrackWithPivotsThatAreThere(t *testing.T) {
	for name, c := range validColumns {
		for i, p := range c.Pivots {
			if len(c.Pivots) > 100 && i%50 != 0 {
				continue
			}
			for _, s := range validSettings {
				if got, next, n := impl.CrackWith(c, s, p.Value); !impl.EqualCrackers(got, c) || next != s || n != 0 {
					t.Errorf("%s: CrackWith(%v, %d) = %v, %v, %d", name, s, p.Value, got, next, n)
				}
			}
		}
	}
	// The piece behind a pivot is large, but no piece of the wanted value.
	c := crackedAt(upTo(64), 0)
	for _, s := range validSettings {
		if got, next, n := impl.CrackWith(c, s, 0); !impl.EqualCrackers(got, c) || next != s || n != 0 {
			t.Errorf("CrackWith(%v, 0) = %v, %v, %d", s, got, next, n)
		}
	}
}

// checkNoCrack asks for the column and the settings unchanged, and 0.
func checkNoCrack(t *testing.T, name string, c impl.Cracker, s impl.Settings, v int) {
	t.Helper()
	if got, next, n := impl.CrackWith(c, s, v); !impl.EqualCrackers(got, c) || next != s || n != 0 {
		t.Errorf("%s: CrackWith(%v, %v, %d) = %v, %v, %d", name, c, s, v, got, next, n)
	}
}

func TestCrackWithLimits(t *testing.T) {
	for name, c := range validColumns {
		for what, s := range validSettings {
			for _, v := range []int{-1001, 1001, -1002, 1002, 5000, math.MinInt, math.MaxInt} {
				checkNoCrack(t, name+", "+what, c, s, v)
			}
			for _, v := range []int{-1000, 1000} {
				if got, _, _ := impl.CrackWith(c, s, v); !slices.ContainsFunc(got.Pivots, func(p impl.Pivot) bool { return p.Value == v }) {
					t.Errorf("%s, %s: CrackWith at %d = %v", name, what, v, got)
				}
			}
		}
	}
}

func TestDivisionsByPolicyThatAreNotValid(t *testing.T) {
	values := []int{math.MinInt, -1001, -1000, 0, 3, 5, 1000, 1001, math.MaxInt}
	for what, s := range invalidSettings {
		for _, v := range values {
			for name, c := range validColumns {
				checkNoCrack(t, name+", "+what, c, s, v)
			}
			for name, c := range invalidColumns {
				checkNoCrack(t, name+", "+what, c, s, v)
			}
		}
		// The wanted value is a pivot already, which does not make the settings valid.
		checkNoCrack(t, what, crackedAt(eight, 3), s, 3)
	}
	for name, c := range invalidColumns {
		for what, s := range validSettings {
			for _, v := range values {
				checkNoCrack(t, name+", "+what, c, s, v)
			}
			for i, p := range c.Pivots {
				if i < 5 {
					checkNoCrack(t, name+", "+what, c, s, p.Value)
				}
			}
		}
	}
}

func TestCrackWithOfAllColumns(t *testing.T) {
	for _, columns := range []map[string]impl.Cracker{validColumns, invalidColumns} {
		for _, c := range columns {
			// Validating so many pivots again for every value would take long.
			if len(c.Pivots) > 100 {
				continue
			}
			values := []int{-1001, -1000, -999, -10, -1, 0, 1, 2, 10, 999, 1000, 1001}
			for i := 0; i < len(c.Values); i += len(c.Values)/5 + 1 {
				values = append(values, c.Values[i]-1, c.Values[i], c.Values[i]+1)
			}
			for i := 0; i < len(c.Pivots); i += len(c.Pivots)/3 + 1 {
				values = append(values, c.Pivots[i].Value-1, c.Pivots[i].Value+1)
			}
			slices.Sort(values)
			for _, v := range slices.Compact(values) {
				for _, s := range sweptSettings {
					checkCrackWith(t, c, s, v)
				}
			}
		}
	}
}

// smallSettings are all settings that lead to different divisions of a few elements, for a few seeds.
func smallSettings() []impl.Settings {
	l := []impl.Settings{plain(1, 5)}
	for threshold := 1; threshold <= 4; threshold++ {
		l = append(l, center(threshold, 5))
		for seed := range 3 {
			l = append(l, random(threshold, seed))
		}
	}
	return l
}

// TestEverySmallDivisionByPolicy divides every small column twice, so that the second division meets the pivots of the first one.
func TestEverySmallDivisionByPolicy(t *testing.T) {
	everyList([]int{0, 1, 2}, 4, func(values []int) {
		for _, s := range smallSettings() {
			for v := -1; v <= 3; v++ {
				once, next := checkCrackWith(t, impl.NewCracker(values), s, v)
				for w := -1; w <= 3; w++ {
					checkCrackWith(t, once, next, w)
				}
			}
		}
	})
	everyList([]int{0, 1, 2}, 3, func(values []int) {
		everyPivots([]int{0, 1, 2, 3}, []int{0, 1, 2, 3}, 2, func(l []impl.Pivot) {
			c := impl.Cracker{Values: values, Rows: upTo(len(values)), Pivots: l}
			slices.Reverse(c.Rows)
			for _, s := range []impl.Settings{plain(1, 5), center(1, 5), center(2, 5), random(1, 0), random(1, 1), random(2, 5)} {
				for v := -1; v <= 4; v++ {
					checkCrackWith(t, c, s, v)
				}
			}
		})
	})
}

// TestSeedsOfDivisions follows the seed through divisions that each choose once, twice or not at all.
func TestSeedsOfDivisions(t *testing.T) {
	c, s := impl.NewCracker([]int{4, 9, 1, 7, 3, 8, 2, 6, 5, 0}), random(2, 0)
	used := 0
	for _, v := range []int{5, 1000, -1000, 2, 8, 5, 3, 4, 9, 0, 7} {
		want := crackBy(c, s, v)
		got, next, _ := impl.CrackWith(c, s, v)
		// Every choice is made for a pair of divisions; the last division needs none.
		chosen := (len(want.at) - 1) / 2
		seed := s.Seed
		for range chosen {
			seed = nextSeed(seed)
		}
		if next != random(2, seed) {
			t.Errorf("CrackWith(%v, %v, %d) leaves %v, want the seed %d of %d choices", c, s, v, next, seed, chosen)
		}
		c, s, used = got, next, used+chosen
	}
	if used < 3 {
		t.Errorf("there were only %d choices", used)
	}
	for seed := 0; seed <= 10006; seed += 101 {
		for _, s := range []impl.Settings{plain(1, seed), center(1, seed)} {
			for _, v := range []int{-1000, 5, 1000} {
				if _, next, _ := impl.CrackWith(impl.NewCracker(eight), s, v); next != s {
					t.Errorf("CrackWith by %v at %d leaves %v", s, v, next)
				}
			}
		}
		checkCrackWith(t, impl.NewCracker(eight), random(1, seed), 5)
		checkCrackWith(t, impl.NewCracker(spread(64)), random(3, seed), 5)
	}
}

// A policySelection is what SelectWith has to return for a column that was divided before.
type policySelection struct {
	values []int
	before []int
	s      impl.Settings
	r      impl.Range
	want   string
	seed   int
	rows   []int
	swaps  int
}

func TestSelectWithExamples(t *testing.T) {
	five, negative := repeated(5, 5), []int{-5, 3, -9, 0, -1, 7}
	for name, x := range map[string]policySelection{
		"plain":                               {eight, nil, plain(2, 5), span(3, 8), "1 2 2 [3] 3 7 5 [8] 8 9", 5, []int{0, 4, 7}, 3},
		"plain, an empty range":               {eight, nil, plain(2, 5), span(4, 4), "3 2 1 2 [4] 7 9 8 5", 5, nil, 2},
		"plain, everything":                   {eight, nil, plain(2, 5), span(-1000, 1000), "[-1000] 5 2 9 2 7 1 8 3 [1000]", 5, upTo(8), 0},
		"plain, From is a pivot":              {eight, []int{3}, plain(1, 5), span(3, 8), "1 2 2 [3] 3 7 5 [8] 8 9", 5, []int{0, 4, 7}, 1},
		"plain, equal values":                 {five, nil, plain(4, 5), span(5, 6), "[5] 5 5 5 5 5 [6]", 5, upTo(5), 0},
		"plain, around equal values":          {five, nil, plain(4, 5), span(4, 7), "[4] 5 5 5 5 5 [7]", 5, upTo(5), 0},
		"plain, values below 0":               {negative, nil, plain(2, 5), span(-6, 0), "-9 [-6] -1 -5 [0] 0 3 7", 5, []int{0, 4}, 2},
		"center":                              {eight, nil, center(2, 5), span(3, 8), "1 2 2 [3] 3 [4] 5 [7] 7 [8] 8 9", 5, []int{0, 4, 7}, 4},
		"center, an empty range":              {eight, nil, center(2, 5), span(4, 4), "1 2 2 [3] 3 [4] 7 5 8 9", 5, nil, 3},
		"center, everything":                  {eight, nil, center(2, 5), span(-1000, 1000), "[-1000] 1 [2] 2 2 [3] 3 [4] 5 [7] 7 [8] 8 9 [1000]", 5, upTo(8), 4},
		"center, nothing between two values":  {eight, nil, center(2, 5), span(4, 5), "1 2 2 [3] 3 [4] [5] 5 [7] 7 [8] 8 9", 5, nil, 4},
		"center, one element":                 {eight, nil, center(1, 5), span(7, 8), "1 2 2 [3] 3 [4] 5 [7] 7 [8] 8 9", 5, []int{4}, 4},
		"center, a piece of the threshold":    {eight, nil, center(8, 5), span(2, 7), "1 [2] 2 3 2 5 [7] 7 8 9", 5, []int{0, 1, 3, 7}, 3},
		"center, one element more":            {eight, nil, center(7, 5), span(2, 7), "1 [2] 2 2 [3] 3 [4] 5 [7] 7 8 9", 5, []int{0, 1, 3, 7}, 4},
		"center, both ends are pivots":        {eight, []int{3, 8}, center(1, 5), span(3, 8), "1 2 2 [3] 3 7 5 [8] 8 9", 5, []int{0, 4, 7}, 0},
		"center, From is a pivot":             {eight, []int{3}, center(1, 5), span(3, 8), "1 2 2 [3] 3 5 [7] 7 [8] 8 9", 5, []int{0, 4, 7}, 2},
		"center, To is a pivot":               {eight, []int{8}, center(1, 5), span(3, 8), "1 [2] 2 2 [3] 3 7 5 [8] 8 9", 5, []int{0, 4, 7}, 2},
		"center, no elements":                 {nil, nil, center(1, 5), span(3, 8), "[3] [8]", 5, nil, 0},
		"center, no elements, around a pivot": {nil, []int{5}, center(1, 5), span(3, 8), "[3] [5] [8]", 5, nil, 0},
		"center, equal values":                {five, nil, center(4, 5), span(5, 6), "[5] 5 5 5 5 5 [6]", 5, upTo(5), 0},
		"center, less than equal values":      {five, nil, center(4, 5), span(4, 5), "[4] [5] 5 5 5 5 5 [6]", 5, nil, 0},
		"center, greater than equal values":   {five, nil, center(4, 5), span(6, 7), "[5] 5 5 5 5 5 [6] [7]", 5, nil, 0},
		"center, around equal values":         {five, nil, center(4, 5), span(4, 7), "[4] [5] 5 5 5 5 5 [6] [7]", 5, upTo(5), 0},
		"center, values below 0":              {negative, nil, center(2, 5), span(-6, 0), "-9 [-6] -5 [-1] -1 [0] 0 3 7", 5, []int{0, 4}, 3},
		"random":                              {eight, nil, random(2, 5), span(3, 8), "1 [2] 2 2 [3] 3 5 [7] 7 [8] 8 9", 5863, []int{0, 4, 7}, 4},
		"random, an empty range":              {eight, nil, random(2, 5), span(4, 4), "1 [2] 2 2 [3] 3 [4] 5 [7] 7 [8] 8 9", 5863, nil, 4},
		"random, everything":                  {eight, nil, random(2, 5), span(-1000, 1000), "[-1000] 1 [2] 2 2 [3] 3 5 [7] 7 [8] 8 9 [1000]", 5863, upTo(8), 4},
		"random, nothing between two values":  {eight, nil, random(2, 5), span(4, 5), "1 [2] 2 2 [3] 3 [4] [5] 5 [7] 7 [8] 8 9", 5863, nil, 4},
		"random, one element":                 {eight, nil, random(1, 5), span(7, 8), "5 2 3 2 1 [7] 7 [8] 8 9", 7860, []int{4}, 2},
		"random, a piece of the threshold":    {eight, nil, random(8, 5), span(2, 7), "1 [2] 2 3 2 5 [7] 7 8 9", 5, []int{0, 1, 3, 7}, 3},
		"random, one element more":            {eight, nil, random(7, 5), span(2, 7), "1 [2] 2 3 2 5 [7] 7 [8] 8 9", 7860, []int{0, 1, 3, 7}, 3},
		"random, both ends are pivots":        {eight, []int{3, 8}, random(1, 5), span(3, 8), "1 2 2 [3] 3 7 5 [8] 8 9", 5, []int{0, 4, 7}, 0},
		"random, From is a pivot":             {eight, []int{3}, random(1, 5), span(3, 8), "1 2 2 [3] 3 7 5 [8] 8 [9] 9 [10]", 5863, []int{0, 4, 7}, 1},
		"random, To is a pivot":               {eight, []int{8}, random(1, 5), span(3, 8), "1 [2] 2 2 [3] 3 [5] 5 [6] 7 [8] 8 9", 5863, []int{0, 4, 7}, 3},
		"random, no elements":                 {nil, nil, random(1, 5), span(3, 8), "[3] [8]", 5, nil, 0},
		"random, equal values":                {five, nil, random(4, 5), span(5, 6), "[5] 5 5 5 5 5 [6]", 7860, upTo(5), 0},
		"random, less than equal values":      {five, nil, random(4, 5), span(4, 5), "[4] [5] 5 5 5 5 5 [6]", 7860, nil, 0},
		"random, greater than equal values":   {five, nil, random(4, 5), span(6, 7), "[5] 5 5 5 5 5 [6] [7]", 7860, nil, 0},
		"random, choices for both ends":       {negative, nil, random(2, 5), span(-6, 0), "-9 [-6] [-5] -5 [-4] [-1] -1 [0] 0 3 [7] 7 [8]", 4712, []int{0, 4}, 3},
	} {
		c := crackedAt(x.values, x.before...)
		want := settings(x.s.Policy, x.s.Threshold, x.seed)
		got, next, rows, n := impl.SelectWith(c, x.s, x.r)
		if impl.FormatCracker(got) != x.want || next != want || !slices.Equal(rows, x.rows) || n != x.swaps {
			t.Errorf("%s: SelectWith(%s, %v, %v) = %s, %v, %d, %d, want %s, %v, %d, %d",
				name, impl.FormatCracker(c), x.s, x.r, impl.FormatCracker(got), next, rows, n, x.want, want, x.rows, x.swaps)
		}
		checkSelectWith(t, c, x.s, x.r)
	}
}

// checkNoSelectWith asks for the column and the settings unchanged, no rows and 0.
func checkNoSelectWith(t *testing.T, name string, c impl.Cracker, s impl.Settings, r impl.Range) {
	t.Helper()
	if got, next, rows, n := impl.SelectWith(c, s, r); !impl.EqualCrackers(got, c) || next != s || len(rows) != 0 || n != 0 {
		t.Errorf("%s: SelectWith(%v, %v, %v) = %v, %v, %d, %d", name, c, s, r, got, next, rows, n)
	}
}

func TestSelectionsByPolicyThatAreNotValid(t *testing.T) {
	columns := map[string]impl.Cracker{
		"no elements": {}, "one piece": impl.NewCracker(eight), "several pieces": crackedAt(eight, 3, 8), "the limits as pivots": crackedAt(eight, -1000, 1000),
	}
	for what, r := range invalidRanges {
		for name, c := range columns {
			for with, s := range validSettings {
				checkNoSelectWith(t, name+", "+with+", "+what, c, s, r)
			}
			for with, s := range invalidSettings {
				checkNoSelectWith(t, name+", "+with+", "+what, c, s, r)
			}
		}
		for name, c := range invalidColumns {
			checkNoSelectWith(t, name+", "+what, c, random(2, 5), r)
			for with, s := range invalidSettings {
				checkNoSelectWith(t, name+", "+with+", "+what, c, s, r)
			}
		}
	}
	for what, r := range validRanges {
		for name, c := range invalidColumns {
			for with, s := range validSettings {
				checkNoSelectWith(t, name+", "+with+", "+what, c, s, r)
			}
			checkNoSelectWith(t, name+", "+what, c, random(0, 5), r)
		}
		for with, s := range invalidSettings {
			for name, c := range columns {
				checkNoSelectWith(t, name+", "+with+", "+what, c, s, r)
			}
		}
	}
	// Both ends are pivots already, which makes neither the settings nor the range valid.
	c := crackedAt(eight, 3, 8)
	checkNoSelectWith(t, "both pivots", c, center(0, 5), span(3, 8))
	checkNoSelectWith(t, "both pivots, the wrong way around", c, center(2, 5), span(8, 3))
}

func TestSelectWithOfAllColumns(t *testing.T) {
	for _, columns := range []map[string]impl.Cracker{validColumns, invalidColumns} {
		for _, c := range columns {
			// Validating so many pivots again for every range would take long.
			if len(c.Pivots) > 100 {
				continue
			}
			ranges := []impl.Range{span(-1000, 1000), span(-1000, 0), span(2, 5), span(4, 4), span(3, 8), span(8, 3), span(-1001, 5), span(5, 1001)}
			for i := 0; i < len(c.Values); i += len(c.Values)/2 + 1 {
				ranges = append(ranges, span(c.Values[i], c.Values[i]+1), span(c.Values[i]-1, c.Values[i]), span(c.Values[i], 1000))
			}
			for _, r := range ranges {
				for _, s := range sweptSettings {
					checkSelectWith(t, c, s, r)
				}
			}
		}
	}
}

// TestEverySmallSelectionByPolicy selects from every small column twice, so that the second range meets the pivots of the first one.
func TestEverySmallSelectionByPolicy(t *testing.T) {
	some := []impl.Settings{plain(1, 5), center(1, 5), center(2, 5), random(1, 0), random(1, 1), random(2, 2), random(3, 5)}
	everyList([]int{0, 1, 2}, 4, func(values []int) {
		for i, s := range some {
			for from := -1; from <= 3; from++ {
				for to := from - 1; to <= 3; to++ {
					once, next := checkSelectWith(t, impl.NewCracker(values), s, span(from, to))
					checkSelectWith(t, once, next, span(0, 2))
					// Another policy goes on with what this one has left.
					checkSelectWith(t, once, some[(i+from+5)%len(some)], span(to-1, to+1))
				}
			}
		}
	})
}

// A policyHistory asks for ranges one after another, with settings that may differ from query to query.
type policyHistory struct {
	values []int
	ranges []impl.Range
	with   []impl.Settings
}

// run asks for all ranges twice; the seed of a query is that which the one before has left.
func (x policyHistory) run(t *testing.T) impl.Cracker {
	t.Helper()
	c, seed := impl.NewCracker(x.values), x.with[0].Seed
	for i, r := range append(slices.Clone(x.ranges), x.ranges...) {
		s := x.with[i%len(x.with)]
		s.Seed = seed
		_, _, rows, n := impl.SelectWith(c, s, r)
		if !slices.Equal(rows, scanValues(x.values, r)) || !slices.Equal(rows, impl.ScanRange(x.values, r)) {
			t.Errorf("SelectWith(%v, %v, %v) selects %d, but the values %d have %d", c, s, r, rows, x.values, scanValues(x.values, r))
		}
		next, left := checkSelectWith(t, c, s, r)
		if i >= len(x.ranges) && (n != 0 || left != s || !impl.EqualCrackers(next, c)) {
			t.Errorf("%v, selected again by %v with %v, is %v after %d swaps, with %v", c, r, s, next, n, left)
		}
		c, seed = next, left.Seed
	}
	if !slices.Equal(elements(c), elements(impl.NewCracker(x.values))) {
		t.Errorf("after %v, the column is %v, which has not the elements %d", x.ranges, c, x.values)
	}
	return c
}

// scanValues looks at all values as they were given.
func scanValues(values []int, r impl.Range) []int {
	var rows []int
	for row, v := range values {
		if v >= r.From && v < r.To {
			rows = append(rows, row)
		}
	}
	return rows
}

func TestSelectionsByPolicyInEveryOrder(t *testing.T) {
	ranges := []impl.Range{span(3, 8), span(2, 5), span(-1000, 1000), span(5, 5), span(8, 9)}
	mixed := []impl.Settings{random(1, 5), plain(4, 0), center(2, 0), random(3, 0), center(1, 0)}
	everyOrder(upTo(len(ranges)), func(order []int) {
		var l []impl.Range
		var with []impl.Settings
		for _, i := range order {
			l = append(l, ranges[i])
			with = append(with, mixed[i])
		}
		for _, s := range sweptSettings {
			policyHistory{eight, l, []impl.Settings{s}}.run(t)
		}
		policyHistory{eight, l, mixed}.run(t)
		policyHistory{eight, ranges, with}.run(t)
		policyHistory{nil, l, with}.run(t)
		policyHistory{repeated(5, 5), l, with}.run(t)
	})
}

func TestSelectionsByPolicyOfColumnsThatWereDivided(t *testing.T) {
	ranges := []impl.Range{span(3, 8), span(5, 9), span(1, 2), span(4, 4), span(6, 7)}
	everyOrder([]int{-1000, 3, 5, 8}, func(order []int) {
		for _, s := range sweptSettings {
			c := crackedAt(eight, order...)
			for _, r := range ranges {
				next, left := checkSelectWith(t, c, s, r)
				c, s = next, left
			}
		}
	})
}

func TestManySelectionsByPolicy(t *testing.T) {
	for _, values := range [][]int{spread(64), spread(63), spread(9), upTo(64), repeated(64, 7), append(repeated(40, 0), spread(24)...), nil, {999, -999}} {
		var ranges []impl.Range
		for i := range 25 {
			from := (i*577+i*i*31)%2001 - 1000
			ranges = append(ranges, span(from, min(1000, from+i*i%401)))
		}
		for _, v := range values[:len(values)/8] {
			ranges = append(ranges, span(v, v+1), span(-1000, v), span(v, 1000))
		}
		backward := slices.Clone(ranges)
		slices.Reverse(backward)
		for _, s := range []impl.Settings{plain(4, 0), center(1, 0), center(4, 0), center(16, 0), random(1, 0), random(4, 99), random(16, 10006)} {
			policyHistory{values, ranges, []impl.Settings{s}}.run(t)
			policyHistory{values, backward, []impl.Settings{s}}.run(t)
		}
		mixed := []impl.Settings{center(8, 0), random(2, 3), plain(1, 0), random(32, 3), center(3, 0), random(8, 1), center(64, 0)}
		policyHistory{values, ranges, mixed}.run(t)
		policyHistory{values, backward, mixed}.run(t)
	}
}

// TestSelectionsByPolicyKeepNoState asks for the same selections between others.
func TestSelectionsByPolicyKeepNoState(t *testing.T) {
	c := impl.NewCracker(spread(64))
	var first []policyRun
	for round := range 3 {
		for i, s := range sweptSettings {
			got, next, _, n := impl.SelectWith(c, s, span(-300, 400))
			x := policyRun{c: got, s: next, swaps: n}
			if round == 0 {
				first = append(first, x)
			}
			if !reflect.DeepEqual(x, first[i]) {
				t.Errorf("in round %d, %v leads to %v, but to %v before", round, s, x, first[i])
			}
			impl.CrackWith(got, next, 5)
			impl.ChoosePivot(got, next, 0, 64)
			impl.NextSeed(i)
		}
	}
}

// chosen performs all functions of chapter 7 that have a column, successfully and not, and returns what they answer.
func chosen(c impl.Cracker) ([]impl.Cracker, [][]int) {
	var columns []impl.Cracker
	var lists [][]int
	for _, s := range append([]impl.Settings{{}, center(65, 5)}, sweptSettings...) {
		for _, v := range []int{-1001, -1000, 0, 4, 1000, 1001} {
			x, _, _ := impl.CrackWith(c, s, v)
			columns = append(columns, x)
		}
		for _, r := range []impl.Range{span(-1000, 1000), span(0, 5), span(4, 4), span(8, 3), span(-1001, 5)} {
			x, _, rows, _ := impl.SelectWith(c, s, r)
			columns, lists = append(columns, x), append(lists, rows)
		}
		for _, places := range [][2]int{{0, len(c.Values)}, {0, 1}, {1, 0}, {0, len(c.Values) + 3}} {
			impl.ChoosePivot(c, s, places[0], places[1])
		}
	}
	impl.MedianOf(c.Values)
	impl.MedianOf(c.Rows)
	return columns, lists
}

func TestPolicyArgumentsStay(t *testing.T) { checkArgumentsStay(t, chosen) }

func TestAnswersByPolicyAreNewMemory(t *testing.T) { checkNewMemory(t, chosen) }

// TestListsByPolicyAreApart changes the selected rows before the column, and the column before the rows.
func TestListsByPolicyAreApart(t *testing.T) {
	for name, c := range validColumns {
		for _, s := range sweptSettings {
			for _, r := range []impl.Range{span(-1000, 1000), span(0, 5), span(3, 8)} {
				want, _, wantRows, _ := impl.SelectWith(c, s, r)
				x, _, rows, _ := impl.SelectWith(c, s, r)
				fill(rows, 789)
				if !impl.EqualCrackers(x, want) {
					t.Errorf("%s: after a change of the selected rows, the column is %v, want %v", name, x, want)
				}
				x, _, rows, _ = impl.SelectWith(c, s, r)
				fillColumn(x)
				if !slices.Equal(rows, wantRows) {
					t.Errorf("%s: after a change of the column, the selected rows are %d, want %d", name, rows, wantRows)
				}
			}
		}
	}
}

// TestPolicyOfOneListForValuesAndRows gives a column whose rows are the same memory as its values.
func TestPolicyOfOneListForValuesAndRows(t *testing.T) {
	for _, s := range sweptSettings {
		list := spare([]int{3, 0, 2, 1, 4})
		c := impl.Cracker{Values: list, Rows: list}
		x, _, rows, _ := impl.SelectWith(c, s, span(1, 3))
		if !isColumn(x) || !slices.Equal(x.Rows, x.Values) || !slices.Equal(rows, []int{1, 2}) {
			t.Errorf("with %v, the selected column is %v, and the rows are %d", s, x, rows)
		}
		if y, _, _ := impl.CrackWith(c, s, 2); !isColumn(y) || !slices.Equal(y.Rows, y.Values) {
			t.Errorf("with %v, the divided column is %v", s, y)
		}
		if !slices.Equal(list[:cap(list)][:8], []int{3, 0, 2, 1, 4, 777, 888, 555}) {
			t.Errorf("the list has become %d", list[:cap(list)])
		}
	}
}
