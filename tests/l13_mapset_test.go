package tests

import (
	"math"
	"reflect"
	"slices"
	"strconv"
	"strings"
	"testing"

	"loop.example/g01984/impl"
)

// Promise 8: maps with the same history agree position by position, also after they were evicted and built again.

// fourTails has the head, two tails that tell each row, and one that tells none.
func fourTails() [][]int { return [][]int{eight, tens, downFrom(8), repeated(8, 7)} }

func fourTable() impl.Table {
	return table(column("head", eight...), column("tens", tens...), column("down", downFrom(8)...), column("same", repeated(8, 7)...))
}

// keptSet returns the set in which the map of each tail is behind so many divisions of the history, or not built for -1; they were used in the order of the tails.
func keptSet(head []int, tails [][]int, history []int, budget int, applied ...int) impl.MapSet {
	s := impl.MapSet{Head: head, Tails: tails, History: history, Clock: 10, Budget: budget}
	for i, n := range applied {
		m := impl.Map{}
		if n >= 0 {
			m, _, _ = alignMap(newMap(head, tails[i]), history[:n])
		}
		s.Maps, s.Built, s.Used = append(s.Maps, m), append(s.Built, n >= 0), append(s.Used, i+1)
	}
	return s
}

// eightSet has four tails, three of which are built, and room for all of them.
func eightSet() impl.MapSet { return keptSet(eight, fourTails(), []int{5, 3, 8}, 4, 3, -1, 1, 0) }

func listsWithoutNil(lists [][]int) [][]int {
	x := [][]int{}
	for _, l := range lists {
		x = append(x, append([]int{}, l...))
	}
	return x
}

// setWithoutNil returns a copy of the set, of which no list is a part of another one, with an empty list for each nil list.
func setWithoutNil(s impl.MapSet) impl.MapSet {
	x := impl.MapSet{
		Head: append([]int{}, s.Head...), Tails: listsWithoutNil(s.Tails), History: append([]int{}, s.History...), Maps: []impl.Map{},
		Built: append([]bool{}, s.Built...), Used: append([]int{}, s.Used...), Clock: s.Clock, Budget: s.Budget,
	}
	for _, m := range s.Maps {
		x.Maps = append(x.Maps, mapWithoutNil(m))
	}
	return x
}

// sameSet takes nil and empty lists as equal, as the document does.
func sameSet(a, b impl.MapSet) bool { return reflect.DeepEqual(setWithoutNil(a), setWithoutNil(b)) }

// changed returns a copy of the set with a change.
func changed(s impl.MapSet, change func(x *impl.MapSet)) impl.MapSet {
	x := setWithoutNil(s)
	change(&x)
	return x
}

func withTimes(s impl.MapSet, clock int, used ...int) impl.MapSet {
	return changed(s, func(x *impl.MapSet) { x.Clock, x.Used = clock, used })
}

func setOf(x impl.Table, head string, budget int) impl.MapSet {
	s, _ := impl.NewMapSet(x, head, budget)
	return s
}

// isMapSet has a condition for each one of the document.
func isMapSet(s impl.MapSet) bool {
	n := len(s.Tails)
	if !areNumbers(s.Head) || n == 0 || n > 4 || !isHistory(s.History) {
		return false
	}
	if len(s.Maps) != n || len(s.Built) != n || len(s.Used) != n {
		return false
	}
	if s.Clock < 0 || s.Clock > 1000000 || s.Budget < 1 || s.Budget > 4 {
		return false
	}
	built := 0
	for i, tail := range s.Tails {
		if !areNumbers(tail) || len(tail) != len(s.Head) || s.Used[i] < 0 || s.Used[i] > s.Clock {
			return false
		}
		want := impl.Map{}
		if s.Built[i] {
			built++
			applied := s.Maps[i].Applied
			if applied < 0 || applied > len(s.History) {
				return false
			}
			want, _, _ = alignMap(newMap(s.Head, tail), s.History[:applied])
		}
		if !sameMap(s.Maps[i], want) {
			return false
		}
	}
	return built <= s.Budget
}

// buildMap continues no map: each one that is used is built from the head and the tail again.
func buildMap(s impl.MapSet, tail int) (impl.MapSet, bool) {
	if !isMapSet(s) || tail < 0 || tail >= len(s.Tails) || s.Clock >= 1000000 {
		return s, false
	}
	x := setWithoutNil(s)
	used(&x, tail)
	return x, true
}

func used(x *impl.MapSet, tail int) {
	built, oldest := 0, -1
	for i := range x.Tails {
		if x.Built[i] {
			built++
			if oldest < 0 || x.Used[i] < x.Used[oldest] {
				oldest = i
			}
		}
	}
	if !x.Built[tail] && built == x.Budget {
		x.Maps[oldest], x.Built[oldest] = impl.Map{}, false
	}
	x.Clock++
	x.Used[tail], x.Built[tail] = x.Clock, true
	x.Maps[tail], _, _ = alignMap(newMap(x.Head, x.Tails[tail]), x.History)
}

// queryMaps asks no pivots where the elements of the range are, but each element of the head.
func queryMaps(s impl.MapSet, r impl.Range, tails []int) (impl.MapSet, [][]int, bool) {
	if !isMapSet(s) || !isSpan(r) || len(tails) > 4 || len(s.History) > 58 || s.Clock+len(tails) > 1000000 {
		return s, nil, false
	}
	for _, tail := range tails {
		if tail < 0 || tail >= len(s.Tails) {
			return s, nil, false
		}
	}
	x := setWithoutNil(s)
	for _, v := range []int{r.From, r.To} {
		if !slices.Contains(x.History, v) {
			x.History = append(x.History, v)
		}
	}
	var lists [][]int
	for _, tail := range tails {
		used(&x, tail)
		var l []int
		for place, v := range x.Maps[tail].Cracker.Values {
			if r.From <= v && v < r.To {
				l = append(l, x.Maps[tail].Tail[place])
			}
		}
		lists = append(lists, l)
	}
	return x, lists, true
}

// countBuilt counts the maps that are built.
func countBuilt(s impl.MapSet) int {
	n := 0
	for _, built := range s.Built {
		if built {
			n++
		}
	}
	return n
}

// sortLists returns the lists in ascending order.
func sortLists(lists [][]int) [][]int {
	sorted := slices.Clone(lists)
	slices.SortFunc(sorted, slices.Compare[[]int])
	return sorted
}

// scanTails returns for each row whose head is in the range its values in these tails.
func scanTails(s impl.MapSet, r impl.Range, tails []int) [][]int {
	var l [][]int
	for row, v := range s.Head {
		if r.From <= v && v < r.To {
			var values []int
			for _, tail := range tails {
				values = append(values, s.Tails[tail][row])
			}
			l = append(l, values)
		}
	}
	return l
}

// checkSet asks for all that holds for every valid set.
func checkSet(t *testing.T, what string, s impl.MapSet) {
	t.Helper()
	if !isMapSet(s) || !impl.IsMapSet(s) {
		t.Errorf("%s: the set %v is not valid", what, s)
	}
	if n := countBuilt(s); n > s.Budget || n != len(impl.BuiltMaps(s)) {
		t.Errorf("%s: of the maps %v, %d are built, with a budget of %d", what, impl.BuiltMaps(s), n, s.Budget)
	}
	for i, m := range s.Maps {
		if !s.Built[i] && !sameMap(m, impl.Map{}) {
			t.Errorf("%s: the map of tail %d, which is not built, is %v", what, i, m)
		}
		// Whatever was evicted before, a map is as if it had never been.
		if s.Built[i] && !sameMap(m, alignedMap(s.Head, s.Tails[i], s.History[:m.Applied]...)) {
			t.Errorf("%s: behind %d divisions, the map of tail %d is %v", what, m.Applied, i, m)
		}
	}
}

// checkAligned asks whether two maps of a set agree, if they are behind the same divisions.
func checkAligned(t *testing.T, what string, s impl.MapSet) {
	t.Helper()
	for i, a := range s.Maps {
		for j, b := range s.Maps[:i] {
			if !s.Built[i] || !s.Built[j] {
				continue
			}
			if a.Applied == b.Applied {
				checkAgree(t, what, s.Head, a, s.Tails[i], b, s.Tails[j])
			} else {
				checkAreAligned(t, what, a, b, false)
			}
		}
	}
}

// checkUse compares the set behind the uses of these tails with the set before.
func checkUse(t *testing.T, what string, before, after impl.MapSet, tails []int) {
	t.Helper()
	checkSet(t, what, after)
	times := slices.Clone(before.Used)
	for i, tail := range tails {
		times[tail] = before.Clock + i + 1
	}
	if after.Clock != before.Clock+len(tails) || !slices.Equal(after.Used, times) {
		t.Errorf("%s: the Clock is %d and the Used are %d, want %d", what, after.Clock, after.Used, times)
	}
	if !slices.Equal(after.Head, before.Head) || !sameLists(after.Tails, before.Tails) || after.Budget != before.Budget {
		t.Errorf("%s: the set has become %v, it was %v", what, after, before)
	}
	for i := range after.Maps {
		touched := slices.Contains(tails, i)
		if after.Built[i] && !touched && (!before.Built[i] || !sameMap(before.Maps[i], after.Maps[i])) {
			t.Errorf("%s: the map of tail %d, which was not used, has become %v", what, i, after.Maps[i])
		}
		if after.Built[i] && touched && after.Maps[i].Applied != len(after.History) {
			t.Errorf("%s: the map of tail %d, which was used, is behind %d divisions only", what, i, after.Maps[i].Applied)
		}
	}
	if n := len(tails); n > 0 && !after.Built[tails[n-1]] {
		t.Errorf("%s: the map that was used at last is not built", what)
	}
}

// checkBuildMap compares with the function above, and uses the map once more.
func checkBuildMap(t *testing.T, s impl.MapSet, tail int) impl.MapSet {
	t.Helper()
	want, wantOK := buildMap(s, tail)
	got, ok := impl.BuildMap(s, tail)
	if !sameSet(got, want) || ok != wantOK {
		t.Errorf("BuildMap(%v, %d) = %v, %t, want %v, %t", s, tail, got, ok, want, wantOK)
	}
	if !ok || !wantOK {
		return got
	}
	checkUse(t, "BuildMap", s, got, []int{tail})
	if !slices.Equal(got.History, s.History) {
		t.Errorf("BuildMap(%v, %d) has the history %d", s, tail, got.History)
	}
	again, ok := impl.BuildMap(got, tail)
	later := changed(got, func(x *impl.MapSet) { x.Clock++; x.Used[tail]++ })
	if got.Clock < 1000000 && (!ok || !sameSet(again, later)) {
		t.Errorf("BuildMap(%v, %d), again, = %v, %t", got, tail, again, ok)
	}
	return got
}

// checkQueryMaps compares with the function above and with a scan of the head and the tails.
func checkQueryMaps(t *testing.T, s impl.MapSet, r impl.Range, tails ...int) (impl.MapSet, [][]int) {
	t.Helper()
	want, wantLists, wantOK := queryMaps(s, r, tails)
	got, lists, ok := impl.QueryMaps(s, r, tails)
	if !sameSet(got, want) || !sameLists(lists, wantLists) || ok != wantOK {
		t.Errorf("QueryMaps(%v, %v, %d) = %v, %d, %t, want %v, %d, %t", s, r, tails, got, lists, ok, want, wantLists, wantOK)
	}
	if !ok || !wantOK {
		return got, lists
	}
	checkUse(t, "QueryMaps", s, got, tails)
	checkAligned(t, "QueryMaps", got)
	checkScan(t, s, r, tails, lists)
	if n := len(s.History); !slices.Equal(got.History[:n], s.History) || len(got.History) > n+2 || !slices.Contains(got.History, r.From) || !slices.Contains(got.History, r.To) {
		t.Errorf("QueryMaps(%v, %v, %d) has the history %d", s, r, tails, got.History)
	}
	return got, lists
}

// checkScan asks whether the elements of the lists at the same index belong to the same row, and whether they are those of all rows in the range.
func checkScan(t *testing.T, s impl.MapSet, r impl.Range, tails []int, lists [][]int) {
	t.Helper()
	scan := scanTails(s, r, tails)
	if len(lists) != len(tails) {
		t.Errorf("for %d tails, QueryMaps(%v, %v, %d) has the lists %d", len(tails), s, r, tails, lists)
		return
	}
	rows := make([][]int, len(scan))
	for _, l := range lists {
		if len(l) != len(scan) {
			t.Errorf("QueryMaps(%v, %v, %d) has the list %d of %d rows", s, r, tails, l, len(scan))
			return
		}
		for i, v := range l {
			rows[i] = append(rows[i], v)
		}
	}
	if !sameLists(sortLists(rows), sortLists(scan)) {
		t.Errorf("QueryMaps(%v, %v, %d) has the rows %d, a scan %d", s, r, tails, rows, scan)
	}
}

func checkNoSet(t *testing.T, name string, x impl.Table, head string, budget int) {
	t.Helper()
	if got, ok := impl.NewMapSet(x, head, budget); ok || !sameSet(got, impl.MapSet{}) {
		t.Errorf("%s: NewMapSet(%v, %q, %d) = %v, %t", name, x, head, budget, got, ok)
	}
}

func checkIsMapSet(t *testing.T, name string, s impl.MapSet, want bool) {
	t.Helper()
	if got := impl.IsMapSet(s); got != want {
		t.Errorf("%s: IsMapSet(%v) = %t", name, s, got)
	}
	if got := impl.IsMapSet(setWithoutNil(s)); got != want {
		t.Errorf("%s: with empty lists, IsMapSet(%v) = %t", name, s, got)
	}
	if isMapSet(s) != want {
		t.Errorf("%s: the expectation for %v is wrong", name, s)
	}
}

func checkNoBuild(t *testing.T, name string, s impl.MapSet, tail int) {
	t.Helper()
	if got, ok := impl.BuildMap(s, tail); ok || !sameSet(got, s) {
		t.Errorf("%s: BuildMap(%v, %d) = %v, %t", name, s, tail, got, ok)
	}
}

func checkNoMapQuery(t *testing.T, name string, s impl.MapSet, r impl.Range, tails ...int) {
	t.Helper()
	if got, lists, ok := impl.QueryMaps(s, r, tails); ok || len(lists) != 0 || !sameSet(got, s) {
		t.Errorf("%s: QueryMaps(%v, %v, %d) = %v, %d, %t", name, s, r, tails, got, lists, ok)
	}
}

// checkEqualSets asks in both orders, and for each set and itself.
func checkEqualSets(t *testing.T, name string, a, b impl.MapSet, want bool) {
	t.Helper()
	if impl.EqualMapSets(a, b) != want || impl.EqualMapSets(b, a) != want {
		t.Errorf("%s: EqualMapSets(%v, %v) = %t", name, a, b, !want)
	}
	if !impl.EqualMapSets(a, a) || !impl.EqualMapSets(b, b) || !impl.EqualMapSets(a, setWithoutNil(a)) || !impl.EqualMapSets(setWithoutNil(b), b) {
		t.Errorf("%s: %v or %v is not equal to itself", name, a, b)
	}
}

func validSets() map[string]impl.MapSet {
	four, history := fourTails(), []int{5, 3, 8}
	long := longHistory(60)
	return map[string]impl.MapSet{
		"a new set":                        withTimes(keptSet(eight, four, nil, 2, -1, -1, -1, -1), 0, 0, 0, 0, 0),
		"a new set of one tail":            withTimes(keptSet(eight, four[1:2], nil, 1, -1), 0, 0),
		"no rows":                          keptSet(nil, [][]int{nil, nil}, nil, 1, -1, -1),
		"no rows, in empty lists":          keptSet([]int{}, [][]int{{}, nil}, []int{}, 1, -1, 0),
		"no rows, but maps":                keptSet(nil, make([][]int, 4), history, 3, 3, 0, -1, 2),
		"one row":                          keptSet([]int{7}, [][]int{{-7}, {7}}, history, 1, -1, 2),
		"64 rows":                          keptSet(spread(64), [][]int{spread(64), downFrom(64), upTo(64)}, []int{0, 500, -500}, 2, 3, -1, 2),
		"64 equal rows":                    keptSet(repeated(64, 7), [][]int{repeated(64, 999), repeated(64, -999)}, history, 2, 1, 2),
		"maps that lag":                    eightSet(),
		"all maps behind all divisions":    keptSet(eight, four, history, 4, 3, 3, 3, 3),
		"all maps behind none":             keptSet(eight, four, history, 4, 0, 0, 0, 0),
		"as many maps as the budget":       keptSet(eight, four, history, 2, 3, -1, -1, 1),
		"one map less than the budget":     keptSet(eight, four, history, 3, 3, -1, -1, 1),
		"a budget of one, the first map":   keptSet(eight, four, history, 1, 2, -1, -1, -1),
		"a budget of one, the last map":    keptSet(eight, four, history, 1, -1, -1, -1, 2),
		"a budget of one, no map":          keptSet(eight, four, history, 1, -1, -1, -1, -1),
		"a budget beyond the tails":        keptSet(eight, four[:2], history, 4, 3, 1),
		"one tail":                         keptSet(eight, four[1:2], history, 1, 2),
		"one tail, a budget of four":       keptSet(eight, four[1:2], history, 4, -1),
		"three tails":                      keptSet(eight, four[:3], history, 2, 3, 3, -1),
		"equal tails":                      keptSet(eight, [][]int{tens, tens, tens, tens}, history, 3, 1, 2, 3, -1),
		"no tail is the head":              keptSet(eight, [][]int{tens, downFrom(8)}, history, 2, 2, 3),
		"the limits as values":             keptSet([]int{999, -999}, [][]int{{-999, 999}, {999, -999}}, []int{0}, 2, 1, 0),
		"the limits as history":            keptSet(eight, four, []int{-1000, 1000}, 2, 2, -1, 1, -1),
		"a value twice in the history":     keptSet(eight, four, []int{5, 5, 3, 5}, 3, 4, 3, 2, -1),
		"a history of 57":                  keptSet(eight, four, long[:57], 2, 57, -1, 30, -1),
		"a history of 58":                  keptSet(eight, four, long[:58], 2, 58, -1, -1, 57),
		"a history of 59":                  keptSet(eight, four, long[:59], 2, -1, 0, -1, 59),
		"a history of 60":                  keptSet(eight, four, long, 3, 60, -1, 59, 1),
		"a history, but no map":            keptSet(eight, four, long, 4, -1, -1, -1, -1),
		"Clock 0":                          withTimes(eightSet(), 0, 0, 0, 0, 0),
		"Clock 1":                          withTimes(eightSet(), 1, 1, 0, 1, 0),
		"Clock 999995":                     withTimes(eightSet(), 999995, 1, 2, 3, 4),
		"Clock 999996":                     withTimes(eightSet(), 999996, 1, 2, 3, 4),
		"Clock 999997":                     withTimes(eightSet(), 999997, 999997, 2, 3, 4),
		"Clock 999998":                     withTimes(eightSet(), 999998, 1, 2, 3, 999998),
		"Clock 999999":                     withTimes(eightSet(), 999999, 1, 999999, 3, 4),
		"Clock 1000000":                    withTimes(eightSet(), 1000000, 1000000, 0, 1000000, 7),
		"all Used are the Clock":           withTimes(eightSet(), 10, 10, 10, 10, 10),
		"all Used are equal":               withTimes(keptSet(eight, four, history, 2, -1, 3, 1, -1), 10, 7, 7, 7, 7),
		"used, but not built":              withTimes(eightSet(), 10, 1, 10, 2, 3),
		"built, but not used":              withTimes(eightSet(), 10, 0, 4, 0, 0),
		"the first map is the oldest one":  withTimes(keptSet(eight, four, history, 3, 3, 2, 1, -1), 10, 1, 5, 3, 0),
		"the second map is the oldest one": withTimes(keptSet(eight, four, history, 3, 3, 2, 1, -1), 10, 5, 1, 3, 0),
		"the third map is the oldest one":  withTimes(keptSet(eight, four, history, 3, 3, 2, 1, -1), 10, 5, 3, 1, 0),
		"an older one is not built":        withTimes(keptSet(eight, four, history, 2, -1, 2, 1, -1), 10, 0, 3, 5, 1),
		"empty lists where no map is":      setWithoutNil(keptSet(eight, four, history, 2, -1, 2, -1, -1)),
		"empty lists of a map without any": setWithoutNil(keptSet(nil, make([][]int, 2), history, 2, 0, 1)),
	}
}

// wrongLists have one list of the set that is longer or shorter than the tails, or a value that no list may have.
func wrongLists() map[string]impl.MapSet {
	base := eightSet()
	l := map[string]impl.MapSet{
		"no tail": {Head: eight, Clock: 10, Budget: 1}, "no tail, no head": {Clock: 10, Budget: 1},
		"five tails": keptSet(eight, append(fourTails(), tens), []int{5}, 4, 1, 1, -1, -1, -1),
		"no tails":   changed(base, func(x *impl.MapSet) { x.Tails = nil }), "a tail more": changed(base, func(x *impl.MapSet) { x.Tails = append(x.Tails, tens) }),
		"a tail less": changed(base, func(x *impl.MapSet) { x.Tails = x.Tails[:3] }), "a tail less, at first": changed(base, func(x *impl.MapSet) { x.Tails = x.Tails[1:] }),
		"no maps": changed(base, func(x *impl.MapSet) { x.Maps = nil }), "a map more": changed(base, func(x *impl.MapSet) { x.Maps = append(x.Maps, impl.Map{}) }),
		"a map less": changed(base, func(x *impl.MapSet) { x.Maps = x.Maps[:3] }), "no Built": changed(base, func(x *impl.MapSet) { x.Built = nil }),
		"a Built more": changed(base, func(x *impl.MapSet) { x.Built = append(x.Built, false) }), "a Built less": changed(base, func(x *impl.MapSet) { x.Built = x.Built[:3] }),
		"no Used": changed(base, func(x *impl.MapSet) { x.Used = nil }), "a Used more": changed(base, func(x *impl.MapSet) { x.Used = append(x.Used, 0) }),
		"a Used less":      changed(base, func(x *impl.MapSet) { x.Used = x.Used[:3] }),
		"a shorter head":   keptSet(eight[:7], fourTails(), []int{5}, 4, -1, -1, -1, -1),
		"a longer head":    keptSet(append(slices.Clone(eight), 7), fourTails(), []int{5}, 4, -1, -1, -1, -1),
		"no head":          keptSet(nil, fourTails(), []int{5}, 4, -1, -1, -1, -1),
		"no values, a row": keptSet([]int{7}, make([][]int, 4), nil, 4, -1, -1, -1, -1),
	}
	for i := range 4 {
		where := " as tail " + strconv.Itoa(i)
		for name, tail := range map[string][]int{"a shorter list": spread(7), "a longer list": spread(9), "no list": nil, "1000": replaced(eight, 7, 1000), "-1000": replaced(eight, 0, -1000)} {
			tails := fourTails()
			tails[i] = tail
			l[name+where] = keptSet(eight, tails, []int{5}, 4, -1, -1, -1, -1)
			// Such a map is what NewMap returns for these lists.
			l[name+where+", with the zero map"] = changed(l[name+where], func(x *impl.MapSet) { x.Built[i] = true })
		}
	}
	for name, values := range noQueryValues {
		n := len(values)
		l["the head of "+name] = keptSet(values, [][]int{spread(n)}, []int{5}, 1, -1)
		l["the head of "+name+", built"] = changed(l["the head of "+name], func(x *impl.MapSet) { x.Built[0] = true })
		l["the head of "+name+", shorter tails"] = keptSet(values, [][]int{spread(min(n, 64))}, []int{5}, 1, -1)
		l["the tail of "+name] = keptSet(spread(n), [][]int{spread(n), values}, []int{5}, 1, -1, -1)
		l["the tail of "+name+", a shorter head"] = keptSet(spread(min(n, 64)), [][]int{values}, []int{5}, 1, -1)
	}
	return l
}

// wrongNumbers have a history, a Clock, a Used or a Budget that is not valid.
func wrongNumbers() map[string]impl.MapSet {
	base, empty := eightSet(), keptSet(eight, fourTails(), longHistory(60), 4, -1, -1, -1, -1)
	l := map[string]impl.MapSet{
		"a history of 61": changed(empty, func(x *impl.MapSet) { x.History = longHistory(61) }), "a history of 1000": changed(empty, func(x *impl.MapSet) { x.History = longHistory(1000) }),
		"a history of 61, one value": changed(empty, func(x *impl.MapSet) { x.History = repeated(61, 5) }),
	}
	for name, v := range map[string]int{"-1001": -1001, "1001": 1001, "the least int": math.MinInt, "the greatest int": math.MaxInt} {
		l["a first value of the history of "+name] = changed(empty, func(x *impl.MapSet) { x.History[0] = v })
		l["a last value of the history of "+name] = changed(empty, func(x *impl.MapSet) { x.History[59] = v })
		l["a value that no map has performed of "+name] = changed(keptSet(eight, fourTails(), []int{5, 3, 8}, 4, 1, 1, 0, -1), func(x *impl.MapSet) { x.History[2] = v })
		l["a Budget of "+name] = changed(base, func(x *impl.MapSet) { x.Budget = v })
		for i := range 4 {
			l["a Used of "+name+" of tail "+strconv.Itoa(i)] = changed(base, func(x *impl.MapSet) { x.Used[i] = v })
		}
	}
	for i := range 4 {
		where := " of tail " + strconv.Itoa(i)
		l["a Used of -1"+where] = changed(base, func(x *impl.MapSet) { x.Used[i] = -1 })
		l["a Used behind the Clock"+where] = changed(base, func(x *impl.MapSet) { x.Used[i] = 11 })
		l["a Used of 1 with the Clock 0"+where] = changed(withTimes(base, 0, 0, 0, 0, 0), func(x *impl.MapSet) { x.Used[i] = 1 })
		l["a Used of 1000001"+where] = changed(withTimes(base, 1000000, 0, 0, 0, 0), func(x *impl.MapSet) { x.Used[i] = 1000001 })
	}
	for name, clock := range map[string]int{"-1001": -1001, "the least int": math.MinInt, "2000000": 2000000, "the greatest int": math.MaxInt} {
		l["a Clock of "+name] = withTimes(base, clock, 0, 0, 0, 0)
	}
	l["Clock -1"], l["Clock -1, used then"] = withTimes(base, -1, 0, 0, 0, 0), withTimes(base, -1, -1, -1, -1, -1)
	l["Clock 1000001"], l["Clock 1000001, used then"] = withTimes(base, 1000001, 0, 0, 0, 0), withTimes(base, 1000001, 1000001, 0, 0, 0)
	for name, budget := range map[string]int{"-1": -1, "0": 0, "5": 5, "less than the maps by one": 2, "1 for three maps": 1} {
		l["a Budget of "+name] = changed(base, func(x *impl.MapSet) { x.Budget = budget })
	}
	l["a Budget of 0 for no map"] = changed(empty, func(x *impl.MapSet) { x.Budget = 0 })
	l["a Budget of 5 for no map"] = changed(empty, func(x *impl.MapSet) { x.Budget = 5 })
	l["a Budget of 1 for two maps"] = keptSet(eight, fourTails(), []int{5}, 1, -1, 1, -1, 1)
	l["a Budget of 3 for four maps"] = keptSet(eight, fourTails(), []int{5}, 3, 1, 1, 1, 1)
	return l
}

// wrongMaps have a map that is not that of its tail and the history, or one that is there although it is not built.
func wrongMaps() map[string]impl.MapSet {
	base := eightSet()
	l := map[string]impl.MapSet{
		"the map of another tail": changed(base, func(x *impl.MapSet) { x.Maps[2] = alignedMap(eight, tens, 5) }),
		"two maps exchanged":      changed(base, func(x *impl.MapSet) { x.Maps[0], x.Maps[2] = x.Maps[2], x.Maps[0] }),
		"the map of another head": changed(base, func(x *impl.MapSet) { x.Maps[2] = alignedMap(tens, downFrom(8), 5) }),
		"a division less": changed(base, func(x *impl.MapSet) {
			x.Maps[0] = mapWith(crackedAt(eight, 5, 3), alignedMap(eight, eight, 5, 3).Tail, 3)
		}),
		"Applied behind the divisions":  changed(base, func(x *impl.MapSet) { x.Maps[0].Applied = 2 }),
		"Applied before the divisions":  changed(base, func(x *impl.MapSet) { x.Maps[2].Applied = 2 }),
		"Applied without divisions":     changed(base, func(x *impl.MapSet) { x.Maps[3].Applied = 1 }),
		"divisions without Applied":     changed(base, func(x *impl.MapSet) { x.Maps[2].Applied = 0 }),
		"another order of the history":  changed(base, func(x *impl.MapSet) { x.Maps[0] = alignedMap(eight, eight, 3, 5, 8) }),
		"another value of the history":  changed(base, func(x *impl.MapSet) { x.Maps[2] = alignedMap(eight, downFrom(8), 3) }),
		"a pivot behind the others":     changed(base, func(x *impl.MapSet) { x.Maps[0] = mapWith(crackedAt(eight, 5, 3, 8, 9), x.Maps[0].Tail, 3) }),
		"the zero map, built":           changed(base, func(x *impl.MapSet) { x.Maps[3] = impl.Map{} }),
		"a longer map":                  changed(base, func(x *impl.MapSet) { x.Maps[3] = impl.NewMap(append(slices.Clone(eight), 7), repeated(9, 7)) }),
		"a shorter map":                 changed(base, func(x *impl.MapSet) { x.Maps[3] = impl.NewMap(eight[:7], repeated(7, 7)) }),
		"a right map, but not built":    changed(base, func(x *impl.MapSet) { x.Built[0] = false }),
		"a new map, but not built":      changed(base, func(x *impl.MapSet) { x.Built[3] = false }),
		"no map, but built":             changed(base, func(x *impl.MapSet) { x.Built[1] = true }),
		"no rows, Applied, not built":   changed(keptSet(nil, make([][]int, 2), []int{5}, 1, -1, -1), func(x *impl.MapSet) { x.Maps[1].Applied = 1 }),
		"no rows, a pivot, not built":   changed(keptSet(nil, make([][]int, 2), []int{5}, 1, -1, -1), func(x *impl.MapSet) { x.Maps[1].Cracker.Pivots = pivots(5, 0) }),
		"no rows, a map with one":       changed(keptSet(nil, make([][]int, 2), []int{5}, 1, -1, 0), func(x *impl.MapSet) { x.Maps[1] = impl.NewMap([]int{1}, []int{1}) }),
		"no rows, no pivot for Applied": changed(keptSet(nil, make([][]int, 2), []int{5}, 1, -1, 1), func(x *impl.MapSet) { x.Maps[1].Cracker.Pivots = nil }),
	}
	for name, n := range map[string]int{"-1": -1, "one more than the history": 4, "60": 60, "61": 61, "the least int": math.MinInt, "the greatest int": math.MaxInt} {
		for i := range 4 {
			l["Applied of "+name+" of tail "+strconv.Itoa(i)] = changed(base, func(x *impl.MapSet) { x.Maps[i].Applied = n })
		}
		l["no rows, no history, Applied of "+name] = changed(keptSet(nil, make([][]int, 2), nil, 1, -1, 0), func(x *impl.MapSet) { x.Maps[1].Applied = n })
	}
	l["behind a value that is not in the history"] = changed(base, func(x *impl.MapSet) { x.Maps[0] = alignedMap(eight, eight, 5, 3, 8, 2) })
	l["behind a value twice that is there once"] = changed(base, func(x *impl.MapSet) { x.Maps[0] = alignedMap(eight, eight, 5, 3, 8, 8) })
	l["maps of a longer history"] = changed(base, func(x *impl.MapSet) { x.History = x.History[:2] })
	l["maps of a history that is gone"] = changed(base, func(x *impl.MapSet) { x.History = nil })
	for name, change := range map[string]func(m *impl.Map){
		"Values":              func(m *impl.Map) { m.Cracker.Values = []int{0} },
		"Rows":                func(m *impl.Map) { m.Cracker.Rows = []int{0} },
		"Pivots":              func(m *impl.Map) { m.Cracker.Pivots = pivots(0, 0) },
		"Tail":                func(m *impl.Map) { m.Tail = []int{0} },
		"Applied":             func(m *impl.Map) { m.Applied = 1 },
		"Applied of -1":       func(m *impl.Map) { m.Applied = -1 },
		"a row":               func(m *impl.Map) { *m = impl.NewMap([]int{0}, []int{0}) },
		"all of its divided":  func(m *impl.Map) { *m = alignedMap(eight, tens, 5, 3, 8) },
		"all of an older one": func(m *impl.Map) { *m = alignedMap(eight, tens, 5) },
		"all of a new one":    func(m *impl.Map) { *m = impl.NewMap(eight, tens) },
	} {
		l["a map that is not built, with "+name] = changed(base, func(x *impl.MapSet) { change(&x.Maps[1]) })
	}
	return l
}

// invalidSets are not valid for one reason only, as far as one is possible without another.
func invalidSets() map[string]impl.MapSet {
	l := map[string]impl.MapSet{
		"the zero value":        {},
		"nothing that is valid": {Head: []int{1000}, Tails: make([][]int, 5), History: longHistory(61), Maps: make([]impl.Map, 3), Built: []bool{true}, Used: []int{-1}, Clock: -1, Budget: 0},
	}
	for _, sets := range []map[string]impl.MapSet{wrongLists(), wrongNumbers(), wrongMaps()} {
		for name, s := range sets {
			l[name] = s
		}
	}
	return l
}

func everySet(visit func(name string, s impl.MapSet)) {
	for name, s := range validSets() {
		visit(name, s)
	}
	for name, s := range invalidSets() {
		visit(name, s)
	}
}

func TestNewMapSetExamples(t *testing.T) {
	if impl.MaxColumns != 4 || impl.MaxHistory != 60 {
		t.Errorf("MaxColumns = %d, MaxHistory = %d", impl.MaxColumns, impl.MaxHistory)
	}
	tables := map[string]impl.Table{
		"the eight values": fourTable(), "one column, 64 rows": numbered(1, 64), "two columns, 63 rows": numbered(2, 63), "three columns, one row": numbered(3, 1),
		"one column, no rows": numbered(1, 0), "four columns, no rows": numbered(4, 0), "four columns, 64 rows": numbered(4, 64),
	}
	for _, more := range []map[string]impl.Table{tables, validTables} {
		for name, x := range more {
			n := len(x.Columns)
			for i, c := range x.Columns {
				for budget := 1; budget <= 4; budget++ {
					s, ok := impl.NewMapSet(x, c.Name, budget)
					want := impl.MapSet{Head: x.Columns[i].Values, Maps: make([]impl.Map, n), Built: make([]bool, n), Used: make([]int, n), Budget: budget}
					for _, tail := range x.Columns {
						want.Tails = append(want.Tails, tail.Values)
					}
					if !ok || !sameSet(s, want) || !impl.IsMapSet(s) || len(impl.BuiltMaps(s)) != 0 {
						t.Errorf("%s: NewMapSet(%v, %s, %d) = %v, %t, want %v", name, x, c.Name, budget, s, ok, want)
					}
				}
			}
		}
	}
	s := setOf(fourTable(), "tens", 3)
	if !slices.Equal(s.Head, tens) || !sameLists(s.Tails, fourTails()) || len(s.Maps) != 4 || s.Clock != 0 || s.Budget != 3 || len(s.History) != 0 {
		t.Errorf("NewMapSet of the tens = %v", s)
	}
}

func TestNewMapSetOfInvalidArguments(t *testing.T) {
	names := []string{"", "a", "b", "head", "tens"}
	for name, x := range invalidTables {
		all := slices.Clone(names)
		for _, c := range x.Columns {
			all = append(all, c.Name)
		}
		for _, head := range all {
			for _, budget := range []int{-1, 0, 1, 2, 3, 4, 5} {
				checkNoSet(t, name, x, head, budget)
			}
		}
	}
	for _, head := range []string{"", "heads", "hea", "Head", "head ", " head", "tens down", "head\n", "0", "ten", "samesame", "\x00", "h\xe9ad", strings.Repeat("head", 1000)} {
		for _, budget := range []int{0, 1, 4, 5} {
			checkNoSet(t, "no such column", fourTable(), head, budget)
		}
	}
	for name, x := range validTables {
		for _, budget := range append([]int{5, 6, 64, 1000000}, bounds...) {
			valid := budget >= 1 && budget <= 4
			s, ok := impl.NewMapSet(x, x.Columns[0].Name, budget)
			if ok != valid || impl.IsMapSet(s) != valid {
				t.Errorf("%s: NewMapSet with the budget %d = %v, %t", name, budget, s, ok)
			}
			if !valid {
				checkNoSet(t, name, x, x.Columns[0].Name, budget)
			}
			checkNoSet(t, name, x, "none", budget)
		}
	}
}

func TestIsMapSetExamples(t *testing.T) {
	for name, s := range validSets() {
		checkIsMapSet(t, name, s, true)
	}
	for name, s := range invalidSets() {
		checkIsMapSet(t, name, s, false)
	}
}

func TestIsMapSetOfNumbers(t *testing.T) {
	numbers := append([]int{4, 5, 7, 8, 12, 59, 60, 61, 999999, 1000000, 1000001}, bounds...)
	for _, n := range numbers {
		checkIsMapSet(t, "Clock", withTimes(eightSet(), n, 0, 0, 0, 0), n >= 0 && n <= 1000000)
		checkIsMapSet(t, "Clock with Used up to 4", withTimes(eightSet(), n, 1, 2, 3, 4), n >= 4 && n <= 1000000)
		checkIsMapSet(t, "Budget", changed(eightSet(), func(x *impl.MapSet) { x.Budget = n }), n == 3 || n == 4)
		checkIsMapSet(t, "Budget for no map", changed(keptSet(eight, fourTails(), nil, 1, -1, -1, -1, -1), func(x *impl.MapSet) { x.Budget = n }), n >= 1 && n <= 4)
		for i := range 4 {
			checkIsMapSet(t, "Used", changed(eightSet(), func(x *impl.MapSet) { x.Used[i] = n }), n >= 0 && n <= 10)
			checkIsMapSet(t, "Used at last", changed(withTimes(eightSet(), 1000000, 1, 2, 3, 4), func(x *impl.MapSet) { x.Used[i] = n }), n >= 0 && n <= 1000000)
			applied := []int{3, 0, 1, 0}[i]
			checkIsMapSet(t, "Applied", changed(eightSet(), func(x *impl.MapSet) { x.Maps[i].Applied = n }), n == applied)
			checkIsMapSet(t, "a value of the head", changed(keptSet(eight, fourTails(), nil, 1, -1, -1, -1, -1), func(x *impl.MapSet) { x.Head[2*i] = n }), n >= -999 && n <= 999)
			checkIsMapSet(t, "a value of a tail", changed(keptSet(eight, fourTails(), nil, 1, -1, -1, -1, -1), func(x *impl.MapSet) { x.Tails[i][7-2*i] = n }), n >= -999 && n <= 999)
		}
		for place := range 3 {
			s := keptSet(eight, fourTails(), replaced([]int{5, 3, 8}, place, n), 4, -1, -1, -1, -1)
			checkIsMapSet(t, "a value of the history", s, n >= -1000 && n <= 1000)
		}
	}
}

// TestIsMapSetOfLengths has heads and tails of all lengths, and histories of all lengths around the limit.
func TestIsMapSetOfLengths(t *testing.T) {
	for n := range 67 {
		for _, k := range []int{0, 1, n - 1, n, n + 1, 63, 64, 65} {
			k = max(k, 0)
			valid := n == k && n <= 64
			checkIsMapSet(t, "lengths", keptSet(spread(n), [][]int{downFrom(k)}, nil, 1, -1), valid)
			checkIsMapSet(t, "lengths", keptSet(spread(n), [][]int{upTo(n), downFrom(k)}, []int{7}, 2, -1, -1), valid)
		}
	}
	for _, n := range []int{0, 1, 2, 57, 58, 59, 60, 61, 62, 120} {
		checkIsMapSet(t, "a history", keptSet(eight, fourTails(), longHistory(n), 4, -1, -1, -1, -1), n <= 60)
		checkIsMapSet(t, "a history and maps", keptSet(eight, fourTails(), longHistory(n), 4, min(n, 60), -1, n/2, 0), n <= 60)
	}
	for n := range 7 {
		s := impl.MapSet{Head: eight, Tails: slices.Repeat([][]int{tens}, n), Maps: make([]impl.Map, n), Built: make([]bool, n), Used: make([]int, n), Budget: 1}
		checkIsMapSet(t, "tails", s, n >= 1 && n <= 4)
		for _, k := range []int{0, 1, 2, 3, 4, 5, 6} {
			valid := n == k && n >= 1 && n <= 4
			checkIsMapSet(t, "maps", changed(s, func(x *impl.MapSet) { x.Maps = make([]impl.Map, k) }), valid)
			checkIsMapSet(t, "Built", changed(s, func(x *impl.MapSet) { x.Built = make([]bool, k) }), valid)
			checkIsMapSet(t, "Used", changed(s, func(x *impl.MapSet) { x.Used = make([]int, k) }), valid)
			checkIsMapSet(t, "tails", changed(s, func(x *impl.MapSet) { x.Tails = slices.Repeat([][]int{tens}, k) }), valid)
		}
	}
}

// TestIsMapSetOfEachNumberInMaps changes one number of one map at a time.
func TestIsMapSetOfEachNumberInMaps(t *testing.T) {
	for name, s := range validSets() {
		if len(s.History) > 50 || len(s.Head) > 50 {
			continue
		}
		for i := range s.Maps {
			wrong := func(what string, change func(m *impl.Map)) {
				t.Helper()
				checkIsMapSet(t, name+", "+what, changed(s, func(x *impl.MapSet) { change(&x.Maps[i]) }), false)
			}
			for place := range s.Maps[i].Tail {
				wrong("a tail", func(m *impl.Map) { m.Tail[place]++ })
				wrong("a value", func(m *impl.Map) { m.Cracker.Values[place]-- })
				wrong("a row", func(m *impl.Map) { m.Cracker.Rows[place] += 100 })
			}
			for k := range s.Maps[i].Cracker.Pivots {
				wrong("a pivot", func(m *impl.Map) { m.Cracker.Pivots[k].Value++ })
				wrong("a place", func(m *impl.Map) { m.Cracker.Pivots[k].At-- })
			}
			wrong("a tail more", func(m *impl.Map) { m.Tail = append(m.Tail, 0) })
			wrong("a pivot more", func(m *impl.Map) {
				m.Cracker.Pivots = append(m.Cracker.Pivots, impl.Pivot{Value: 999, At: len(m.Tail)})
			})
			if len(s.Head) > 0 {
				checkIsMapSet(t, name+", built and not", changed(s, func(x *impl.MapSet) { x.Built[i] = !x.Built[i] }), false)
			}
		}
	}
}

// TestIsMapSetOfEachApplied has a map behind each number of divisions, and a history of each length.
func TestIsMapSetOfEachApplied(t *testing.T) {
	for _, history := range [][]int{{5, 3, 8, 2}, {5, 5, 5, 3}, {1000, -1000, 4, 4}} {
		for n := range 5 {
			for applied := range 5 {
				s := keptSet(eight, fourTails(), history, 4, applied, -1, 0, -1)
				s.History = history[:n]
				checkIsMapSet(t, "Applied", s, applied <= n)
				// The last values of the history do not matter to a map that has not performed them.
				s.History = append(slices.Clone(history[:n]), 77, 7)
				checkIsMapSet(t, "Applied, behind other values", s, applied <= n)
			}
		}
	}
}

// A usage is what BuildMap has to return for a set and a tail.
type usage struct {
	s     impl.MapSet
	tail  int
	clock int
	used  []int
	built []int
	want  string
	tails []int
}

func TestBuildMapExamples(t *testing.T) {
	four, history := fourTails(), []int{5, 3, 8}
	column, tail := "2 2 1 [3] 3 [5] 7 5 [8] 8 9", []int{21, 20, 10, 30, 70, 50, 80, 90}
	down, same := []int{4, 6, 2, 0, 3, 7, 1, 5}, repeated(8, 7)
	for name, x := range map[string]usage{
		"the first map":                    {setOf(fourTable(), "head", 2), 1, 1, []int{0, 1, 0, 0}, []int{1}, "5 2 9 2 7 1 8 3", tens},
		"not built, a history":             {keptSet(eight, four, history, 2, -1, -1, -1, -1), 1, 11, []int{1, 11, 3, 4}, []int{1}, column, tail},
		"built, but behind by all":         {keptSet(eight, four, history, 2, -1, 0, -1, -1), 1, 11, []int{1, 11, 3, 4}, []int{1}, column, tail},
		"built, but behind by two":         {keptSet(eight, four, history, 2, -1, 1, -1, -1), 1, 11, []int{1, 11, 3, 4}, []int{1}, column, tail},
		"built, but behind by one":         {keptSet(eight, four, history, 2, -1, 2, 3, -1), 1, 11, []int{1, 11, 3, 4}, []int{1, 2}, column, tail},
		"built and not behind":             {keptSet(eight, four, history, 2, 3, 3, -1, -1), 1, 11, []int{1, 11, 3, 4}, []int{0, 1}, column, tail},
		"a budget of one, built":           {keptSet(eight, four, history, 1, -1, 1, -1, -1), 1, 11, []int{1, 11, 3, 4}, []int{1}, column, tail},
		"a budget of one, not built":       {keptSet(eight, four, history, 1, 3, -1, -1, -1), 1, 11, []int{1, 11, 3, 4}, []int{1}, column, tail},
		"a budget of one, the last built":  {keptSet(eight, four, history, 1, -1, -1, -1, 3), 1, 11, []int{1, 11, 3, 4}, []int{1}, column, tail},
		"one map less than the budget":     {keptSet(eight, four, history, 3, 3, -1, 1, -1), 1, 11, []int{1, 11, 3, 4}, []int{0, 1, 2}, column, tail},
		"as many maps as the budget":       {keptSet(eight, four, history, 2, 3, -1, 1, -1), 1, 11, []int{1, 11, 3, 4}, []int{1, 2}, column, tail},
		"three of four, room":              {keptSet(eight, four, history, 4, 3, 0, 1, -1), 3, 11, []int{1, 2, 3, 11}, []int{0, 1, 2, 3}, column, same},
		"three of three, no room":          {keptSet(eight, four, history, 3, 3, 0, 1, -1), 3, 11, []int{1, 2, 3, 11}, []int{1, 2, 3}, column, same},
		"the last one is the oldest":       {withTimes(keptSet(eight, four, history, 3, 3, -1, 1, 2), 10, 8, 9, 7, 6), 1, 11, []int{8, 11, 7, 6}, []int{0, 1, 2}, column, tail},
		"a middle one is the oldest":       {withTimes(keptSet(eight, four, history, 3, 3, -1, 1, 2), 10, 8, 9, 6, 7), 1, 11, []int{8, 11, 6, 7}, []int{0, 1, 3}, column, tail},
		"an older one is not built":        {withTimes(keptSet(eight, four, history, 2, -1, 3, 3, -1), 10, 0, 5, 4, 1), 3, 11, []int{0, 5, 4, 11}, []int{1, 3}, column, same},
		"itself was the oldest":            {withTimes(keptSet(eight, four, history, 2, 3, 3, -1, -1), 10, 5, 4, 0, 1), 2, 11, []int{5, 4, 11, 1}, []int{0, 2}, column, down},
		"two of the same Used":             {withTimes(keptSet(eight, four, history, 2, -1, 3, 3, -1), 10, 0, 5, 5, 1), 3, 11, []int{0, 5, 5, 11}, []int{2, 3}, column, same},
		"two of the same Used behind":      {withTimes(keptSet(eight, four, history, 3, 3, 3, 3, -1), 10, 6, 5, 5, 1), 3, 11, []int{6, 5, 5, 11}, []int{0, 2, 3}, column, same},
		"two of the same Used apart":       {withTimes(keptSet(eight, four, history, 3, 3, -1, 3, 3), 10, 5, 1, 6, 5), 1, 11, []int{5, 11, 6, 5}, []int{1, 2, 3}, column, tail},
		"two of the same, greater Used":    {withTimes(keptSet(eight, four, history, 3, 3, 3, 3, -1), 10, 6, 6, 5, 1), 3, 11, []int{6, 6, 5, 11}, []int{0, 1, 3}, column, same},
		"three of the same Used":           {withTimes(keptSet(eight, four, history, 3, 3, 3, 3, -1), 10, 0, 0, 0, 0), 3, 11, []int{0, 0, 0, 11}, []int{1, 2, 3}, column, same},
		"Clock 0":                          {withTimes(keptSet(eight, four, history, 1, -1, 3, -1, -1), 0, 0, 0, 0, 0), 1, 1, []int{0, 1, 0, 0}, []int{1}, column, tail},
		"Clock 999999":                     {withTimes(eightSet(), 999999, 1, 2, 3, 4), 1, 1000000, []int{1, 1000000, 3, 4}, []int{0, 1, 2, 3}, column, tail},
		"a Clock much greater than Used":   {withTimes(keptSet(eight, four, history, 1, 3, -1, -1, -1), 500, 500, 2, 3, 4), 1, 501, []int{500, 501, 3, 4}, []int{1}, column, tail},
		"one tail":                         {keptSet(eight, four[1:2], history, 1, -1), 0, 11, []int{11}, []int{0}, column, tail},
		"one tail, a budget of four":       {keptSet(eight, four[1:2], history, 4, 1), 0, 11, []int{11}, []int{0}, column, tail},
		"the last of three":                {keptSet(eight, four[:3], history, 1, 3, -1, -1), 2, 11, []int{1, 2, 11}, []int{2}, column, down},
		"no rows":                          {keptSet(nil, make([][]int, 2), []int{7, 3}, 1, 2, -1), 1, 11, []int{1, 11}, []int{1}, "[3] [7]", nil},
		"no rows and no history":           {keptSet(nil, make([][]int, 2), nil, 1, 0, -1), 1, 11, []int{1, 11}, []int{1}, "none", nil},
		"one row":                          {keptSet([]int{7}, [][]int{{-7}}, []int{7, 8}, 1, -1), 0, 11, []int{11}, []int{0}, "[7] 7 [8]", []int{-7}},
		"a value twice in the history":     {keptSet(eight, four, []int{5, 5, 3, 8}, 1, 1, -1, -1, -1), 1, 11, []int{1, 11, 3, 4}, []int{1}, column, tail},
		"the limits in the history":        {keptSet(eight, four, []int{5, -1000, 3, 1000, 8}, 1, -1, 2, -1, -1), 1, 11, []int{1, 11, 3, 4}, []int{1}, "[-1000] " + column + " [1000]", tail},
		"another order of the same values": {keptSet(eight, four, []int{3, 8, 2, 5}, 1, -1, 2, -1, -1), 1, 11, []int{1, 11, 3, 4}, []int{1}, "1 [2] 2 2 [3] 3 [5] 7 5 [8] 8 9", []int{10, 20, 21, 30, 70, 50, 80, 90}},
	} {
		s, ok := impl.BuildMap(x.s, x.tail)
		if !ok || s.Clock != x.clock || !slices.Equal(s.Used, x.used) || !slices.Equal(impl.BuiltMaps(s), x.built) {
			t.Errorf("%s: BuildMap(%v, %d) = %v, %t, want the Clock %d, the Used %d and the maps %d", name, x.s, x.tail, s, ok, x.clock, x.used, x.built)
			continue
		}
		m := s.Maps[x.tail]
		if impl.FormatCracker(m.Cracker) != x.want || !slices.Equal(m.Tail, x.tails) || m.Applied != len(x.s.History) {
			t.Errorf("%s: BuildMap(%v, %d) has the map %s, %v, want %s with the tails %d", name, x.s, x.tail, impl.FormatCracker(m.Cracker), m, x.want, x.tails)
		}
		checkBuildMap(t, x.s, x.tail)
	}
}

func TestBuildMapOfAllSets(t *testing.T) {
	for name, s := range validSets() {
		n := len(s.Tails)
		for _, tail := range append([]int{n - 1, n, n + 1, 4, 5}, bounds...) {
			checkBuildMap(t, s, tail)
			exists := tail >= 0 && tail < n
			if _, ok := impl.BuildMap(s, tail); ok != (exists && s.Clock < 1000000) {
				t.Errorf("%s: BuildMap(%v, %d) returns %t", name, s, tail, ok)
			}
			if !exists || s.Clock == 1000000 {
				checkNoBuild(t, name, s, tail)
			}
		}
	}
	for name, s := range invalidSets() {
		for _, tail := range []int{math.MinInt, -1, 0, 1, 2, 3, 4, 5, math.MaxInt} {
			checkNoBuild(t, name, s, tail)
		}
	}
}

// TestBuildMapUntilTheClockEnds uses maps as often as the Clock allows.
func TestBuildMapUntilTheClockEnds(t *testing.T) {
	s := withTimes(keptSet(eight, fourTails(), []int{5, 3}, 1, -1, 2, -1, -1), 999990, 1, 999990, 0, 7)
	for i := range 10 {
		s = checkBuildMap(t, s, i%4)
		if s.Clock != 999991+i || s.Used[i%4] != s.Clock {
			t.Errorf("behind %d uses, the set is %v", i+1, s)
		}
	}
	for tail := range 4 {
		checkNoBuild(t, "Clock 1000000", s, tail)
		checkNoMapQuery(t, "Clock 1000000", s, span(3, 8), tail)
	}
	checkQueryMaps(t, s, span(3, 8))
}

// lastUsed returns the last n different tails of the uses, in ascending order.
func lastUsed(uses []int, n int) []int {
	var l []int
	for i := range uses {
		if tail := uses[len(uses)-1-i]; !slices.Contains(l, tail) && len(l) < n {
			l = append(l, tail)
		}
	}
	slices.Sort(l)
	return l
}

// TestEveryOrderOfUses uses the maps of three tails in every order: those that were used last are built, as many as the budget allows.
func TestEveryOrderOfUses(t *testing.T) {
	head, tails := []int{3, 1, 2}, [][]int{{30, 10, 20}, {-3, -1, -2}, {7, 8, 9}}
	x := table(column("a", tails[0]...), column("b", tails[1]...), column("c", tails[2]...))
	everyList([]int{0, 1, 2}, 5, func(uses []int) {
		for budget := 1; budget <= 4; budget++ {
			s := setOf(x, "a", budget)
			s.Head = head
			for i, tail := range uses {
				// The history grows, so that maps lag behind.
				s.History = []int{2, 3, 1, 3, 2}[:i]
				var ok bool
				if s, ok = impl.BuildMap(s, tail); !ok || s.Clock != i+1 || s.Used[tail] != i+1 {
					t.Errorf("after the uses %d with a budget of %d, the set is %v, %t", uses[:i+1], budget, s, ok)
				}
				if want := lastUsed(uses[:i+1], budget); !slices.Equal(impl.BuiltMaps(s), want) {
					t.Errorf("after the uses %d with a budget of %d, the maps %d are built, want %d", uses[:i+1], budget, impl.BuiltMaps(s), want)
				}
				if !sameMap(s.Maps[tail], alignedMap(head, tails[tail], s.History...)) {
					t.Errorf("after the uses %d with a budget of %d, the map is %v", uses[:i+1], budget, s.Maps[tail])
				}
			}
			checkSet(t, "uses", s)
			checkAligned(t, "uses", s)
		}
	})
}

// TestEveryEviction has every three built maps with every Used of a few.
func TestEveryEviction(t *testing.T) {
	everyList([]int{0, 4, 7, 10}, 3, func(times []int) {
		if len(times) < 3 {
			return
		}
		for place := range 4 {
			applied, all := slices.Insert([]int{2, 0, 1}, place, -1), slices.Insert(slices.Clone(times), place, 2)
			for budget := 3; budget <= 4; budget++ {
				s := withTimes(keptSet(eight, fourTails(), []int{5, 3}, budget, applied...), 10, all...)
				got := checkBuildMap(t, s, place)
				least := slices.Index(times, slices.Min(times))
				if least >= place {
					least++
				}
				for i := range 4 {
					if gone := budget == 3 && i == least; got.Built[i] == gone {
						t.Errorf("for the times %d, with a budget of %d, the maps %d are built", all, budget, impl.BuiltMaps(got))
					}
				}
			}
		}
	})
}

// TestBudgetOfOneMap has the edge case of the document: each use of another tail evicts the one before, and the map that is built again is as it was.
func TestBudgetOfOneMap(t *testing.T) {
	s := setOf(fourTable(), "head", 1)
	for _, r := range spans(3, 8, 2, 5, 5, 9, 2, 5, 7, 7) {
		// A query for no tail extends the history alone.
		s, _, _ = impl.QueryMaps(s, r, nil)
		var first [4]impl.Map
		for round := range 3 {
			for tail := range 4 {
				s = checkBuildMap(t, s, tail)
				if !slices.Equal(impl.BuiltMaps(s), []int{tail}) {
					t.Errorf("after the use of %d, the maps %d are built", tail, impl.BuiltMaps(s))
				}
				for i, m := range s.Maps {
					if i != tail && !sameMap(m, impl.Map{}) {
						t.Errorf("after the use of %d, the map of %d is %v", tail, i, m)
					}
				}
				if round == 0 {
					first[tail] = s.Maps[tail]
				}
				if !sameMap(s.Maps[tail], first[tail]) || s.Maps[tail].Applied != len(s.History) {
					t.Errorf("the map of %d is built again as %v, it was %v", tail, s.Maps[tail], first[tail])
				}
				checkAgree(t, "a map that is gone, and the one that is there", eight, first[0], eight, s.Maps[tail], s.Tails[tail])
			}
		}
	}
}

// A mapQuery is what QueryMaps has to return for a set.
type mapQuery struct {
	s       impl.MapSet
	r       impl.Range
	tails   []int
	history []int
	lists   [][]int
	built   []int
	used    []int
}

func TestQueryMapsExamples(t *testing.T) {
	four, empty := fourTails(), [][]int{{}}
	first := keptSet(eight, four, []int{3, 8}, 2, -1, -1, -1, -1)
	// Behind 3 and 8, the rows are 5 1 3, then 7 4 0, then 6 2.
	for name, x := range map[string]mapQuery{
		"the first query":                {setOf(fourTable(), "head", 2), span(3, 8), []int{1}, []int{3, 8}, [][]int{{30, 70, 50}}, []int{1}, []int{0, 1, 0, 0}},
		"two tails":                      {setOf(fourTable(), "head", 2), span(3, 8), []int{1, 2}, []int{3, 8}, [][]int{{30, 70, 50}, {0, 3, 7}}, []int{1, 2}, []int{0, 1, 2, 0}},
		"two tails, the other order":     {setOf(fourTable(), "head", 2), span(3, 8), []int{2, 1}, []int{3, 8}, [][]int{{0, 3, 7}, {30, 70, 50}}, []int{1, 2}, []int{0, 2, 1, 0}},
		"two tails, a budget of one":     {setOf(fourTable(), "head", 1), span(3, 8), []int{1, 2}, []int{3, 8}, [][]int{{30, 70, 50}, {0, 3, 7}}, []int{2}, []int{0, 1, 2, 0}},
		"four tails, a budget of one":    {setOf(fourTable(), "head", 1), span(3, 8), upTo(4), []int{3, 8}, [][]int{{3, 7, 5}, {30, 70, 50}, {0, 3, 7}, {7, 7, 7}}, []int{3}, []int{1, 2, 3, 4}},
		"four tails, a budget of three":  {setOf(fourTable(), "head", 3), span(3, 8), downFrom(4), []int{3, 8}, [][]int{{7, 7, 7}, {0, 3, 7}, {30, 70, 50}, {3, 7, 5}}, []int{0, 1, 2}, []int{4, 3, 2, 1}},
		"four tails, a budget of four":   {setOf(fourTable(), "head", 4), span(3, 8), upTo(4), []int{3, 8}, [][]int{{3, 7, 5}, {30, 70, 50}, {0, 3, 7}, {7, 7, 7}}, upTo(4), []int{1, 2, 3, 4}},
		"the head":                       {setOf(fourTable(), "head", 1), span(3, 8), []int{0}, []int{3, 8}, [][]int{{3, 7, 5}}, []int{0}, []int{1, 0, 0, 0}},
		"no tail":                        {setOf(fourTable(), "head", 1), span(3, 8), nil, []int{3, 8}, nil, nil, make([]int, 4)},
		"no tail in an empty list":       {first, span(2, 5), []int{}, []int{3, 8, 2, 5}, nil, nil, []int{1, 2, 3, 4}},
		"no tail, but a map":             {keptSet(eight, four, []int{3, 8}, 2, -1, 1, -1, -1), span(2, 5), nil, []int{3, 8, 2, 5}, nil, []int{1}, []int{1, 2, 3, 4}},
		"one tail twice":                 {setOf(fourTable(), "head", 1), span(3, 8), []int{1, 1}, []int{3, 8}, [][]int{{30, 70, 50}, {30, 70, 50}}, []int{1}, []int{0, 2, 0, 0}},
		"one tail twice, one between":    {setOf(fourTable(), "head", 1), span(3, 8), []int{1, 2, 1}, []int{3, 8}, [][]int{{30, 70, 50}, {0, 3, 7}, {30, 70, 50}}, []int{1}, []int{0, 3, 2, 0}},
		"one tail four times":            {setOf(fourTable(), "head", 4), span(3, 8), repeated(4, 2), []int{3, 8}, slices.Repeat([][]int{{0, 3, 7}}, 4), []int{2}, []int{0, 0, 4, 0}},
		"both ends in the history":       {first, span(3, 8), []int{1}, []int{3, 8}, [][]int{{30, 70, 50}}, []int{1}, []int{1, 11, 3, 4}},
		"From in the history":            {first, span(3, 9), []int{1}, []int{3, 8, 9}, [][]int{{30, 70, 50, 80}}, []int{1}, []int{1, 11, 3, 4}},
		"To in the history":              {first, span(2, 3), []int{1}, []int{3, 8, 2}, [][]int{{20, 21}}, []int{1}, []int{1, 11, 3, 4}},
		"From is the To before":          {first, span(8, 10), []int{2}, []int{3, 8, 10}, [][]int{{1, 5}}, []int{2}, []int{1, 2, 11, 4}},
		"no end in the history":          {first, span(2, 5), []int{1, 2}, []int{3, 8, 2, 5}, [][]int{{20, 21, 30}, {6, 4, 0}}, []int{1, 2}, []int{1, 11, 12, 4}},
		"both ends around all":           {first, span(-1000, 1000), []int{1}, []int{3, 8, -1000, 1000}, [][]int{{10, 20, 21, 30, 70, 50, 80, 90}}, []int{1}, []int{1, 11, 3, 4}},
		"both ends before all":           {first, span(-5, 1), []int{1}, []int{3, 8, -5, 1}, empty, []int{1}, []int{1, 11, 3, 4}},
		"both ends behind all":           {first, span(10, 11), []int{1}, []int{3, 8, 10, 11}, empty, []int{1}, []int{1, 11, 3, 4}},
		"an empty range":                 {first, span(5, 5), []int{1}, []int{3, 8, 5}, empty, []int{1}, []int{1, 11, 3, 4}},
		"an empty range in the history":  {first, span(8, 8), []int{1, 2}, []int{3, 8}, [][]int{{}, {}}, []int{1, 2}, []int{1, 11, 12, 4}},
		"an empty range, no tail":        {first, span(5, 5), nil, []int{3, 8, 5}, nil, nil, []int{1, 2, 3, 4}},
		"an empty range at -1000":        {first, span(-1000, -1000), []int{1}, []int{3, 8, -1000}, empty, []int{1}, []int{1, 11, 3, 4}},
		"an empty range at 1000":         {first, span(1000, 1000), []int{1}, []int{3, 8, 1000}, empty, []int{1}, []int{1, 11, 3, 4}},
		"one value":                      {first, span(7, 8), []int{1, 2}, []int{3, 8, 7}, [][]int{{70}, {3}}, []int{1, 2}, []int{1, 11, 12, 4}},
		"a value that is not there":      {first, span(4, 5), []int{1}, []int{3, 8, 4, 5}, empty, []int{1}, []int{1, 11, 3, 4}},
		"equal values of the head":       {first, span(2, 3), []int{2, 1, 0}, []int{3, 8, 2}, [][]int{{6, 4}, {20, 21}, {2, 2}}, []int{0, 1}, []int{13, 12, 11, 4}},
		"a map that lags":                {keptSet(eight, four, []int{3, 8}, 2, -1, 1, 0, -1), span(2, 5), []int{1}, []int{3, 8, 2, 5}, [][]int{{20, 21, 30}}, []int{1, 2}, []int{1, 11, 3, 4}},
		"an eviction":                    {keptSet(eight, four, []int{3, 8}, 2, 2, 1, -1, -1), span(2, 5), []int{2}, []int{3, 8, 2, 5}, [][]int{{6, 4, 0}}, []int{1, 2}, []int{1, 2, 11, 4}},
		"an eviction of what comes next": {keptSet(eight, four, []int{3, 8}, 2, 2, 1, -1, -1), span(2, 5), []int{2, 0}, []int{3, 8, 2, 5}, [][]int{{6, 4, 0}, {2, 2, 3}}, []int{0, 2}, []int{12, 2, 11, 4}},
		"no rows":                        {keptSet(nil, make([][]int, 2), nil, 1, -1, -1), span(3, 8), []int{1, 0}, []int{3, 8}, [][]int{{}, {}}, []int{0}, []int{12, 11}},
		"one row inside":                 {keptSet([]int{7}, [][]int{{-7}}, nil, 1, -1), span(3, 8), []int{0}, []int{3, 8}, [][]int{{-7}}, []int{0}, []int{11}},
		"one row, which is To":           {keptSet([]int{7}, [][]int{{-7}}, nil, 1, -1), span(3, 7), []int{0}, []int{3, 7}, empty, []int{0}, []int{11}},
		"one row, which is From":         {keptSet([]int{7}, [][]int{{-7}}, nil, 1, -1), span(7, 9), []int{0}, []int{7, 9}, [][]int{{-7}}, []int{0}, []int{11}},
		"one tail, four times":           {keptSet([]int{7}, [][]int{{-7}}, nil, 1, -1), span(7, 9), make([]int, 4), []int{7, 9}, slices.Repeat([][]int{{-7}}, 4), []int{0}, []int{14}},
	} {
		s, lists, ok := impl.QueryMaps(x.s, x.r, x.tails)
		if !ok || !slices.Equal(s.History, x.history) || !sameLists(lists, x.lists) || !slices.Equal(impl.BuiltMaps(s), x.built) || !slices.Equal(s.Used, x.used) || s.Clock != x.s.Clock+len(x.tails) {
			t.Errorf("%s: QueryMaps(%v, %v, %d) = %v, %d, %t, want the lists %d, the history %d, the maps %d and the Used %d",
				name, x.s, x.r, x.tails, s, lists, ok, x.lists, x.history, x.built, x.used)
		}
		checkQueryMaps(t, x.s, x.r, x.tails...)
	}
}

// someTails are lists of tails of a set, all of which exist.
func someTails(s impl.MapSet) [][]int {
	n := len(s.Tails)
	return [][]int{nil, {}, {0}, {n - 1}, upTo(n), downFrom(n), {0, n - 1, 0}, {n / 2, n / 2}, repeated(4, n-1)}
}

func TestQueryMapsOfAllSets(t *testing.T) {
	for name, s := range validSets() {
		for _, r := range spans(3, 8, 5, 5, -1000, 1000, 2, 3, 0, 999) {
			for _, tails := range someTails(s) {
				checkQueryMaps(t, s, r, tails...)
				valid := len(s.History) <= 58 && s.Clock+len(tails) <= 1000000
				if _, _, ok := impl.QueryMaps(s, r, tails); ok != valid {
					t.Errorf("%s: QueryMaps(%v, %v, %d) returns %t", name, s, r, tails, ok)
				}
				if !valid {
					checkNoMapQuery(t, name, s, r, tails...)
				}
			}
		}
	}
	for name, s := range invalidSets() {
		for _, r := range spans(3, 8, 5, 5, 8, 3) {
			for _, tails := range [][]int{nil, {}, {0}, {1}, {3}, {4}, {0, 1, 2, 3}, {-1}, make([]int, 5)} {
				checkNoMapQuery(t, name, s, r, tails...)
			}
		}
	}
}

func TestQueryMapsOfAllRanges(t *testing.T) {
	sets := map[string]impl.MapSet{
		"a new set": setOf(fourTable(), "head", 2), "maps that lag": eightSet(), "no rows": keptSet(nil, make([][]int, 4), []int{5}, 2, -1, 1, -1, -1),
		"a budget of one": keptSet(eight, fourTails(), []int{5, 3, -1000, 999}, 1, -1, 2, -1, -1),
	}
	for name, s := range sets {
		everyRange(func(r impl.Range) {
			if !isSpan(r) {
				for _, tails := range [][]int{nil, {0}, {2, 1}} {
					checkNoMapQuery(t, name, s, r, tails...)
				}
				return
			}
			checkQueryMaps(t, s, r, 2, 1)
		})
		for what, r := range invalidRanges {
			checkNoMapQuery(t, name+", "+what, s, r, 1)
			checkNoMapQuery(t, name+", "+what, s, r)
		}
	}
}

func TestQueryMapsOfTails(t *testing.T) {
	for n := 1; n <= 4; n++ {
		s := keptSet(eight, fourTails()[:n], []int{5, 3}, min(n, 2), append(repeated(n-1, -1), 1)...)
		for _, wrong := range append([]int{n, n + 1, 4, 5}, bounds...) {
			if wrong >= 0 && wrong < n {
				checkQueryMaps(t, s, span(3, 8), wrong)
				continue
			}
			for _, tails := range [][]int{{wrong}, {0, wrong}, {wrong, n - 1}, {0, n - 1, wrong}, {0, 0, 0, wrong}, {wrong, wrong}} {
				checkNoMapQuery(t, "no such tail", s, span(3, 8), tails...)
				checkQueryMaps(t, s, span(3, 8), tails...)
			}
		}
		for length := range 8 {
			for _, tail := range []int{0, n - 1} {
				tails := repeated(length, tail)
				checkQueryMaps(t, s, span(3, 8), tails...)
				if _, lists, ok := impl.QueryMaps(s, span(3, 8), tails); ok != (length <= 4) || ok && len(lists) != length {
					t.Errorf("QueryMaps of %d tails = %d, %t", length, lists, ok)
				}
				if length > 4 {
					checkNoMapQuery(t, "too many tails", s, span(3, 8), tails...)
				}
			}
		}
		checkNoMapQuery(t, "1000 tails", s, span(3, 8), make([]int, 1000)...)
	}
}

// TestQueryMapsOfLongHistories asks with ends that are in the history already, too: also then there has to be room for two values.
func TestQueryMapsOfLongHistories(t *testing.T) {
	for _, n := range []int{0, 1, 2, 56, 57, 58, 59, 60} {
		history := longHistory(60)[:n]
		sets := []impl.MapSet{keptSet(eight, fourTails(), history, 2, -1, -1, -1, -1), keptSet(eight, fourTails(), history, 2, n, -1, n/2, -1)}
		ranges := spans(3, 8, 5, 5)
		if n >= 2 {
			low, high := min(history[n-1], history[n-2]), max(history[n-1], history[n-2])
			ranges = append(ranges, spans(-1000, 1000, low, high, low, 1000, high, high, -1000, 5)...)
		}
		for _, s := range sets {
			for _, r := range ranges {
				for _, tails := range [][]int{nil, {1}, {0, 1, 2}} {
					if n > 58 {
						checkNoMapQuery(t, "no room in the history", s, r, tails...)
						continue
					}
					checkQueryMaps(t, s, r, tails...)
					if _, _, ok := impl.QueryMaps(s, r, tails); !ok {
						t.Errorf("with a history of %d values, QueryMaps(%v, %v, %d) fails", n, s, r, tails)
					}
				}
			}
		}
	}
	s, _ := checkQueryMaps(t, keptSet(eight, fourTails(), longHistory(58), 1, 58, -1, -1, -1), span(3, 8), 1, 0)
	if len(s.History) != 60 || s.Maps[0].Applied != 60 || !slices.Equal(s.History[58:], []int{3, 8}) {
		t.Errorf("behind a history of 58 values, the set is %v", s)
	}
	checkBuildMap(t, s, 2)
}

func TestQueryMapsOfClocks(t *testing.T) {
	for clock := 999994; clock <= 1000000; clock++ {
		for _, s := range []impl.MapSet{withTimes(eightSet(), clock, 1, 2, 3, 4), withTimes(eightSet(), clock, clock, 0, clock, clock)} {
			for n := range 6 {
				tails := []int{1, 0, 1, 3, 2}[:n]
				valid := n <= 4 && clock+n <= 1000000
				got, lists, ok := impl.QueryMaps(s, span(2, 7), tails)
				if ok != valid || valid && (got.Clock != clock+n || len(lists) != n) {
					t.Errorf("of %d tails at %d, QueryMaps = %v, %d, %t", n, clock, got, lists, ok)
				}
				if !valid {
					checkNoMapQuery(t, "too late", s, span(2, 7), tails...)
				}
				checkQueryMaps(t, s, span(2, 7), tails...)
			}
		}
	}
}

// TestEverySmallMapQuery has every range and every list of tails, for every small head.
func TestEverySmallMapQuery(t *testing.T) {
	everyList([]int{0, 1, 2}, 4, func(head []int) {
		n := len(head)
		tails := [][]int{spread(n), downFrom(n)}
		for budget := 1; budget <= 2; budget++ {
			s := keptSet(head, tails, []int{1}, budget, -1, 1)
			for from := -1; from <= 3; from++ {
				for to := from; to <= 3; to++ {
					checkQueryMaps(t, s, span(from, to), (from+to+2)%2, n%2)
				}
			}
		}
	})
	s := keptSet(eight, fourTails()[:3], []int{5}, 2, -1, 0, 1)
	everyList([]int{-1, 0, 1, 2, 3}, 5, func(tails []int) {
		valid := len(tails) <= 4 && !slices.Contains(tails, -1) && !slices.Contains(tails, 3)
		if _, _, ok := impl.QueryMaps(s, span(3, 8), tails); ok != valid {
			t.Errorf("QueryMaps of the tails %d returns %t", tails, ok)
		}
		if valid {
			checkQueryMaps(t, s, span(3, 8), tails...)
		}
	})
}

// workRanges returns n valid ranges from all over the numbers, some of them with ends that were there before.
func workRanges(n int) []impl.Range {
	l := longHistory(2*n + 2)[2:]
	var ranges []impl.Range
	for i := range n {
		a, b := l[2*i], l[2*i+1]
		switch i % 5 {
		case 1:
			a, b = a/100, b/100
		case 2:
			b = l[max(2*i-3, 0)]
		case 3:
			a, b = a/40, a/40
		}
		ranges = append(ranges, span(min(a, b), max(a, b)))
	}
	return ranges
}

// workTails returns the tails that query k of a set with n tails asks for.
func workTails(k, n int) []int {
	return [][]int{{k % n}, {(k + 1) % n, k % n}, {k / 2 % n, k / 3 % n, k / 5 % n}, {0, n - 1, n / 2, (k*k + 1) % n}, nil}[(k*k+k/4)%5]
}

// TestQueriesWithEvictions runs the same queries with each budget: the answers are those of a set in which no map was ever evicted.
func TestQueriesWithEvictions(t *testing.T) {
	for name, head := range map[string][]int{"eight": eight, "spread": spread(64), "shuffled": shuffled(), "equal": repeated(20, 7), "one": {7}, "none": nil} {
		n := len(head)
		all := [][]int{spread(n), downFrom(n), head, repeated(n, -7)}
		for count := 1; count <= 4; count++ {
			s := keptSet(head, all[:count], nil, 4, repeated(count, -1)...)
			open := s
			var sets []impl.MapSet
			for budget := 1; budget < 4; budget++ {
				sets = append(sets, changed(s, func(x *impl.MapSet) { x.Budget = budget }))
			}
			evicted := 0
			for k, r := range workRanges(24) {
				tails := workTails(k, count)
				var lists [][]int
				open, lists = checkQueryMaps(t, open, r, tails...)
				for i, x := range sets {
					next, got, ok := impl.QueryMaps(x, r, tails)
					if !ok || !sameLists(got, lists) || !slices.Equal(next.History, open.History) || !slices.Equal(next.Used, open.Used) || next.Clock != open.Clock {
						t.Errorf("%s: with a budget of %d, query %d answers %d, %t, want %d", name, x.Budget, k, got, ok, lists)
					}
					for tail, m := range next.Maps {
						if x.Built[tail] && !next.Built[tail] {
							evicted++
						}
						if next.Built[tail] && !sameMap(m, open.Maps[tail]) {
							t.Errorf("%s: with a budget of %d, behind query %d, the map of tail %d is %v, want %v", name, x.Budget, k, tail, m, open.Maps[tail])
						}
					}
					if len(impl.BuiltMaps(next)) > next.Budget {
						t.Errorf("%s: with a budget of %d, the maps %d are built", name, x.Budget, impl.BuiltMaps(next))
					}
					sets[i] = next
				}
			}
			for _, x := range sets {
				checkSet(t, name, x)
				checkAligned(t, name, x)
			}
			if len(impl.BuiltMaps(open)) != count || count > 1 && evicted < 5 {
				t.Errorf("%s: of %d maps, %d were evicted, and %d are there", name, count, evicted, len(impl.BuiltMaps(open)))
			}
		}
	}
}

// TestSetsFromTablesUntilTheHistoryEnds begins with a table and asks until there is no room in the history.
func TestSetsFromTablesUntilTheHistoryEnds(t *testing.T) {
	for budget := 1; budget <= 4; budget++ {
		x := numbered(4, 64)
		s := setOf(x, x.Columns[1].Name, budget)
		asked := 0
		for k, r := range workRanges(60) {
			if len(s.History) > 58 {
				checkNoMapQuery(t, "no room in the history", s, r, k%4)
				continue
			}
			asked++
			s, _ = checkQueryMaps(t, s, r, k%4, (k+budget)%4)
		}
		if asked < 29 || len(s.History) < 59 {
			t.Errorf("with a budget of %d, the set answers %d queries, and the history has %d values", budget, asked, len(s.History))
		}
		for tail := range 4 {
			s = checkBuildMap(t, s, tail)
		}
	}
}

// TestEveryOrderOfQueries asks the same in every order; for the same history, the maps are the same, whatever was asked for them.
func TestEveryOrderOfQueries(t *testing.T) {
	ranges := spans(3, 8, 2, 5, 5, 5, 7, 9)
	everyOrder(upTo(4), func(order []int) {
		a, b := setOf(fourTable(), "head", 1), setOf(fourTable(), "head", 2)
		for i, k := range order {
			a, _ = checkQueryMaps(t, a, ranges[k], i%4)
			b, _ = checkQueryMaps(t, b, ranges[k], 3-i, 1)
		}
		for tail := range 4 {
			x, y := checkBuildMap(t, a, tail), checkBuildMap(t, b, 3-tail)
			checkAgree(t, "two sets", eight, x.Maps[tail], fourTails()[tail], y.Maps[3-tail], fourTails()[3-tail])
		}
	})
}

func TestBuiltMaps(t *testing.T) {
	for name, x := range map[string]struct {
		built []bool
		want  []int
	}{
		"none": {nil, nil}, "an empty list": {[]bool{}, nil}, "one": {[]bool{true}, []int{0}}, "one that is not": {[]bool{false}, nil},
		"the last one": {[]bool{false, false, false, true}, []int{3}}, "the first one": {[]bool{true, false, false, false}, []int{0}},
		"all": {[]bool{true, true, true, true}, upTo(4)}, "none of four": {make([]bool, 4), nil}, "both ends": {[]bool{true, false, false, true}, []int{0, 3}},
		"six": {[]bool{false, true, true, false, true, false}, []int{1, 2, 4}}, "a thousand": {slices.Repeat([]bool{true}, 1000), upTo(1000)},
	} {
		sets := []impl.MapSet{{Built: x.built}, {Built: x.built, Budget: 1, Clock: -1, Head: []int{1000}}}
		everySet(func(_ string, s impl.MapSet) {
			s.Built = x.built
			sets = append(sets, s)
		})
		for _, s := range sets {
			if got := impl.BuiltMaps(s); !slices.Equal(got, x.want) {
				t.Errorf("%s: BuiltMaps(%v) = %d, want %d", name, s, got, x.want)
			}
		}
	}
	everySet(func(name string, s impl.MapSet) {
		var want []int
		for i, built := range s.Built {
			if built {
				want = append(want, i)
			}
		}
		if got := impl.BuiltMaps(s); !slices.Equal(got, want) {
			t.Errorf("%s: BuiltMaps(%v) = %d, want %d", name, s, got, want)
		}
	})
}

// TestEqualMapSetsOfAllSets compares every set of the tables with every other one.
func TestEqualMapSetsOfAllSets(t *testing.T) {
	var all, plain []impl.MapSet
	everySet(func(_ string, s impl.MapSet) { all, plain = append(all, s), append(plain, setWithoutNil(s)) })
	equal := 0
	for i, a := range all {
		for j, b := range all {
			want := reflect.DeepEqual(plain[i], plain[j])
			if impl.EqualMapSets(a, b) != want || impl.EqualMapSets(plain[i], b) != want {
				t.Errorf("EqualMapSets(%v, %v) = %t", a, b, !want)
			}
			if want {
				equal++
			}
		}
	}
	if equal < len(all) {
		t.Errorf("%d of %d sets are equal to themselves", equal, len(all))
	}
}

// TestEqualMapSetsOfEachField changes one number or the length of one list at a time, of sets that are valid and of those that are not.
func TestEqualMapSetsOfEachField(t *testing.T) {
	everySet(func(name string, s impl.MapSet) {
		checkEqualSets(t, name, s, setWithoutNil(s), true)
		// Every number takes a copy of all of them.
		if len(s.History) > 100 || len(s.Head) > 100 {
			return
		}
		differ := func(what string, change func(x *impl.MapSet)) {
			t.Helper()
			checkEqualSets(t, name+", "+what, s, changed(s, change), false)
		}
		differ("another Clock", func(x *impl.MapSet) { x.Clock++ })
		differ("another Budget", func(x *impl.MapSet) { x.Budget-- })
		for i := range s.Head {
			differ("another head", func(x *impl.MapSet) { x.Head[i]++ })
		}
		for i := range s.History {
			differ("another history", func(x *impl.MapSet) { x.History[i]-- })
		}
		for i := range s.Built {
			differ("another Built", func(x *impl.MapSet) { x.Built[i] = !x.Built[i] })
		}
		for i := range s.Used {
			differ("another Used", func(x *impl.MapSet) { x.Used[i]++ })
		}
		for i, tail := range s.Tails {
			for k := range tail {
				differ("another tail", func(x *impl.MapSet) { x.Tails[i][k]++ })
			}
			differ("a longer tail", func(x *impl.MapSet) { x.Tails[i] = append(x.Tails[i], 0) })
		}
		for i, m := range s.Maps {
			differ("another Applied", func(x *impl.MapSet) { x.Maps[i].Applied++ })
			differ("a longer tail of a map", func(x *impl.MapSet) { x.Maps[i].Tail = append(x.Maps[i].Tail, 0) })
			differ("a longer column", func(x *impl.MapSet) { x.Maps[i].Cracker.Values = append(x.Maps[i].Cracker.Values, 0) })
			differ("a row more", func(x *impl.MapSet) { x.Maps[i].Cracker.Rows = append(x.Maps[i].Cracker.Rows, 0) })
			differ("a pivot more", func(x *impl.MapSet) { x.Maps[i].Cracker.Pivots = append(x.Maps[i].Cracker.Pivots, impl.Pivot{}) })
			if n := len(m.Tail); n > 0 {
				differ("another last tail of a map", func(x *impl.MapSet) { x.Maps[i].Tail[n-1]++ })
			}
		}
		for what, change := range map[string]func(x *impl.MapSet){
			"a value more": func(x *impl.MapSet) { x.Head = append(x.Head, 0) }, "a value more of the history": func(x *impl.MapSet) { x.History = append(x.History, 0) },
			"a tail more": func(x *impl.MapSet) { x.Tails = append(x.Tails, nil) }, "a map more": func(x *impl.MapSet) { x.Maps = append(x.Maps, impl.Map{}) },
			"a Built more": func(x *impl.MapSet) { x.Built = append(x.Built, false) }, "a Used more": func(x *impl.MapSet) { x.Used = append(x.Used, 0) },
		} {
			differ(what, change)
		}
	})
	for name, change := range map[string]func(x *impl.MapSet){
		"two tails exchanged":          func(x *impl.MapSet) { x.Tails[0], x.Tails[1] = x.Tails[1], x.Tails[0] },
		"two maps exchanged":           func(x *impl.MapSet) { x.Maps[0], x.Maps[2] = x.Maps[2], x.Maps[0] },
		"two Built exchanged":          func(x *impl.MapSet) { x.Built[0], x.Built[1] = x.Built[1], x.Built[0] },
		"two Used exchanged":           func(x *impl.MapSet) { x.Used[0], x.Used[1] = x.Used[1], x.Used[0] },
		"the history exchanged":        func(x *impl.MapSet) { slices.Reverse(x.History) },
		"the head and a tail":          func(x *impl.MapSet) { x.Head, x.Tails[1] = x.Tails[1], x.Head },
		"the history and Used":         func(x *impl.MapSet) { x.History, x.Used = x.Used, x.History },
		"the Clock and the Budget":     func(x *impl.MapSet) { x.Clock, x.Budget = x.Budget, x.Clock },
		"a part of one tail elsewhere": func(x *impl.MapSet) { x.Tails[0], x.Tails[1] = x.Tails[0][:7], append(x.Tails[0][7:], x.Tails[1]...) },
	} {
		checkEqualSets(t, name, eightSet(), changed(eightSet(), change), false)
	}
}

// TestSetsKeepNoState asks for the same sets between others.
func TestSetsKeepNoState(t *testing.T) {
	first := map[string]impl.MapSet{}
	for range 3 {
		for name, s := range validSets() {
			got, lists, ok := impl.QueryMaps(s, span(3, 8), []int{0})
			if _, found := first[name]; !found {
				first[name] = got
			}
			if want, wantLists, wantOK := queryMaps(s, span(3, 8), []int{0}); !sameSet(got, first[name]) || !sameSet(got, want) || !sameLists(lists, wantLists) || ok != wantOK {
				t.Errorf("%s: QueryMaps(%v) = %v, %d, %t", name, s, got, lists, ok)
			}
			impl.BuildMap(got, 0)
			impl.NewMapSet(fourTable(), "tens", 2)
			impl.QueryMaps(got, span(4, 6), []int{0, 0})
		}
	}
}

// setWithSpare returns the set with marked capacity behind all of its lists.
func setWithSpare(s impl.MapSet) impl.MapSet {
	x := impl.MapSet{Head: spare(s.Head), History: spare(s.History), Used: spare(s.Used), Clock: s.Clock, Budget: s.Budget}
	x.Tails = append(withSpareCapacity(s.Tails), []int{777})[:len(s.Tails)]
	x.Built = append(slices.Clone(s.Built), true, false, true)[:len(s.Built)]
	for _, m := range s.Maps {
		x.Maps = append(x.Maps, mapWithSpare(m))
	}
	x.Maps = append(x.Maps, mapWith(inRows([]int{777}, 888), []int{555}, 444))[:len(s.Maps)]
	return x
}

// wholeSet returns a copy of the set in which all capacity is in use.
func wholeSet(s impl.MapSet) impl.MapSet {
	x := impl.MapSet{
		Head: s.Head[:cap(s.Head)], Tails: wholeLists(s.Tails[:cap(s.Tails)]), History: s.History[:cap(s.History)],
		Built: s.Built[:cap(s.Built)], Used: s.Used[:cap(s.Used)], Clock: s.Clock, Budget: s.Budget,
	}
	for _, m := range s.Maps[:cap(s.Maps)] {
		x.Maps = append(x.Maps, wholeMap(m))
	}
	return setWithoutNil(x)
}

// fillSet overwrites all lists of a set, up to their capacity, and then the lists of lists.
func fillSet(s impl.MapSet) {
	fill(s.Head, 321)
	fill(s.History, 432)
	fill(s.Used, 543)
	for _, tail := range s.Tails {
		fill(tail, 654)
	}
	for _, m := range s.Maps {
		fillMap(m)
	}
	tails, maps, built := s.Tails[:cap(s.Tails)], s.Maps[:cap(s.Maps)], s.Built[:cap(s.Built)]
	for i := range tails {
		tails[i] = []int{765}
	}
	for i := range maps {
		maps[i] = impl.Map{Applied: 876}
	}
	for i := range built {
		built[i] = !built[i]
	}
}

// A setAnswer is what a function of chapter 13 returned.
type setAnswer struct {
	s     impl.MapSet
	lists [][]int
}

func (x setAnswer) same(y setAnswer) bool { return sameSet(x.s, y.s) && sameLists(x.lists, y.lists) }

func (x setAnswer) overwrite() {
	fillSet(x.s)
	for _, l := range x.lists {
		fill(l, 111)
	}
	lists := x.lists[:cap(x.lists)]
	for i := range lists {
		lists[i] = []int{222}
	}
}

// memoryTails are lists of tails, with which a query is possible in some sets, and in others it is not.
func memoryTails() [][]int {
	return [][]int{nil, {}, {0}, {0, 0}, {1, 0}, {0, 1, 2, 3}, {1, 3, 1}, {0, 4}, make([]int, 5)}
}

// setAnswers performs all functions of chapter 13, successfully and not, and returns the sets and lists that they answer.
func setAnswers(s impl.MapSet, x impl.Table, tails [][]int) []setAnswer {
	impl.IsMapSet(s)
	impl.EqualMapSets(s, s)
	l := []setAnswer{{impl.MapSet{}, [][]int{impl.BuiltMaps(s), impl.BuiltMaps(s)}}}
	for _, head := range []string{"head", "tens", "none"} {
		for _, budget := range []int{0, 2} {
			y, _ := impl.NewMapSet(x, head, budget)
			l = append(l, setAnswer{y, nil})
		}
	}
	for _, tail := range []int{-1, 0, 1, 3, 4} {
		y, _ := impl.BuildMap(s, tail)
		l = append(l, setAnswer{y, nil})
	}
	for _, r := range spans(3, 8, 5, 5, 8, 3) {
		for _, list := range tails {
			y, lists, _ := impl.QueryMaps(s, r, list)
			l = append(l, setAnswer{y, lists})
		}
	}
	return l
}

func TestSetArgumentsStay(t *testing.T) {
	everySet(func(name string, given impl.MapSet) {
		s, x, tails := setWithSpare(given), withSpare(fourTable()), withSpareCapacity(memoryTails())
		before, tableBefore, tailsBefore := wholeSet(s), wholeTable(x), wholeLists(tails)
		stay := func(when string) {
			t.Helper()
			if !reflect.DeepEqual(wholeSet(s), before) || !reflect.DeepEqual(wholeTable(x), tableBefore) || !sameLists(wholeLists(tails), tailsBefore) {
				t.Errorf("%s: %s, the arguments have become %v, %v and %v, they were %v, %v and %v",
					name, when, wholeSet(s), wholeTable(x), wholeLists(tails), before, tableBefore, tailsBefore)
			}
		}
		answers := setAnswers(s, x, tails)
		stay("after the calls")
		for _, y := range answers {
			y.overwrite()
		}
		stay("after a change of the answers")
	})
}

func TestSetsAreNewMemory(t *testing.T) {
	everySet(func(name string, given impl.MapSet) {
		s, x, tails := setWithSpare(given), withSpare(fourTable()), withSpareCapacity(memoryTails())
		want := setAnswers(given, fourTable(), memoryTails())
		got := setAnswers(s, x, tails)
		fillSet(s)
		for _, c := range x.Columns {
			fill(c.Values, 123)
		}
		for _, l := range tails {
			fill(l, 333)
		}
		for i, y := range got {
			if !y.same(want[i]) {
				t.Errorf("%s: after a change of the arguments and of other answers, an answer is %v, want %v", name, y, want[i])
			}
			y.overwrite()
		}
	})
}

// listsOf returns all lists of numbers of an answer.
func listsOf(x setAnswer) [][]int {
	l := [][]int{x.s.Head, x.s.History, x.s.Used}
	for _, m := range x.s.Maps {
		l = append(l, m.Cracker.Values, m.Cracker.Rows, m.Tail)
	}
	return slices.Concat(l, x.s.Tails, x.lists)
}

// TestListsOfSetsAreApart has the pivots of the maps and the lists of lists, too.
func TestListsOfSetsAreApart(t *testing.T) {
	everySet(func(name string, given impl.MapSet) {
		want := setAnswers(given, fourTable(), memoryTails())
		for i, x := range setAnswers(setWithSpare(given), withSpare(fourTable()), memoryTails()) {
			checkApart(t, name, listsOf(x)...)
			for k, m := range x.s.Maps {
				if !slices.Equal(m.Cracker.Pivots, want[i].s.Maps[k].Cracker.Pivots) {
					t.Errorf("%s: after a change of other lists, the pivots are %v", name, m.Cracker.Pivots)
				}
				fillColumn(m.Cracker)
			}
			if !slices.Equal(x.s.Built, want[i].s.Built) {
				t.Errorf("%s: after a change of other lists, the Built are %t", name, x.s.Built)
			}
			// The lists of the query and the tails are lists of the same type.
			for k := range x.lists[:cap(x.lists)] {
				x.lists[:cap(x.lists)][k] = nil
			}
			for k, tail := range x.s.Tails {
				if len(tail) != len(want[i].s.Tails[k]) {
					t.Errorf("%s: after a change of the lists, the tails are %d", name, x.s.Tails)
				}
			}
		}
	})
}

// TestSetsOfOneList gives a head, tails, a history and maps that are the same memory.
func TestSetsOfOneList(t *testing.T) {
	list := spare([]int{0, 1, 2, 3})
	m := mapWith(impl.Cracker{Values: list, Rows: list}, list, 0)
	s := impl.MapSet{
		Head: list, Tails: [][]int{list, list, list, list}, History: list, Maps: []impl.Map{m, m, {}, m}, Built: []bool{true, true, false, true}, Used: list, Clock: 3, Budget: 3,
	}
	checkIsMapSet(t, "one list", s, true)
	for tail := -1; tail <= 4; tail++ {
		checkBuildMap(t, s, tail)
	}
	for _, r := range spans(1, 3, 0, 4, -5, 9, 3, 1) {
		for _, tails := range [][]int{list, list[:2], nil, {2, 2}, {7}} {
			checkQueryMaps(t, s, r, tails...)
			got, lists, _ := impl.QueryMaps(s, r, tails)
			checkApart(t, "one list", listsOf(setAnswer{got, lists})...)
		}
	}
	if !slices.Equal(list[:cap(list)][:7], []int{0, 1, 2, 3, 777, 888, 555}) {
		t.Errorf("the list has become %d", list[:cap(list)])
	}
}

// TestSetsWithTheSameBeginning continues one set in several ways, of which no answer may change another one.
func TestSetsWithTheSameBeginning(t *testing.T) {
	s := setWithSpare(keptSet(eight, fourTails(), []int{3, 8}, 2, -1, 2, 1, -1))
	a, _, _ := impl.QueryMaps(s, span(2, 5), []int{1})
	b, _, _ := impl.QueryMaps(s, span(7, 9), []int{2})
	c, _ := impl.BuildMap(s, 0)
	d, lists, _ := impl.QueryMaps(a, span(1, 5), []int{3, 1})
	for name, x := range map[string]struct {
		s       impl.MapSet
		history []int
		built   []int
		used    []int
	}{
		"a query":       {a, []int{3, 8, 2, 5}, []int{1, 2}, []int{1, 11, 3, 4}},
		"another query": {b, []int{3, 8, 7, 9}, []int{1, 2}, []int{1, 2, 11, 4}},
		"a use":         {c, []int{3, 8}, []int{0, 2}, []int{11, 2, 3, 4}},
		"a query more":  {d, []int{3, 8, 2, 5, 1}, []int{1, 3}, []int{1, 13, 3, 12}},
		"the set":       {s, []int{3, 8}, []int{1, 2}, []int{1, 2, 3, 4}},
	} {
		if !slices.Equal(x.s.History, x.history) || !slices.Equal(impl.BuiltMaps(x.s), x.built) || !slices.Equal(x.s.Used, x.used) {
			t.Errorf("%s: the set is %v, want the history %d, the maps %d and the Used %d", name, x.s, x.history, x.built, x.used)
		}
		checkSet(t, name, x.s)
	}
	if !sameLists(lists, [][]int{{7, 7, 7, 7}, {10, 20, 21, 30}}) {
		t.Errorf("the lists are %d", lists)
	}
}
