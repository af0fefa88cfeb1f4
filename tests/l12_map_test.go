package tests

import (
	"math"
	"reflect"
	"slices"
	"testing"

	"loop.example/g01984/impl"
)

// Promise 8, as far as chapter 12 goes: maps with the same history agree position by position, also one that was thrown away and built again.

// tens has for each of the eight values one that tells which it was.
var tens = []int{50, 20, 90, 21, 70, 10, 80, 30}

func mapWith(c impl.Cracker, tail []int, applied int) impl.Map {
	return impl.Map{Cracker: c, Tail: tail, Applied: applied}
}

// alignedMap returns the map of two lists behind a history.
func alignedMap(head, tail []int, history ...int) impl.Map {
	m, _, _ := impl.AlignMap(impl.NewMap(head, tail), history)
	return m
}

// mapWithoutNil returns the map with an empty list for each nil list.
func mapWithoutNil(m impl.Map) impl.Map {
	return mapWith(withoutNil(m.Cracker), append([]int{}, m.Tail...), m.Applied)
}

// sameMap takes nil and empty lists as equal, as the document does.
func sameMap(a, b impl.Map) bool { return reflect.DeepEqual(mapWithoutNil(a), mapWithoutNil(b)) }

func areNumbers(l []int) bool {
	for _, v := range l {
		if v < -999 || v > 999 {
			return false
		}
	}
	return len(l) <= 64
}

func newMap(head, tail []int) impl.Map {
	if !areNumbers(head) || !areNumbers(tail) || len(head) != len(tail) {
		return impl.Map{}
	}
	return mapWith(cracked(head), tail, 0)
}

// isMap has a condition for each one of the document.
func isMap(m impl.Map) bool {
	if !isColumn(m.Cracker) || !areNumbers(m.Tail) {
		return false
	}
	return len(m.Cracker.Values) == len(m.Tail) && m.Applied >= 0 && m.Applied <= 60
}

// crackMap knows no swaps: each value of the tail is looked up by the row to which it belongs.
func crackMap(m impl.Map, v int) (impl.Map, bool) {
	if !isMap(m) || v < -1000 || v > 1000 {
		return m, false
	}
	tails := map[int]int{}
	for place, row := range m.Cracker.Rows {
		tails[row] = m.Tail[place]
	}
	c, _, _ := crackColumn(m.Cracker, v)
	x := mapWith(c, nil, m.Applied)
	for _, row := range c.Rows {
		x.Tail = append(x.Tail, tails[row])
	}
	return x, true
}

func isHistory(l []int) bool {
	for _, v := range l {
		if v < -1000 || v > 1000 {
			return false
		}
	}
	return len(l) <= 60
}

func alignMap(m impl.Map, history []int) (impl.Map, int, bool) {
	if !isMap(m) || !isHistory(history) || m.Applied > len(history) {
		return m, 0, false
	}
	x, n := m, 0
	for i, v := range history {
		if i >= m.Applied {
			x, _ = crackMap(x, v)
			n++
		}
	}
	x.Applied = m.Applied + n
	return x, n, true
}

func areAligned(a, b impl.Map) bool {
	return isMap(a) && isMap(b) && a.Applied == b.Applied && reflect.DeepEqual(withoutNil(a.Cracker), withoutNil(b.Cracker))
}

func checkNewMap(t *testing.T, head, tail []int) {
	t.Helper()
	got, want := impl.NewMap(head, tail), newMap(head, tail)
	if !sameMap(got, want) {
		t.Errorf("NewMap(%d, %d) = %v, want %v", head, tail, got, want)
	}
	if !impl.IsMap(got) {
		t.Errorf("NewMap(%d, %d) = %v, which is not valid", head, tail, got)
	}
}

func checkIsMap(t *testing.T, m impl.Map) {
	t.Helper()
	if got := impl.IsMap(m); got != isMap(m) {
		t.Errorf("IsMap(%v) = %t", m, got)
	}
}

// checkCrackMap compares with the function above, with CrackAt, and with the same swaps in the tail.
func checkCrackMap(t *testing.T, m impl.Map, v int) impl.Map {
	t.Helper()
	want, wantOK := crackMap(m, v)
	got, ok := impl.CrackMap(m, v)
	if !sameMap(got, want) || ok != wantOK {
		t.Errorf("CrackMap(%v, %d) = %v, %t, want %v, %t", m, v, got, ok, want, wantOK)
	}
	if !ok || !wantOK {
		return got
	}
	if !isMap(got) || !impl.IsMap(got) {
		t.Errorf("CrackMap(%v, %d) = %v, which is not valid", m, v, got)
	}
	c, l, _ := impl.CrackAt(m.Cracker, v)
	tail := slices.Clone(m.Tail)
	for _, s := range l {
		tail[s.I], tail[s.J] = tail[s.J], tail[s.I]
	}
	if !impl.EqualCrackers(got.Cracker, c) || !slices.Equal(got.Tail, tail) || got.Applied != m.Applied {
		t.Errorf("CrackMap(%v, %d) = %v, but CrackAt leads to %v and %d", m, v, got, c, tail)
	}
	if again, ok := impl.CrackMap(got, v); !ok || !sameMap(again, got) {
		t.Errorf("CrackMap(%v, %d), again, = %v, %t", got, v, again, ok)
	}
	return got
}

// checkAlignMap compares with the function above, with single divisions, and with a second alignment.
func checkAlignMap(t *testing.T, m impl.Map, history []int) impl.Map {
	t.Helper()
	want, wantN, wantOK := alignMap(m, history)
	got, n, ok := impl.AlignMap(m, history)
	if !sameMap(got, want) || n != wantN || ok != wantOK {
		t.Errorf("AlignMap(%v, %d) = %v, %d, %t, want %v, %d, %t", m, history, got, n, ok, want, wantN, wantOK)
	}
	if !ok || !wantOK {
		return got
	}
	if !isMap(got) || !impl.IsMap(got) {
		t.Errorf("AlignMap(%v, %d) = %v, which is not valid", m, history, got)
	}
	if got.Applied != len(history) || n != len(history)-m.Applied {
		t.Errorf("AlignMap(%v, %d) has the Applied %d, after %d divisions", m, history, got.Applied, n)
	}
	single := m
	for _, v := range history[m.Applied:] {
		single, _ = impl.CrackMap(single, v)
	}
	single.Applied = len(history)
	if !sameMap(single, got) {
		t.Errorf("AlignMap(%v, %d) = %v, but the single divisions lead to %v", m, history, got, single)
	}
	if again, n, ok := impl.AlignMap(got, history); !ok || n != 0 || !sameMap(again, got) {
		t.Errorf("AlignMap(%v, %d), again, = %v, %d, %t", got, history, again, n, ok)
	}
	return got
}

// checkAreAligned asks in both orders.
func checkAreAligned(t *testing.T, name string, a, b impl.Map, want bool) {
	t.Helper()
	if got := impl.AreAligned(a, b); got != want {
		t.Errorf("%s: AreAligned(%v, %v) = %t", name, a, b, got)
	}
	if got := impl.AreAligned(b, a); got != want {
		t.Errorf("%s: AreAligned(%v, %v) = %t", name, b, a, got)
	}
}

// checkEqualMaps asks in both orders, and for each map and itself.
func checkEqualMaps(t *testing.T, name string, a, b impl.Map, want bool) {
	t.Helper()
	if impl.EqualMaps(a, b) != want || impl.EqualMaps(b, a) != want {
		t.Errorf("%s: EqualMaps(%v, %v) = %t", name, a, b, !want)
	}
	if !impl.EqualMaps(a, a) || !impl.EqualMaps(b, b) || !impl.EqualMaps(a, mapWithoutNil(a)) || !impl.EqualMaps(mapWithoutNil(b), b) {
		t.Errorf("%s: %v or %v is not equal to itself", name, a, b)
	}
}

// checkAgree asks whether both maps have the same row at each place, with the values that the row has in the given lists.
func checkAgree(t *testing.T, name string, head []int, a impl.Map, tailA []int, b impl.Map, tailB []int) {
	t.Helper()
	checkAreAligned(t, name, a, b, true)
	if !slices.Equal(a.Cracker.Rows, b.Cracker.Rows) || len(a.Cracker.Rows) != len(head) {
		t.Errorf("%s: the rows are %d and %d", name, a.Cracker.Rows, b.Cracker.Rows)
		return
	}
	for place, row := range a.Cracker.Rows {
		got := []int{a.Cracker.Values[place], b.Cracker.Values[place], a.Tail[place], b.Tail[place]}
		if want := []int{head[row], head[row], tailA[row], tailB[row]}; !slices.Equal(got, want) {
			t.Errorf("%s: at %d, where row %d is, the maps %v and %v have %d, want %d", name, place, row, a, b, got, want)
		}
	}
}

func checkNoMapCrack(t *testing.T, name string, m impl.Map, v int) {
	t.Helper()
	if got, ok := impl.CrackMap(m, v); ok || !sameMap(got, m) {
		t.Errorf("%s: CrackMap(%v, %d) = %v, %t", name, m, v, got, ok)
	}
}

func checkNoAlignment(t *testing.T, name string, m impl.Map, history []int) {
	t.Helper()
	if got, n, ok := impl.AlignMap(m, history); ok || n != 0 || !sameMap(got, m) {
		t.Errorf("%s: AlignMap(%v, %d) = %v, %d, %t", name, m, history, got, n, ok)
	}
}

// eightMap is the map of the eight values and their tens behind the divisions at 5 and 3.
func eightMap() impl.Map {
	return mapWith(crackedAt(eight, 5, 3), []int{21, 20, 10, 30, 70, 90, 80, 50}, 2)
}

func validMaps() map[string]impl.Map {
	l := map[string]impl.Map{
		"the zero map":               {},
		"empty lists":                mapWith(withoutNil(impl.Cracker{}), []int{}, 0),
		"a new map":                  mapWith(impl.NewCracker(eight), tens, 0),
		"two divisions":              eightMap(),
		"less Applied than pivots":   mapWith(eightMap().Cracker, tens, 0),
		"more Applied than pivots":   mapWith(eightMap().Cracker, tens, 9),
		"Applied without pivots":     mapWith(impl.NewCracker(eight), tens, 1),
		"Applied without elements":   mapWith(impl.Cracker{}, nil, 3),
		"Applied of 59":              mapWith(eightMap().Cracker, tens, 59),
		"Applied of 60":              mapWith(eightMap().Cracker, tens, 60),
		"Applied of 60, no elements": mapWith(impl.Cracker{}, nil, 60),
		"the tail is the head":       mapWith(impl.NewCracker(eight), eight, 0),
		"the tail is the rows":       mapWith(impl.NewCracker(eight), upTo(8), 0),
		"equal tails":                mapWith(eightMap().Cracker, repeated(8, 7), 2),
		"tails of the limits":        mapWith(cracked([]int{5, 6}), []int{-999, 999}, 0),
		"tails of the limits, 64":    mapWith(cracked(spread(64)), append(repeated(32, 999), repeated(32, -999)...), 0),
		"one element":                mapWith(cracked([]int{7}), []int{-7}, 0),
		"64 elements":                mapWith(divided(spread(64), -300, 0, 300), spread(64), 3),
	}
	for name, c := range validColumns {
		l["with the column "+name] = mapWith(c, spread(len(c.Values)), len(c.Pivots)%61)
	}
	return l
}

// invalidMaps are not valid for one reason only, as far as one is possible without another.
func invalidMaps() map[string]impl.Map {
	c := eightMap().Cracker
	l := map[string]impl.Map{
		"Applied of -1":              mapWith(c, tens, -1),
		"Applied of 61":              mapWith(c, tens, 61),
		"Applied of -1, no elements": mapWith(impl.Cracker{}, nil, -1),
		"Applied of 61, no elements": mapWith(impl.Cracker{}, nil, 61),
		"the least int as Applied":   mapWith(c, tens, math.MinInt),
		"the greatest int, Applied":  mapWith(c, tens, math.MaxInt),
		"no tail":                    mapWith(c, nil, 2),
		"a tail without a column":    mapWith(impl.Cracker{}, tens, 0),
		"one tail, no elements":      mapWith(impl.Cracker{}, []int{7}, 0),
		"no tail, one element":       mapWith(cracked([]int{7}), nil, 0),
		"a tail less":                mapWith(c, tens[:7], 2),
		"a tail more":                mapWith(c, append(slices.Clone(tens), 7), 2),
		"a tail twice as long":       mapWith(c, append(slices.Clone(tens), tens...), 2),
		"63 tails, 64 elements":      mapWith(cracked(spread(64)), spread(63), 0),
		"64 tails, 63 elements":      mapWith(cracked(spread(63)), spread(64), 0),
		"65 tails, 64 elements":      mapWith(cracked(spread(64)), spread(65), 0),
		"65 tails, 65 elements":      mapWith(cracked(spread(65)), spread(65), 0),
		"64 tails, 65 elements":      mapWith(cracked(spread(65)), spread(64), 0),
		"pivots and one tail":        mapWith(cracked(nil, 3, 0), []int{7}, 1),
		"nothing that is valid":      mapWith(impl.Cracker{Values: []int{1000}, Rows: []int{-1, 0}, Pivots: pivots(1001, 7)}, []int{-1000, 1, 2}, 61),
	}
	for name, tail := range noQueryValues {
		l["with the tail of "+name] = mapWith(cracked(spread(len(tail))), tail, 0)
	}
	for name, column := range invalidColumns {
		l["with the column of "+name] = mapWith(column, spread(len(column.Values)), 1)
	}
	return l
}

func everyMap(visit func(name string, m impl.Map)) {
	for name, m := range validMaps() {
		visit(name, m)
	}
	for name, m := range invalidMaps() {
		visit(name, m)
	}
}

func TestNewMapExamples(t *testing.T) {
	for name, x := range map[string]struct{ head, tail, rows []int }{
		"ordinary":             {[]int{3, 1, 2}, []int{30, 10, 20}, []int{0, 1, 2}},
		"eight":                {eight, tens, []int{0, 1, 2, 3, 4, 5, 6, 7}},
		"no values":            {nil, nil, nil},
		"empty lists":          {[]int{}, []int{}, nil},
		"nil and an empty one": {nil, []int{}, nil},
		"an empty one and nil": {[]int{}, nil, nil},
		"one value":            {[]int{7}, []int{-7}, []int{0}},
		"the limits":           {[]int{999, -999, 0}, []int{-999, 0, 999}, []int{0, 1, 2}},
		"equal values":         {[]int{5, 5, 5}, []int{7, 7, 7}, []int{0, 1, 2}},
		"the same list":        {eight, eight, []int{0, 1, 2, 3, 4, 5, 6, 7}},
		"63 values":            {spread(63), downFrom(63), upTo(63)},
		"64 values":            {spread(64), downFrom(64), upTo(64)},
		"64 equal values":      {repeated(64, 999), repeated(64, -999), upTo(64)},
	} {
		got := impl.NewMap(x.head, x.tail)
		if !slices.Equal(got.Cracker.Values, x.head) || !slices.Equal(got.Cracker.Rows, x.rows) || len(got.Cracker.Pivots) != 0 || !slices.Equal(got.Tail, x.tail) || got.Applied != 0 {
			t.Errorf("%s: NewMap(%d, %d) = %v", name, x.head, x.tail, got)
		}
		checkNewMap(t, x.head, x.tail)
	}
}

// TestNewMapOfInvalidLists has a list that is not valid as the head, as the tail and as both, beside valid ones of the same and of other lengths.
func TestNewMapOfInvalidLists(t *testing.T) {
	for name, l := range noQueryValues {
		n := len(l)
		for _, other := range [][]int{spread(n), repeated(n, 0), spread(min(n, 64)), spread(n - 1), nil, {7}, l} {
			for _, pair := range [][2][]int{{l, other}, {other, l}} {
				if got := impl.NewMap(pair[0], pair[1]); !sameMap(got, impl.Map{}) {
					t.Errorf("%s: NewMap(%d, %d) = %v", name, pair[0], pair[1], got)
				}
				checkNewMap(t, pair[0], pair[1])
			}
		}
	}
	for place := range eight {
		for _, v := range bounds {
			checkNewMap(t, replaced(eight, place, v), tens)
			checkNewMap(t, eight, replaced(tens, place, v))
			checkNewMap(t, replaced(eight, place, v), replaced(tens, 7-place, v))
		}
	}
}

func TestNewMapOfAllLengths(t *testing.T) {
	for n := range 67 {
		for k := range 67 {
			checkNewMap(t, spread(n), downFrom(k))
			empty := len(impl.NewMap(spread(n), downFrom(k)).Tail) == 0
			if full := n == k && 0 < n && n <= 64; empty == full {
				t.Errorf("NewMap of %d and %d values is empty: %t", n, k, empty)
			}
		}
	}
	if x := impl.NewMap([]int{1}, nil); !sameMap(x, impl.Map{}) {
		t.Errorf("NewMap without a tail = %v", x)
	}
	if x := impl.NewMap(nil, []int{1}); !sameMap(x, impl.Map{}) {
		t.Errorf("NewMap without a head = %v", x)
	}
}

func TestIsMapExamples(t *testing.T) {
	if impl.MaxHistory != 60 {
		t.Errorf("MaxHistory = %d", impl.MaxHistory)
	}
	for name, m := range validMaps() {
		if !impl.IsMap(m) || !isMap(m) || !impl.IsMap(mapWithoutNil(m)) {
			t.Errorf("%s: IsMap(%v) = false", name, m)
		}
	}
	for name, m := range invalidMaps() {
		if impl.IsMap(m) || isMap(m) || impl.IsMap(mapWithoutNil(m)) {
			t.Errorf("%s: IsMap(%v) = true", name, m)
		}
	}
}

// TestIsMapOfEachField changes one field of the maps at a time.
func TestIsMapOfEachField(t *testing.T) {
	everyMap(func(name string, m impl.Map) {
		for _, n := range append([]int{58, 59, 60, 61, 62}, bounds...) {
			checkIsMap(t, mapWith(m.Cracker, m.Tail, n))
		}
		for place := range m.Tail {
			for _, v := range []int{-1001, -1000, -999, 0, 999, 1000, 1001} {
				checkIsMap(t, mapWith(m.Cracker, replaced(m.Tail, place, v), m.Applied))
			}
		}
		for _, n := range []int{0, 1, len(m.Tail) - 1, len(m.Tail), len(m.Tail) + 1, 63, 64, 65, 66} {
			checkIsMap(t, mapWith(m.Cracker, spread(max(n, 0)), m.Applied))
		}
		if len(m.Cracker.Pivots) > 100 {
			return
		}
		for _, other := range []map[string]impl.Cracker{validColumns, invalidColumns} {
			for _, c := range other {
				checkIsMap(t, mapWith(c, m.Tail, m.Applied))
			}
		}
	})
}

func TestCrackMapExamples(t *testing.T) {
	for name, x := range map[string]struct {
		head, tail, before []int
		v                  int
		want               string
		rows, tails        []int
	}{
		"ordinary":                  {eight, tens, nil, 5, "3 2 1 2 [5] 7 9 8 5", []int{7, 1, 5, 3, 4, 2, 6, 0}, []int{30, 20, 10, 21, 70, 90, 80, 50}},
		"in the first piece":        {eight, tens, []int{5}, 2, "1 [2] 2 3 2 [5] 7 9 8 5", []int{5, 1, 7, 3, 4, 2, 6, 0}, []int{10, 20, 30, 21, 70, 90, 80, 50}},
		"in the last piece":         {eight, tens, []int{5}, 8, "3 2 1 2 [5] 7 5 [8] 8 9", []int{7, 1, 5, 3, 4, 0, 6, 2}, []int{30, 20, 10, 21, 70, 50, 80, 90}},
		"in a middle piece":         {eight, tens, []int{8, 3}, 5, "1 2 2 [3] 3 [5] 7 5 [8] 8 9", []int{5, 1, 3, 7, 4, 0, 6, 2}, []int{10, 20, 21, 30, 70, 50, 80, 90}},
		"a pivot already":           {eight, tens, []int{5, 3}, 5, "2 2 1 [3] 3 [5] 7 9 8 5", []int{3, 1, 5, 7, 4, 2, 6, 0}, []int{21, 20, 10, 30, 70, 90, 80, 50}},
		"another pivot already":     {eight, tens, []int{5, 3}, 3, "2 2 1 [3] 3 [5] 7 9 8 5", []int{3, 1, 5, 7, 4, 2, 6, 0}, []int{21, 20, 10, 30, 70, 90, 80, 50}},
		"between two values":        {eight, tens, nil, 6, "5 2 3 2 1 [6] 7 8 9", []int{0, 1, 7, 3, 5, 4, 6, 2}, []int{50, 20, 30, 21, 10, 70, 80, 90}},
		"before all values":         {eight, tens, nil, 0, "[0] 5 2 9 2 7 1 8 3", upTo(8), tens},
		"behind all values":         {eight, tens, nil, 10, "5 2 9 2 7 1 8 3 [10]", upTo(8), tens},
		"the least value":           {eight, tens, nil, 1, "[1] 5 2 9 2 7 1 8 3", upTo(8), tens},
		"the greatest value":        {eight, tens, nil, 9, "5 2 3 2 7 1 8 [9] 9", []int{0, 1, 7, 3, 4, 5, 6, 2}, []int{50, 20, 30, 21, 70, 10, 80, 90}},
		"-1000":                     {eight, tens, []int{5}, -1000, "[-1000] 3 2 1 2 [5] 7 9 8 5", []int{7, 1, 5, 3, 4, 2, 6, 0}, []int{30, 20, 10, 21, 70, 90, 80, 50}},
		"1000":                      {eight, tens, []int{5}, 1000, "3 2 1 2 [5] 7 9 8 5 [1000]", []int{7, 1, 5, 3, 4, 2, 6, 0}, []int{30, 20, 10, 21, 70, 90, 80, 50}},
		"-1000 already":             {eight, tens, []int{-1000}, -1000, "[-1000] 5 2 9 2 7 1 8 3", upTo(8), tens},
		"1000 already":              {eight, tens, []int{1000}, 1000, "5 2 9 2 7 1 8 3 [1000]", upTo(8), tens},
		"an empty piece":            {eight, tens, []int{4, 6}, 5, "3 2 1 2 [4] [5] 5 [6] 9 8 7", []int{7, 1, 5, 3, 0, 2, 6, 4}, []int{30, 20, 10, 21, 50, 90, 80, 70}},
		"no elements":               {nil, nil, nil, 3, "[3]", nil, nil},
		"no elements, but a pivot":  {nil, nil, []int{3}, 7, "[3] [7]", nil, nil},
		"one element":               {[]int{7}, []int{-7}, nil, 7, "[7] 7", []int{0}, []int{-7}},
		"one lesser element":        {[]int{7}, []int{-7}, nil, 8, "7 [8]", []int{0}, []int{-7}},
		"two elements exchanged":    {[]int{9, 1}, []int{1, 9}, nil, 5, "1 [5] 9", []int{1, 0}, []int{9, 1}},
		"three elements":            {[]int{3, 1, 2}, []int{30, 10, 20}, nil, 2, "1 [2] 3 2", []int{1, 0, 2}, []int{10, 30, 20}},
		"no swap needed":            {[]int{1, 2, 7, 8}, []int{4, 3, 2, 1}, nil, 5, "1 2 [5] 7 8", upTo(4), []int{4, 3, 2, 1}},
		"all elements exchanged":    {[]int{9, 8, 7, 1, 2, 3}, []int{1, 2, 3, 4, 5, 6}, nil, 5, "3 2 1 [5] 7 8 9", downFrom(6), []int{6, 5, 4, 3, 2, 1}},
		"equal values of the head":  {[]int{5, 5, 5}, []int{1, 2, 3}, nil, 5, "[5] 5 5 5", upTo(3), []int{1, 2, 3}},
		"equal values among others": {[]int{5, 4, 5, 4}, []int{1, 2, 3, 4}, nil, 5, "4 4 [5] 5 5", []int{3, 1, 2, 0}, []int{4, 2, 3, 1}},
		"equal values of the tail":  {eight, repeated(8, 7), nil, 5, "3 2 1 2 [5] 7 9 8 5", []int{7, 1, 5, 3, 4, 2, 6, 0}, repeated(8, 7)},
		"the tail is the head":      {eight, eight, nil, 5, "3 2 1 2 [5] 7 9 8 5", []int{7, 1, 5, 3, 4, 2, 6, 0}, []int{3, 2, 1, 2, 7, 9, 8, 5}},
		"a tail that descends":      {eight, downFrom(8), []int{3}, 8, "1 2 2 [3] 3 7 5 [8] 8 9", []int{5, 1, 3, 7, 4, 0, 6, 2}, []int{2, 6, 4, 0, 3, 7, 1, 5}},
		"the limits of the tail":    {[]int{9, 1}, []int{999, -999}, nil, 5, "1 [5] 9", []int{1, 0}, []int{-999, 999}},
		"the limits of the head":    {[]int{999, -999}, []int{0, 1}, nil, 0, "-999 [0] 999", []int{1, 0}, []int{1, 0}},
		"below 0":                   {[]int{-1, -5, -3}, []int{1, 5, 3}, nil, -3, "-5 [-3] -1 -3", []int{1, 0, 2}, []int{5, 1, 3}},
	} {
		m := impl.NewMap(x.head, x.tail)
		for _, v := range x.before {
			m = checkCrackMap(t, m, v)
		}
		for _, applied := range []int{0, 1, 59, 60} {
			m.Applied = applied
			got, ok := impl.CrackMap(m, x.v)
			if !ok || impl.FormatCracker(got.Cracker) != x.want || !slices.Equal(got.Cracker.Rows, x.rows) || !slices.Equal(got.Tail, x.tails) || got.Applied != applied {
				t.Errorf("%s: CrackMap(%v, %d) = %s, %v, %t, want %s, the rows %d and the tails %d",
					name, m, x.v, impl.FormatCracker(got.Cracker), got, ok, x.want, x.rows, x.tails)
			}
			checkCrackMap(t, m, x.v)
		}
	}
}

func TestCrackMapOfAllMaps(t *testing.T) {
	for name, m := range validMaps() {
		values := append([]int{3, 5}, bounds...)
		for i := 0; i < len(m.Cracker.Pivots); i += len(m.Cracker.Pivots)/5 + 1 {
			v := m.Cracker.Pivots[i].Value
			values = append(values, v-1, v, v+1)
			if -1000 <= v && v <= 1000 {
				if got, ok := impl.CrackMap(m, v); !ok || !sameMap(got, m) {
					t.Errorf("%s: CrackMap(%v, %d), a pivot already, = %v, %t", name, m, v, got, ok)
				}
			}
		}
		for _, v := range values {
			checkCrackMap(t, m, v)
			if v < -1000 || v > 1000 {
				checkNoMapCrack(t, name, m, v)
			}
		}
	}
	for name, m := range invalidMaps() {
		for _, v := range append([]int{3, 5}, bounds...) {
			checkNoMapCrack(t, name, m, v)
		}
		for _, p := range m.Cracker.Pivots {
			checkNoMapCrack(t, name, m, p.Value)
		}
	}
}

// TestEverySmallCrackMap has tails that tell each row, and those that do not.
func TestEverySmallCrackMap(t *testing.T) {
	everyList([]int{0, 1, 2}, 4, func(head []int) {
		for set := range 1 << 4 {
			var at []int
			for v := range 4 {
				if set>>v&1 == 1 {
					at = append(at, v)
				}
			}
			c := divided(head, at...)
			for v := -1; v <= 4; v++ {
				checkCrackMap(t, mapWith(c, spread(len(head)), 3), v)
				checkCrackMap(t, mapWith(c, c.Values, 0), v)
				checkCrackMap(t, mapWith(c, repeated(len(head), 1), 60), v)
			}
		}
	})
}

// An alignment is what AlignMap has to return for a map that is behind a part of the history already.
type alignment struct {
	head, tail     []int
	first, history []int
	want           string
	rows, tails    []int
	applied, n     int
}

func TestAlignMapExamples(t *testing.T) {
	for name, x := range map[string]alignment{
		"one division":                   {eight, tens, nil, []int{5}, "3 2 1 2 [5] 7 9 8 5", []int{7, 1, 5, 3, 4, 2, 6, 0}, []int{30, 20, 10, 21, 70, 90, 80, 50}, 1, 1},
		"two divisions":                  {eight, tens, nil, []int{5, 3}, "2 2 1 [3] 3 [5] 7 9 8 5", []int{3, 1, 5, 7, 4, 2, 6, 0}, []int{21, 20, 10, 30, 70, 90, 80, 50}, 2, 2},
		"the other way around":           {eight, tens, nil, []int{3, 5}, "1 2 2 [3] 3 [5] 7 5 8 9", []int{5, 1, 3, 7, 4, 0, 6, 2}, []int{10, 20, 21, 30, 70, 50, 80, 90}, 2, 2},
		"behind by one of two":           {eight, tens, []int{5}, []int{5, 3}, "2 2 1 [3] 3 [5] 7 9 8 5", []int{3, 1, 5, 7, 4, 2, 6, 0}, []int{21, 20, 10, 30, 70, 90, 80, 50}, 2, 1},
		"behind by one of four":          {eight, tens, []int{5, 3, 8}, []int{5, 3, 8, 2}, "1 [2] 2 2 [3] 3 [5] 7 5 [8] 8 9", []int{5, 1, 3, 7, 4, 0, 6, 2}, []int{10, 20, 21, 30, 70, 50, 80, 90}, 4, 1},
		"behind by two of four":          {eight, tens, []int{5, 3}, []int{5, 3, 8, 2}, "1 [2] 2 2 [3] 3 [5] 7 5 [8] 8 9", []int{5, 1, 3, 7, 4, 0, 6, 2}, []int{10, 20, 21, 30, 70, 50, 80, 90}, 4, 2},
		"behind by three of four":        {eight, tens, []int{5}, []int{5, 3, 8, 2}, "1 [2] 2 2 [3] 3 [5] 7 5 [8] 8 9", []int{5, 1, 3, 7, 4, 0, 6, 2}, []int{10, 20, 21, 30, 70, 50, 80, 90}, 4, 3},
		"behind by all of four":          {eight, tens, nil, []int{5, 3, 8, 2}, "1 [2] 2 2 [3] 3 [5] 7 5 [8] 8 9", []int{5, 1, 3, 7, 4, 0, 6, 2}, []int{10, 20, 21, 30, 70, 50, 80, 90}, 4, 4},
		"not behind":                     {eight, tens, []int{5, 3, 8, 2}, []int{5, 3, 8, 2}, "1 [2] 2 2 [3] 3 [5] 7 5 [8] 8 9", []int{5, 1, 3, 7, 4, 0, 6, 2}, []int{10, 20, 21, 30, 70, 50, 80, 90}, 4, 0},
		"no history":                     {eight, tens, nil, nil, "5 2 9 2 7 1 8 3", upTo(8), tens, 0, 0},
		"an empty history":               {eight, tens, nil, []int{}, "5 2 9 2 7 1 8 3", upTo(8), tens, 0, 0},
		"a value twice":                  {eight, tens, nil, []int{5, 5}, "3 2 1 2 [5] 7 9 8 5", []int{7, 1, 5, 3, 4, 2, 6, 0}, []int{30, 20, 10, 21, 70, 90, 80, 50}, 2, 2},
		"behind by a pivot already":      {eight, tens, []int{5}, []int{5, 5}, "3 2 1 2 [5] 7 9 8 5", []int{7, 1, 5, 3, 4, 2, 6, 0}, []int{30, 20, 10, 21, 70, 90, 80, 50}, 2, 1},
		"behind by three pivots already": {eight, tens, []int{5, 3}, []int{5, 3, 5, 3, 5}, "2 2 1 [3] 3 [5] 7 9 8 5", []int{3, 1, 5, 7, 4, 2, 6, 0}, []int{21, 20, 10, 30, 70, 90, 80, 50}, 5, 3},
		"only one value":                 {eight, tens, nil, []int{4, 4, 4, 4}, "3 2 1 2 [4] 7 9 8 5", []int{7, 1, 5, 3, 4, 2, 6, 0}, []int{30, 20, 10, 21, 70, 90, 80, 50}, 4, 4},
		"the limits":                     {eight, tens, nil, []int{-1000, 1000, -1000}, "[-1000] 5 2 9 2 7 1 8 3 [1000]", upTo(8), tens, 3, 3},
		"from the least value on":        {eight, tens, nil, []int{1, 2, 3, 5, 7, 8, 9}, "[1] 1 [2] 2 2 [3] 3 [5] 5 [7] 7 [8] 8 [9] 9", []int{5, 1, 3, 7, 0, 4, 6, 2}, []int{10, 20, 21, 30, 50, 70, 80, 90}, 7, 7},
		"from the greatest value on":     {eight, tens, nil, []int{9, 8, 7, 5, 3, 2, 1}, "[1] 1 [2] 2 2 [3] 3 [5] 5 [7] 7 [8] 8 [9] 9", []int{5, 1, 3, 7, 0, 4, 6, 2}, []int{10, 20, 21, 30, 50, 70, 80, 90}, 7, 7},
		"no elements":                    {nil, nil, nil, []int{3, 7, 3}, "[3] [7]", nil, nil, 3, 3},
		"no elements, behind by one":     {nil, nil, []int{3, 7}, []int{3, 7, 3}, "[3] [7]", nil, nil, 3, 1},
		"one element":                    {[]int{7}, []int{-7}, nil, []int{7, 8}, "[7] 7 [8]", []int{0}, []int{-7}, 2, 2},
		"equal values of the head":       {[]int{5, 5, 5}, []int{1, 2, 3}, []int{5}, []int{5, 6, 4}, "[4] [5] 5 5 5 [6]", upTo(3), []int{1, 2, 3}, 3, 2},
		"equal values among others":      {[]int{5, 4, 5, 6, 5}, []int{1, 2, 3, 4, 5}, nil, []int{6, 5}, "4 [5] 5 5 5 [6] 6", []int{1, 0, 2, 4, 3}, []int{2, 1, 3, 5, 4}, 2, 2},
		"three elements":                 {[]int{3, 1, 2}, []int{30, 10, 20}, nil, []int{2, 3}, "1 [2] 2 [3] 3", []int{1, 2, 0}, []int{10, 20, 30}, 2, 2},
		"the tail is the head":           {eight, eight, []int{3}, []int{3, 8, 5}, "1 2 2 [3] 3 [5] 7 5 [8] 8 9", []int{5, 1, 3, 7, 4, 0, 6, 2}, []int{1, 2, 2, 3, 7, 5, 8, 9}, 3, 2},
		"below 0":                        {[]int{-1, -5, -3}, []int{1, 5, 3}, nil, []int{-3, -1}, "-5 [-3] -3 [-1] -1", []int{1, 2, 0}, []int{5, 3, 1}, 2, 2},
	} {
		m := checkAlignMap(t, impl.NewMap(x.head, x.tail), x.first)
		got, n, ok := impl.AlignMap(m, x.history)
		if !ok || n != x.n || got.Applied != x.applied || impl.FormatCracker(got.Cracker) != x.want || !slices.Equal(got.Cracker.Rows, x.rows) || !slices.Equal(got.Tail, x.tails) {
			t.Errorf("%s: AlignMap(%v, %d) = %s, %v, %d, %t, want %s, the rows %d and the tails %d, after %d",
				name, m, x.history, impl.FormatCracker(got.Cracker), got, n, ok, x.want, x.rows, x.tails, x.n)
		}
		checkAlignMap(t, m, x.history)
	}
}

// longHistory returns n values from all over those that a column can be divided at, the first two of which are the limits.
func longHistory(n int) []int {
	l := make([]int, n)
	for i := range l {
		l[i] = (i*577+i*i*i*31+2000)%2001 - 1000
	}
	for i, v := range []int{-1000, 1000} {
		if i < n {
			l[i] = v
		}
	}
	return l
}

func TestAlignMapOfAllLengths(t *testing.T) {
	for _, n := range []int{0, 1, 2, 30, 58, 59, 60, 61, 62, 1000} {
		for _, applied := range []int{math.MinInt, -1, 0, 1, 2, n - 1, n, n + 1, n + 2, 58, 59, 60, 61, math.MaxInt} {
			m := mapWith(crackedAt(eight, 5, 3), tens, applied)
			checkAlignMap(t, m, longHistory(n))
			valid := applied >= 0 && applied <= n && n <= 60
			if got, made, ok := impl.AlignMap(m, longHistory(n)); ok != valid || valid && (made != n-applied || got.Applied != n) {
				t.Errorf("of %d values with the Applied %d, AlignMap performs %d, %t", n, applied, made, ok)
			}
			if !valid {
				checkNoAlignment(t, "lengths", m, longHistory(n))
			}
		}
	}
	for _, values := range [][]int{nil, {7}, repeated(64, 7), spread(63), spread(64)} {
		for _, n := range []int{0, 1, 59, 60, 61} {
			checkAlignMap(t, impl.NewMap(values, downFrom(len(values))), longHistory(n))
		}
	}
}

// TestAlignMapOfHistoriesWithOtherValues has a value at the limits or beyond them in front of Applied, at it and behind it.
func TestAlignMapOfHistoriesWithOtherValues(t *testing.T) {
	for place := range 7 {
		for _, v := range bounds {
			history := replaced([]int{5, 3, 8, 2, 7, 1, 9}, place, v)
			for applied := range 9 {
				m := mapWith(crackedAt(eight, history[:min(applied, 7)]...), tens, applied)
				checkAlignMap(t, m, history)
				if v < -1000 || v > 1000 || applied > 7 {
					checkNoAlignment(t, "a value", m, history)
				} else if _, n, ok := impl.AlignMap(m, history); !ok || n != 7-applied {
					t.Errorf("AlignMap(%v, %d) performs %d, %t", m, history, n, ok)
				}
			}
		}
	}
	for _, v := range []int{-1001, 1001} {
		for place := range 60 {
			history := replaced(longHistory(60), place, v)
			for _, applied := range []int{0, 1, place - 1, place, place + 1, 59, 60} {
				checkNoAlignment(t, "a value of 60", mapWith(crackedAt(eight, 5), tens, applied), history)
			}
		}
		checkNoAlignment(t, "the only value", impl.Map{}, []int{v})
		checkNoAlignment(t, "a value of 61", impl.Map{}, append(longHistory(60), v))
	}
}

func TestAlignMapOfAllMaps(t *testing.T) {
	histories := [][]int{nil, {}, {5}, {5, 3, 8, 2}, longHistory(7), longHistory(60)}
	for name, m := range validMaps() {
		for _, history := range histories {
			// So many pivots and so many divisions together would take long.
			if len(m.Cracker.Pivots) < 100 || len(history) < 10 {
				checkAlignMap(t, m, history)
			}
			if m.Applied > len(history) {
				checkNoAlignment(t, name, m, history)
			}
		}
		checkNoAlignment(t, name, m, longHistory(61))
		checkNoAlignment(t, name, m, append(longHistory(59), 1001))
	}
	for name, m := range invalidMaps() {
		for _, history := range append(histories, longHistory(61), longHistory(62), []int{1001}, []int{5, -1001}) {
			checkNoAlignment(t, name, m, history)
		}
	}
}

// alignedBy aligns a map with longer and longer beginnings of a history, of which each place in the set is an end, and then with all of it.
func alignedBy(t *testing.T, m impl.Map, history []int, ends int) impl.Map {
	t.Helper()
	for k := range history {
		if ends>>k&1 == 1 {
			m = checkAlignMap(t, m, history[:k])
		}
	}
	return checkAlignMap(t, m, history)
}

// TestMapsThatLagBehind takes every set of steps through a history, for one tail this set and for another one the others.
func TestMapsThatLagBehind(t *testing.T) {
	for name, head := range map[string][]int{"eight": eight, "shuffled": shuffled(), "no values": nil, "one value": {7}, "equal values": repeated(8, 5)} {
		tails := [][]int{spread(len(head)), downFrom(len(head))}
		for _, history := range [][]int{{5, 3, 8, 2, 7, 1}, {5, 5, 3, 5, 3, 8}, {1000, -1000, 4, 50, 6, 40}} {
			want := alignedMap(head, tails[0], history...)
			for ends := range 1 << 6 {
				a := alignedBy(t, impl.NewMap(head, tails[0]), history, ends)
				b := alignedBy(t, impl.NewMap(head, tails[1]), history, 1<<6-1-ends)
				checkAgree(t, name, head, a, tails[0], b, tails[1])
				if !sameMap(a, want) {
					t.Errorf("%s: in the steps %06b of %d, the map is %v, in one step %v", name, ends, history, a, want)
				}
			}
		}
	}
}

// TestMapsThatLagBehindByAnyNumber lets one of two maps lag by each number of divisions, and asks before and after it catches up.
func TestMapsThatLagBehindByAnyNumber(t *testing.T) {
	for _, n := range []int{1, 2, 7, 59, 60} {
		head, tails, history := spread(40), [][]int{downFrom(40), repeated(40, 7)}, longHistory(n)
		ahead := alignedMap(head, tails[0], history...)
		for lag := range n + 1 {
			behind := alignedMap(head, tails[1], history[:n-lag]...)
			checkAreAligned(t, "lag", ahead, behind, lag == 0)
			got, made, ok := impl.AlignMap(behind, history)
			if !ok || made != lag || got.Applied != n {
				t.Errorf("behind by %d of %d, AlignMap performs %d, %t, and the Applied is %d", lag, n, made, ok, got.Applied)
			}
			checkAgree(t, "a map that lagged", head, ahead, tails[0], got, tails[1])
			if lag > 0 {
				checkNoAlignment(t, "a history that is too short", ahead, history[:n-lag])
			}
			// The map is thrown away, and built again.
			checkAgree(t, "a map that was built again", head, ahead, tails[0], alignedMap(head, tails[1], history...), tails[1])
		}
	}
}

// TestMapsGoTogether lets four maps use a growing history now and then, and throws one of them away now and then.
func TestMapsGoTogether(t *testing.T) {
	for _, head := range [][]int{eight, spread(64), shuffled(), repeated(20, 7), nil} {
		n := len(head)
		tails := [][]int{spread(n), downFrom(n), head, repeated(n, -7)}
		var maps []impl.Map
		for _, tail := range tails {
			maps = append(maps, impl.NewMap(head, tail))
		}
		lagged := 0
		for k := range 61 {
			history := longHistory(60)[:k]
			used := []int{k % 4, (k*k + k/7) % 4}
			if k%9 == 8 {
				maps[used[1]] = impl.NewMap(head, tails[used[1]])
			}
			for _, i := range used {
				maps[i], _, _ = impl.AlignMap(maps[i], history)
			}
			checkAgree(t, "maps that are used", head, maps[used[0]], tails[used[0]], maps[used[1]], tails[used[1]])
			for i, m := range maps {
				checkAreAligned(t, "a map that may lag", m, maps[used[0]], m.Applied == k)
				if m.Applied < k {
					lagged++
				}
				if !sameMap(m, alignedMap(head, tails[i], history[:m.Applied]...)) {
					t.Errorf("behind %d divisions, map %d is %v", m.Applied, i, m)
				}
			}
		}
		if lagged < 60 {
			t.Errorf("only %d maps lagged", lagged)
		}
	}
}

// TestEverySmallHistory compares the maps of every two histories; those of different ones are aligned only if they are equally long and lead to the same column.
func TestEverySmallHistory(t *testing.T) {
	head, tails := []int{3, 1, 2, 1}, [][]int{{30, 10, 20, 11}, {-3, -1, -2, -1}}
	var histories [][]int
	everyList([]int{1, 2, 3, 4}, 3, func(l []int) { histories = append(histories, l) })
	aligned := 0
	for _, first := range histories {
		a := checkAlignMap(t, impl.NewMap(head, tails[0]), first)
		for _, second := range histories {
			b := alignedMap(head, tails[1], second...)
			want := areAligned(a, b)
			checkAreAligned(t, "two histories", a, b, want)
			if slices.Equal(first, second) {
				checkAgree(t, "the same history", head, a, tails[0], b, tails[1])
				aligned++
			}
			if want && len(first) != len(second) {
				t.Errorf("%d and %d lead to maps that are aligned", first, second)
			}
			for _, v := range first {
				if want && !slices.Contains(second, v) {
					t.Errorf("%d and %d lead to maps that are aligned", first, second)
				}
			}
		}
	}
	if aligned != len(histories) {
		t.Errorf("the maps of %d of %d histories are aligned with themselves", aligned, len(histories))
	}
}

func TestAreAlignedExamples(t *testing.T) {
	other := []int{8, 7, 6, 5, 4, 3, 2, 1}
	for name, x := range map[string]struct {
		a, b impl.Map
		want bool
	}{
		"the zero value":                 {impl.Map{}, impl.Map{}, true},
		"the zero value and empty lists": {impl.Map{}, mapWithoutNil(impl.Map{}), true},
		"new maps":                       {impl.NewMap(eight, tens), impl.NewMap(eight, other), true},
		"a map and itself":               {eightMap(), eightMap(), true},
		"two tails":                      {alignedMap(eight, tens, 5, 3), alignedMap(eight, other, 5, 3), true},
		"equal tails":                    {alignedMap(eight, tens, 5, 3), alignedMap(eight, tens, 5, 3), true},
		"the same in two steps":          {alignedMap(eight, tens, 5, 3), checkAlignMap(t, alignedMap(eight, other, 5), []int{5, 3}), true},
		"no elements":                    {alignedMap(nil, nil, 3, 7), alignedMap(nil, nil, 3, 7), true},
		"Applied of 60":                  {alignedMap(eight, tens, longHistory(60)...), alignedMap(eight, other, longHistory(60)...), true},
		"behind by one":                  {alignedMap(eight, tens, 5, 3), alignedMap(eight, other, 5), false},
		"behind by all":                  {alignedMap(eight, tens, 5, 3), impl.NewMap(eight, other), false},
		"behind by a pivot already":      {alignedMap(eight, tens, 5, 5), alignedMap(eight, other, 5), false},
		"another value":                  {alignedMap(eight, tens, 5), alignedMap(eight, other, 4), false},
		"another order":                  {alignedMap(eight, tens, 5, 3), alignedMap(eight, other, 3, 5), false},
		"another order, the same column": {alignedMap(upTo(8), tens, 5, 3), alignedMap(upTo(8), other, 3, 5), true},
		"another value, one twice":       {alignedMap(eight, tens, 5, 3), alignedMap(eight, other, 5, 5), false},
		"another head":                   {impl.NewMap(eight, tens), impl.NewMap(other, tens), false},
		"a longer head":                  {impl.NewMap(eight, tens), impl.NewMap(eight[:7], tens[:7]), false},
		"no elements, another value":     {alignedMap(nil, nil, 3), alignedMap(nil, nil, 4), false},
		"no elements, a pivot already":   {alignedMap(nil, nil, 3), alignedMap(nil, nil, 3, 3), false},
		"other rows":                     {mapWith(inRows([]int{5, 5}, 0, 1), tens[:2], 0), mapWith(inRows([]int{5, 5}, 1, 0), tens[:2], 0), false},
		"a division without Applied":     {must2(impl.CrackMap(eightMap(), 8)), eightMap(), false},
		"the same one without Applied":   {must2(impl.CrackMap(eightMap(), 8)), must2(impl.CrackMap(mapWith(eightMap().Cracker, other, 2), 8)), true},
		"the same one with Applied":      {must2(impl.CrackMap(eightMap(), 8)), alignedMap(eight, tens, 5, 3, 8), false},
	} {
		checkAreAligned(t, name, x.a, x.b, x.want)
		if areAligned(x.a, x.b) != x.want {
			t.Errorf("%s: the expectation is wrong", name)
		}
	}
}

// must2 forgets whether a division was possible.
func must2(m impl.Map, _ bool) impl.Map { return m }

// TestAreAlignedOfAllMaps compares every map with copies that differ in one field, and each one that is not valid also with itself and with a valid one of the same column.
func TestAreAlignedOfAllMaps(t *testing.T) {
	for name, m := range validMaps() {
		for what, tail := range map[string][]int{"equal tails": m.Tail, "other tails": downFrom(len(m.Tail)), "one tail": repeated(len(m.Tail), 7)} {
			checkAreAligned(t, name+", "+what, m, mapWith(m.Cracker, tail, m.Applied), true)
			for _, n := range []int{-1, 0, m.Applied - 1, m.Applied + 1, 60, 61} {
				checkAreAligned(t, name+", "+what, m, mapWith(m.Cracker, tail, n), n == m.Applied)
			}
		}
		for _, tail := range [][]int{spread(len(m.Tail) + 1), append(slices.Clone(m.Tail), 1000), repeated(65, 7)} {
			checkAreAligned(t, name+", a longer tail", m, mapWith(m.Cracker, tail, m.Applied), false)
		}
		for place := range m.Tail {
			checkAreAligned(t, name+", a shorter tail", m, mapWith(m.Cracker, m.Tail[:place], m.Applied), false)
			checkAreAligned(t, name+", a tail of 1000", m, mapWith(m.Cracker, replaced(m.Tail, place, 1000), m.Applied), false)
			checkAreAligned(t, name+", a tail of -1000", m, mapWith(m.Cracker, replaced(m.Tail, place, -1000), m.Applied), false)
		}
		for what, c := range validColumns {
			want := reflect.DeepEqual(withoutNil(c), withoutNil(m.Cracker))
			checkAreAligned(t, name+", "+what, m, mapWith(c, spread(len(c.Values)), m.Applied), want)
		}
	}
	for name, m := range invalidMaps() {
		checkAreAligned(t, name, m, m, false)
		checkAreAligned(t, name, m, mapWithoutNil(m), false)
		checkAreAligned(t, name, m, mapWith(m.Cracker, spread(len(m.Cracker.Values)), m.Applied), false)
		checkAreAligned(t, name, m, mapWith(m.Cracker, spread(len(m.Cracker.Values)), 0), false)
		checkAreAligned(t, name, m, mapWith(m.Cracker, spread(len(m.Cracker.Values)), 2), false)
		checkAreAligned(t, name, m, impl.Map{}, false)
		checkAreAligned(t, name, m, eightMap(), false)
	}
}

// TestEqualMapsOfAllMaps compares every map of the tables with every other one.
func TestEqualMapsOfAllMaps(t *testing.T) {
	var all []impl.Map
	everyMap(func(name string, m impl.Map) { all = append(all, m) })
	equal := 0
	for _, a := range all {
		for _, b := range all {
			if want := sameMap(a, b); impl.EqualMaps(a, b) != want || impl.EqualMaps(mapWithoutNil(a), b) != want {
				t.Errorf("EqualMaps(%v, %v) = %t", a, b, !want)
			} else if want {
				equal++
			}
		}
	}
	if equal < len(all) {
		t.Errorf("%d of %d maps are equal to themselves", equal, len(all))
	}
}

// TestEqualMapsOfEachField changes one number or the length of one list at a time, of maps that are valid and of those that are not.
func TestEqualMapsOfEachField(t *testing.T) {
	everyMap(func(name string, m impl.Map) {
		checkEqualMaps(t, name, m, mapWithoutNil(m), true)
		// Every pivot takes a copy of all of them.
		if len(m.Cracker.Pivots) > 100 {
			return
		}
		differ := func(what string, change func(x *impl.Map)) {
			t.Helper()
			x := mapWithoutNil(m)
			change(&x)
			checkEqualMaps(t, name+", "+what, m, x, false)
		}
		differ("another Applied", func(x *impl.Map) { x.Applied++ })
		differ("a lesser Applied", func(x *impl.Map) { x.Applied-- })
		for i := range m.Tail {
			differ("another tail", func(x *impl.Map) { x.Tail[i]++ })
			differ("a shorter tail", func(x *impl.Map) { x.Tail = x.Tail[:i] })
		}
		for i := range m.Cracker.Values {
			differ("another value", func(x *impl.Map) { x.Cracker.Values[i]++ })
		}
		for i := range m.Cracker.Rows {
			differ("another row", func(x *impl.Map) { x.Cracker.Rows[i]-- })
		}
		for i := range m.Cracker.Pivots {
			differ("another Value", func(x *impl.Map) { x.Cracker.Pivots[i].Value++ })
			differ("another At", func(x *impl.Map) { x.Cracker.Pivots[i].At-- })
		}
		for _, v := range []int{0, 1} {
			differ("a tail more", func(x *impl.Map) { x.Tail = append(x.Tail, v) })
			differ("a value more", func(x *impl.Map) { x.Cracker.Values = append(x.Cracker.Values, v) })
			differ("a row more", func(x *impl.Map) { x.Cracker.Rows = append(x.Cracker.Rows, v) })
			differ("a pivot more", func(x *impl.Map) { x.Cracker.Pivots = append(x.Cracker.Pivots, impl.Pivot{Value: v}) })
		}
	})
	for name, pair := range map[string][2]impl.Map{
		"tails for values":           {mapWith(impl.Cracker{}, eight, 0), mapWith(inRows(eight), nil, 0)},
		"tails and values exchanged": {mapWith(inRows(eight), tens, 0), mapWith(inRows(tens), eight, 0)},
		"tails exchanged":            {mapWith(impl.Cracker{}, []int{1, 2}, 0), mapWith(impl.Cracker{}, []int{2, 1}, 0)},
		"another division":           {alignedMap(eight, tens, 5), alignedMap(eight, tens, 4)},
		"behind by a pivot already":  {alignedMap(eight, tens, 5, 5), alignedMap(eight, tens, 5)},
		"aligned, but another tail":  {alignedMap(eight, tens, 5), alignedMap(eight, eight, 5)},
		"Applied for a tail":         {mapWith(impl.Cracker{}, []int{1}, 0), mapWith(impl.Cracker{}, nil, 1)},
	} {
		checkEqualMaps(t, name, pair[0], pair[1], false)
	}
}

// TestMapsKeepNoState asks for the same maps between others.
func TestMapsKeepNoState(t *testing.T) {
	first := map[string]impl.Map{}
	for range 3 {
		for name, m := range validMaps() {
			if len(m.Cracker.Pivots) > 100 {
				continue
			}
			got, n, ok := impl.AlignMap(m, longHistory(20))
			if _, found := first[name]; !found {
				first[name] = got
			}
			if want, wantN, wantOK := alignMap(m, longHistory(20)); !sameMap(got, first[name]) || !sameMap(got, want) || n != wantN || ok != wantOK {
				t.Errorf("%s: AlignMap(%v) = %v, %d, %t", name, m, got, n, ok)
			}
			impl.CrackMap(got, 4)
			impl.NewMap(m.Tail, m.Cracker.Values)
			impl.AlignMap(got, longHistory(30))
		}
	}
}

func mapWithSpare(m impl.Map) impl.Map {
	return mapWith(columnWithSpare(m.Cracker), spare(m.Tail), m.Applied)
}

// wholeMap returns a copy of the map in which all capacity is in use.
func wholeMap(m impl.Map) impl.Map {
	return mapWith(wholeColumn(m.Cracker), slices.Clone(m.Tail[:cap(m.Tail)]), m.Applied)
}

func fillMap(m impl.Map) {
	fillColumn(m.Cracker)
	fill(m.Tail, 789)
}

// mapAnswers performs all functions of chapter 12, successfully and not, and returns the maps that they answer.
func mapAnswers(m impl.Map, histories [][]int) []impl.Map {
	l := []impl.Map{
		impl.NewMap(m.Cracker.Values, m.Tail), impl.NewMap(m.Tail, m.Cracker.Values), impl.NewMap(m.Tail, m.Tail), impl.NewMap(m.Tail, nil),
	}
	impl.IsMap(m)
	impl.AreAligned(m, m)
	impl.EqualMaps(m, m)
	values := []int{-1001, -1000, 0, 3, 4, 8, 1000, 1001}
	if n := len(m.Cracker.Pivots); n > 0 {
		values = append(values, m.Cracker.Pivots[0].Value, m.Cracker.Pivots[n-1].Value)
	}
	for _, v := range values {
		x, _ := impl.CrackMap(m, v)
		l = append(l, x)
	}
	for _, history := range histories {
		x, _, _ := impl.AlignMap(m, history)
		l = append(l, x)
	}
	return l
}

// memoryHistories are aligned with every map, some of them without any division: because the map is not behind, or because they are not possible.
func memoryHistories(m impl.Map) [][]int {
	l := [][]int{nil, {}, {5}, {5, 3, 8, 2}, {1001}, longHistory(61)}
	if n := m.Applied; 0 <= n && n < 60 {
		l = append(l, longHistory(n), longHistory(n+1), longHistory(n + 2)[:n+1])
	}
	return l
}

// withSpareCapacity returns copies of the lists with marked capacity behind them.
func withSpareCapacity(lists [][]int) [][]int {
	var l [][]int
	for _, x := range lists {
		l = append(l, spare(x))
	}
	return l
}

// wholeLists returns copies of the lists in which all capacity is in use.
func wholeLists(lists [][]int) [][]int {
	var l [][]int
	for _, x := range lists {
		l = append(l, slices.Clone(x[:cap(x)]))
	}
	return l
}

func TestMapArgumentsStay(t *testing.T) {
	everyMap(func(name string, given impl.Map) {
		m, histories := mapWithSpare(given), withSpareCapacity(memoryHistories(given))
		before, historiesBefore := wholeMap(m), wholeLists(histories)
		answers := mapAnswers(m, histories)
		if !reflect.DeepEqual(wholeMap(m), before) || !sameLists(wholeLists(histories), historiesBefore) {
			t.Errorf("%s: the arguments have become %v and %v, they were %v and %v", name, wholeMap(m), wholeLists(histories), before, historiesBefore)
		}
		for _, x := range answers {
			fillMap(x)
		}
		if !reflect.DeepEqual(wholeMap(m), before) || !sameLists(wholeLists(histories), historiesBefore) {
			t.Errorf("%s: after a change of the answers, the arguments have become %v and %v, they were %v and %v", name, wholeMap(m), wholeLists(histories), before, historiesBefore)
		}
	})
}

func TestMapsAreNewMemory(t *testing.T) {
	everyMap(func(name string, given impl.Map) {
		m, histories := mapWithSpare(given), withSpareCapacity(memoryHistories(given))
		want := mapAnswers(given, memoryHistories(given))
		got := mapAnswers(m, histories)
		fillMap(m)
		for _, l := range histories {
			fill(l, 333)
		}
		for i, x := range got {
			if !sameMap(x, want[i]) {
				t.Errorf("%s: after a change of the arguments and of other answers, an answer is %v, want %v", name, x, want[i])
			}
			fillMap(x)
		}
	})
}

// TestListsOfMapsAreApart has the pivots, too, which are a list of another type.
func TestListsOfMapsAreApart(t *testing.T) {
	everyMap(func(name string, given impl.Map) {
		want := mapAnswers(given, memoryHistories(given))
		for i, x := range mapAnswers(mapWithSpare(given), memoryHistories(given)) {
			checkApart(t, name, x.Cracker.Values, x.Cracker.Rows, x.Tail)
			if !slices.Equal(x.Cracker.Pivots, want[i].Cracker.Pivots) {
				t.Errorf("%s: after a change of other lists, the pivots are %v", name, x.Cracker.Pivots)
			}
		}
	})
}

// TestMapsOfOneList gives a tail that is the same memory as the head, as the values, as the rows or as the history, or lies behind them.
func TestMapsOfOneList(t *testing.T) {
	list := spare([]int{3, 0, 2, 1})
	for name, m := range map[string]impl.Map{
		"the head":          impl.NewMap(list, list),
		"a part":            impl.NewMap(list[:2], list[2:]),
		"overlapping parts": impl.NewMap(list[:3], list[1:]),
		"the values":        mapWith(cracked(list), list, 0),
		"the rows":          mapWith(impl.Cracker{Values: []int{7, 5, 8, 2}, Rows: list}, list, 0),
		"everything":        mapWith(impl.Cracker{Values: list, Rows: list}, list, 0),
		"the first two":     mapWith(cracked(list[:2]), list[2:], 0),
	} {
		checkApart(t, name, impl.NewMap(list, list).Cracker.Values, impl.NewMap(list, list).Tail)
		for v := -1; v <= 4; v++ {
			checkCrackMap(t, m, v)
		}
		for k := range 5 {
			checkAlignMap(t, m, list[:k])
		}
		checkCrackMap(t, m, 1001)
		for _, x := range mapAnswers(m, [][]int{list, list[:2], nil, {1001}}) {
			checkApart(t, name, x.Cracker.Values, x.Cracker.Rows, x.Tail)
		}
		if !slices.Equal(list[:cap(list)][:7], []int{3, 0, 2, 1, 777, 888, 555}) {
			t.Errorf("%s: the list has become %d", name, list[:cap(list)])
		}
	}
	got, n, ok := impl.AlignMap(mapWith(impl.Cracker{Values: list, Rows: list}, list, 0), list)
	if !ok || n != 4 || impl.FormatCracker(got.Cracker) != "[0] 0 [1] 1 [2] 2 [3] 3" || !slices.Equal(got.Cracker.Rows, upTo(4)) || !slices.Equal(got.Tail, upTo(4)) {
		t.Errorf("AlignMap of one list for everything = %v, %d, %t", got, n, ok)
	}
}

// TestMapsWithTheSameBeginning aligns one map with several histories, of which no answer may change another one.
func TestMapsWithTheSameBeginning(t *testing.T) {
	m := mapWithSpare(alignedMap(eight, tens, 5))
	a, _, _ := impl.AlignMap(m, []int{5, 3})
	b, _, _ := impl.AlignMap(m, []int{5, 8})
	c, _ := impl.CrackMap(m, 2)
	d, _, _ := impl.AlignMap(a, []int{5, 3, 8, 2})
	for name, x := range map[string]struct {
		m     impl.Map
		want  string
		tails []int
	}{
		"a division":      {a, "2 2 1 [3] 3 [5] 7 9 8 5", []int{21, 20, 10, 30, 70, 90, 80, 50}},
		"another one":     {b, "3 2 1 2 [5] 7 5 [8] 8 9", []int{30, 20, 10, 21, 70, 50, 80, 90}},
		"without Applied": {c, "1 [2] 2 3 2 [5] 7 9 8 5", []int{10, 20, 30, 21, 70, 90, 80, 50}},
		"two more":        {d, "1 [2] 2 2 [3] 3 [5] 7 5 [8] 8 9", []int{10, 20, 21, 30, 70, 50, 80, 90}},
		"the map":         {m, "3 2 1 2 [5] 7 9 8 5", []int{30, 20, 10, 21, 70, 90, 80, 50}},
	} {
		if impl.FormatCracker(x.m.Cracker) != x.want || !slices.Equal(x.m.Tail, x.tails) {
			t.Errorf("%s: the map is %v, want %s with the tails %d", name, x.m, x.want, x.tails)
		}
	}
}
