package tests

import (
	"cmp"
	"math"
	"slices"
	"testing"

	"loop.example/g01984/impl"
)

// Promise 7, as far as chapter 10 goes: an element that moves in or out leaves all others in their pieces, so that no answer changes but for that element.

func item(v, row int) impl.Item { return impl.Item{Value: v, Row: row} }

func isItem(x impl.Item) bool {
	if x.Value < -999 || x.Value > 999 {
		return false
	}
	return x.Row >= 0 && x.Row <= 999
}

// parted returns the elements of each piece, from the one before the first pivot on; there may be empty ones.
func parted(c impl.Cracker) [][]impl.Item {
	parts := make([][]impl.Item, len(c.Pivots)+1)
	for place, v := range c.Values {
		k := 0
		for k < len(c.Pivots) && c.Pivots[k].At <= place {
			k++
		}
		parts[k] = append(parts[k], item(v, c.Rows[place]))
	}
	return parts
}

// joined returns the column with these pieces, which are divided by pivots with the Values of the given ones.
func joined(parts [][]impl.Item, l []impl.Pivot) impl.Cracker {
	var c impl.Cracker
	for k, part := range parts {
		for _, x := range part {
			c.Values, c.Rows = append(c.Values, x.Value), append(c.Rows, x.Row)
		}
		if k < len(l) {
			c.Pivots = append(c.Pivots, impl.Pivot{Value: l[k].Value, At: len(c.Values)})
		}
	}
	return c
}

// insertItem knows no hole: the item comes to the end of its piece, and in each piece behind, the first element goes to the end.
func insertItem(c impl.Cracker, x impl.Item) (impl.Cracker, int, bool) {
	if !isColumn(c) || !isItem(x) || slices.Contains(c.Rows, x.Row) || len(c.Values) == 64 {
		return withoutNil(c), 0, false
	}
	parts, moved := parted(c), 0
	for k, part := range parts {
		before := k < len(c.Pivots) && x.Value >= c.Pivots[k].Value
		behind := k > 0 && x.Value < c.Pivots[k-1].Value
		switch {
		case !before && !behind:
			parts[k] = append(part, x)
		case behind && len(part) > 0:
			parts[k] = append(part[1:], part[0])
			moved++
		}
	}
	return joined(parts, c.Pivots), moved, true
}

// deleteRow knows no hole either: the last element of a piece goes to the place that is free in it, or else to the front.
func deleteRow(c impl.Cracker, row int) (impl.Cracker, int, bool) {
	if !isColumn(c) || !slices.Contains(c.Rows, row) {
		return withoutNil(c), 0, false
	}
	parts, moved, found := parted(c), 0, false
	for k, part := range parts {
		i := slices.IndexFunc(part, func(x impl.Item) bool { return x.Row == row })
		end := len(part) - 1
		switch {
		case i >= 0:
			found = true
			if i < end {
				part[i] = part[end]
				moved++
			}
			parts[k] = part[:end]
		case found && end >= 0:
			parts[k] = append([]impl.Item{part[end]}, part[:end]...)
			moved++
		}
	}
	return joined(parts, c.Pivots), moved, true
}

func findRow(c impl.Cracker, row int) int {
	found := -1
	for place := len(c.Rows) - 1; place >= 0; place-- {
		if c.Rows[place] == row {
			found = place
		}
	}
	return found
}

// inOrder returns the elements of each piece in the order of their rows.
func inOrder(c impl.Cracker) [][]impl.Item {
	parts := parted(c)
	for _, part := range parts {
		slices.SortFunc(part, func(a, b impl.Item) int { return cmp.Compare(a.Row, b.Row) })
	}
	return parts
}

func sameParts(a, b [][]impl.Item) bool { return slices.EqualFunc(a, b, slices.Equal[[]impl.Item]) }

// movedRows counts the rows whose elements are at other places.
func movedRows(before, after impl.Cracker) int {
	n := 0
	for place, row := range before.Rows {
		if i := slices.Index(after.Rows, row); i >= 0 && i != place {
			n++
		}
	}
	return n
}

// checkRipple compares both columns, of which the longer one has the item, and which may differ in nothing else.
func checkRipple(t *testing.T, what string, shorter, longer impl.Cracker, x impl.Item) {
	t.Helper()
	if !isColumn(shorter) || !isColumn(longer) || !impl.IsCracker(shorter) || !impl.IsCracker(longer) {
		t.Errorf("%s of %v: %v or %v is not valid", what, x, shorter, longer)
		return
	}
	want := append(elements(shorter), [2]int{x.Row, x.Value})
	slices.SortFunc(want, func(a, b [2]int) int { return cmp.Compare(a[0], b[0]) })
	if !slices.Equal(elements(longer), want) {
		t.Errorf("%s of %v: %v has other elements than %v", what, x, longer, shorter)
	}
	// Without the item, each piece has the same elements.
	parts := inOrder(longer)
	for k, part := range parts {
		parts[k] = slices.DeleteFunc(part, func(y impl.Item) bool { return y == x })
	}
	if !sameParts(parts, inOrder(shorter)) {
		t.Errorf("%s of %v: an element of %v is in another piece in %v", what, x, shorter, longer)
	}
	if len(shorter.Pivots) != len(longer.Pivots) {
		t.Errorf("%s of %v: %v and %v have other pivots", what, x, shorter, longer)
		return
	}
	for i, p := range shorter.Pivots {
		if x.Value < p.Value {
			p.At++
		}
		if longer.Pivots[i] != p {
			t.Errorf("%s of %v: %v and %v have other pivots", what, x, shorter, longer)
		}
	}
}

// checkInsert compares with the function above, and asks for everything that the promise says; it returns the column.
func checkInsert(t *testing.T, c impl.Cracker, x impl.Item) impl.Cracker {
	t.Helper()
	want, wantMoved, wantOK := insertItem(c, x)
	got, moved, ok := impl.RippleInsert(c, x)
	if !impl.EqualCrackers(got, want) || moved != wantMoved || ok != wantOK {
		t.Errorf("RippleInsert(%v, %v) = %v, %d, %t, want %v, %d, %t", c, x, got, moved, ok, want, wantMoved, wantOK)
	}
	if !ok {
		return got
	}
	if moved > len(c.Pivots) || moved != movedRows(c, got) {
		t.Errorf("RippleInsert(%v, %v) = %v, after %d moves", c, x, got, moved)
	}
	checkRipple(t, "insertion", c, got, x)
	back, _, backOK := impl.RippleDelete(got, x.Row)
	if !backOK || !sameParts(inOrder(back), inOrder(c)) || !slices.Equal(back.Pivots, c.Pivots) {
		t.Errorf("%v, with %v inserted and deleted, is %v", c, x, back)
	}
	return got
}

// checkDelete does so for a deletion.
func checkDelete(t *testing.T, c impl.Cracker, row int) impl.Cracker {
	t.Helper()
	want, wantMoved, wantOK := deleteRow(c, row)
	got, moved, ok := impl.RippleDelete(c, row)
	if !impl.EqualCrackers(got, want) || moved != wantMoved || ok != wantOK {
		t.Errorf("RippleDelete(%v, %d) = %v, %d, %t, want %v, %d, %t", c, row, got, moved, ok, want, wantMoved, wantOK)
	}
	if !ok {
		return got
	}
	if moved > len(c.Pivots)+1 || moved != movedRows(c, got) {
		t.Errorf("RippleDelete(%v, %d) = %v, after %d moves", c, row, got, moved)
	}
	x := item(c.Values[slices.Index(c.Rows, row)], row)
	checkRipple(t, "deletion", got, c, x)
	back, _, backOK := impl.RippleInsert(got, x)
	if !backOK || !sameParts(inOrder(back), inOrder(c)) || !slices.Equal(back.Pivots, c.Pivots) {
		t.Errorf("%v, with %v deleted and inserted, is %v", c, x, back)
	}
	return got
}

func checkFindRow(t *testing.T, c impl.Cracker, row int) {
	t.Helper()
	if got, want := impl.FindRow(c, row), findRow(c, row); got != want {
		t.Errorf("FindRow(%v, %d) = %d, want %d", c, row, got, want)
	}
}

func checkNoInsert(t *testing.T, name string, c impl.Cracker, x impl.Item) {
	t.Helper()
	if got, moved, ok := impl.RippleInsert(c, x); ok || moved != 0 || !impl.EqualCrackers(got, c) {
		t.Errorf("%s: RippleInsert(%v, %v) = %v, %d, %t", name, c, x, got, moved, ok)
	}
}

func checkNoDelete(t *testing.T, name string, c impl.Cracker, row int) {
	t.Helper()
	if got, moved, ok := impl.RippleDelete(c, row); ok || moved != 0 || !impl.EqualCrackers(got, c) {
		t.Errorf("%s: RippleDelete(%v, %d) = %v, %d, %t", name, c, row, got, moved, ok)
	}
}

func TestIsItemExamples(t *testing.T) {
	for x, want := range map[impl.Item]bool{
		{}:                             true,
		item(7, 3):                     true,
		item(-7, 3):                    true,
		item(0, 0):                     true,
		item(0, 999):                   true,
		item(999, 0):                   true,
		item(-999, 0):                  true,
		item(999, 999):                 true,
		item(-999, 999):                true,
		item(1000, 0):                  false,
		item(-1000, 0):                 false,
		item(0, -1):                    false,
		item(0, 1000):                  false,
		item(1000, 1000):               false,
		item(-1000, -1):                false,
		item(3, -3):                    false,
		item(math.MaxInt, 0):           false,
		item(math.MinInt, 0):           false,
		item(0, math.MaxInt):           false,
		item(0, math.MinInt):           false,
		item(math.MinInt, math.MinInt): false,
		item(math.MaxInt, math.MaxInt): false,
		item(math.MinInt+1000, 5):      false,
		item(math.MaxInt-999, 5):       false,
		item(5, math.MinInt+999):       false,
		item(-5, math.MaxInt-999):      false,
		item(999, 1000):                false,
		item(-999, -1):                 false,
		item(1000, 999):                false,
		item(-1000, 999):               false,
	} {
		if got := impl.IsItem(x); got != want {
			t.Errorf("IsItem(%v) = %t", x, got)
		}
	}
}

func TestIsItemOfAllLimits(t *testing.T) {
	check := func(x impl.Item) {
		if got := impl.IsItem(x); got != isItem(x) {
			t.Errorf("IsItem(%v) = %t", x, got)
		}
	}
	for _, v := range bounds {
		for _, row := range bounds {
			check(item(v, row))
		}
	}
	for n := -1100; n <= 1100; n++ {
		check(item(n, 0))
		check(item(0, n))
		check(item(n, n))
	}
}

// An insertion is what RippleInsert has to return for a column that was divided before.
type insertion struct {
	values []int
	before []int
	x      impl.Item
	want   string
	rows   []int
	moved  int
}

func (x insertion) check(t *testing.T, name string) {
	t.Helper()
	c := crackedAt(x.values, x.before...)
	got, moved, ok := impl.RippleInsert(c, x.x)
	if !ok || impl.FormatCracker(got) != x.want || !slices.Equal(got.Rows, x.rows) || moved != x.moved {
		t.Errorf("%s: RippleInsert(%s, %v) = %s, in the rows %d, %d, %t, want %s, in %d, %d",
			name, impl.FormatCracker(c), x.x, impl.FormatCracker(got), got.Rows, moved, ok, x.want, x.rows, x.moved)
	}
	checkInsert(t, c, x.x)
}

func TestInsertionExamples(t *testing.T) {
	for name, x := range map[string]insertion{
		"between two pivots":              {eight, []int{5, 3}, item(4, 20), "2 2 1 [3] 3 4 [5] 9 8 5 7", []int{3, 1, 5, 7, 20, 2, 6, 0, 4}, 1},
		"less than all pivots":            {eight, []int{5, 3}, item(0, 21), "2 2 1 0 [3] 3 [5] 9 8 5 7", []int{3, 1, 5, 21, 7, 2, 6, 0, 4}, 2},
		"greater than all pivots":         {eight, []int{5, 3}, item(9, 22), "2 2 1 [3] 3 [5] 7 9 8 5 9", []int{3, 1, 5, 7, 4, 2, 6, 0, 22}, 0},
		"equal to the first pivot":        {eight, []int{5, 3}, item(3, 20), "2 2 1 [3] 3 3 [5] 9 8 5 7", []int{3, 1, 5, 7, 20, 2, 6, 0, 4}, 1},
		"equal to the last pivot":         {eight, []int{5, 3}, item(5, 20), "2 2 1 [3] 3 [5] 7 9 8 5 5", []int{3, 1, 5, 7, 4, 2, 6, 0, 20}, 0},
		"less by 1 than the first pivot":  {eight, []int{5, 3}, item(2, 20), "2 2 1 2 [3] 3 [5] 9 8 5 7", []int{3, 1, 5, 20, 7, 2, 6, 0, 4}, 2},
		"no pivots":                       {eight, nil, item(4, 8), "5 2 9 2 7 1 8 3 4", []int{0, 1, 2, 3, 4, 5, 6, 7, 8}, 0},
		"no pivots, less than all values": {eight, nil, item(-3, 8), "5 2 9 2 7 1 8 3 -3", []int{0, 1, 2, 3, 4, 5, 6, 7, 8}, 0},
		"no pivots, the least value":      {eight, nil, item(-999, 999), "5 2 9 2 7 1 8 3 -999", []int{0, 1, 2, 3, 4, 5, 6, 7, 999}, 0},
		"no pivots, the greatest value":   {eight, nil, item(999, 8), "5 2 9 2 7 1 8 3 999", []int{0, 1, 2, 3, 4, 5, 6, 7, 8}, 0},
		"less than one pivot":             {eight, []int{5}, item(1, 8), "3 2 1 2 1 [5] 9 8 5 7", []int{7, 1, 5, 3, 8, 2, 6, 0, 4}, 1},
		"equal to one pivot":              {eight, []int{5}, item(5, 8), "3 2 1 2 [5] 7 9 8 5 5", []int{7, 1, 5, 3, 4, 2, 6, 0, 8}, 0},
		"greater than one pivot":          {eight, []int{5}, item(999, 8), "3 2 1 2 [5] 7 9 8 5 999", []int{7, 1, 5, 3, 4, 2, 6, 0, 8}, 0},
		"one element behind the pivot":    {[]int{1, 9}, []int{5}, item(2, 7), "1 2 [5] 9", []int{0, 7, 1}, 1},
		"less than five pivots":           {eight, []int{3, 8, 2, 5, 9}, item(1, 40), "1 1 [2] 2 2 [3] 3 [5] 5 7 [8] 8 [9] 9", []int{5, 40, 3, 1, 7, 0, 4, 6, 2}, 5},
		"less than four of five pivots":   {eight, []int{3, 8, 2, 5, 9}, item(2, 40), "1 [2] 2 2 2 [3] 3 [5] 5 7 [8] 8 [9] 9", []int{5, 1, 3, 40, 7, 0, 4, 6, 2}, 4},
		"less than three of five pivots":  {eight, []int{3, 8, 2, 5, 9}, item(4, 40), "1 [2] 2 2 [3] 3 4 [5] 5 7 [8] 8 [9] 9", []int{5, 1, 3, 7, 40, 0, 4, 6, 2}, 3},
		"less than two of five pivots":    {eight, []int{3, 8, 2, 5, 9}, item(6, 40), "1 [2] 2 2 [3] 3 [5] 7 5 6 [8] 8 [9] 9", []int{5, 1, 3, 7, 4, 0, 40, 6, 2}, 2},
		"less than one of five pivots":    {eight, []int{3, 8, 2, 5, 9}, item(8, 40), "1 [2] 2 2 [3] 3 [5] 7 5 [8] 8 8 [9] 9", []int{5, 1, 3, 7, 4, 0, 6, 40, 2}, 1},
		"less than none of five pivots":   {eight, []int{3, 8, 2, 5, 9}, item(9, 40), "1 [2] 2 2 [3] 3 [5] 7 5 [8] 8 [9] 9 9", []int{5, 1, 3, 7, 4, 0, 6, 2, 40}, 0},
		"below 0":                         {[]int{-5, 0, -9, 5}, []int{-5, 1}, item(-7, 4), "-9 -7 [-5] -5 0 [1] 5", []int{2, 4, 0, 1, 3}, 2},
		"below 0, between pivots":         {[]int{-5, 0, -9, 5}, []int{-5, 1}, item(-1, 4), "-9 [-5] 0 -5 -1 [1] 5", []int{2, 1, 0, 4, 3}, 1},
		"the value of all elements":       {[]int{5, 5, 5}, []int{5, 6}, item(5, 3), "[5] 5 5 5 5 [6]", []int{0, 1, 2, 3}, 0},
		"before all elements":             {[]int{5, 5, 5}, []int{5, 6}, item(4, 3), "4 [5] 5 5 5 [6]", []int{3, 1, 2, 0}, 1},
		"behind all elements":             {[]int{5, 5, 5}, []int{5, 6}, item(6, 3), "[5] 5 5 5 [6] 6", []int{0, 1, 2, 3}, 0},
	} {
		x.check(t, name)
	}
}

// TestInsertionsPastEmptyPieces has pieces without elements on the way of the hole, which needs no move there.
func TestInsertionsPastEmptyPieces(t *testing.T) {
	for name, x := range map[string]insertion{
		"two pivots in the middle, before both":                   {eight, []int{5, 4}, item(3, 20), "3 2 1 2 3 [4] [5] 9 8 5 7", []int{7, 1, 5, 3, 20, 2, 6, 0, 4}, 1},
		"two pivots in the middle, between them":                  {eight, []int{5, 4}, item(4, 20), "3 2 1 2 [4] 4 [5] 9 8 5 7", []int{7, 1, 5, 3, 20, 2, 6, 0, 4}, 1},
		"two pivots in the middle, behind both":                   {eight, []int{5, 4}, item(5, 20), "3 2 1 2 [4] [5] 7 9 8 5 5", []int{7, 1, 5, 3, 4, 2, 6, 0, 20}, 0},
		"three pivots in the middle, before all":                  {[]int{2, 1, 9, 7}, []int{3, 5, 7}, item(0, 20), "2 1 0 [3] [5] [7] 7 9", []int{0, 1, 20, 3, 2}, 1},
		"three pivots in the middle, before two":                  {[]int{2, 1, 9, 7}, []int{3, 5, 7}, item(4, 20), "2 1 [3] 4 [5] [7] 7 9", []int{0, 1, 20, 3, 2}, 1},
		"three pivots in the middle, before one":                  {[]int{2, 1, 9, 7}, []int{3, 5, 7}, item(6, 20), "2 1 [3] [5] 6 [7] 7 9", []int{0, 1, 20, 3, 2}, 1},
		"three pivots in the middle, behind all":                  {[]int{2, 1, 9, 7}, []int{3, 5, 7}, item(7, 20), "2 1 [3] [5] [7] 9 7 7", []int{0, 1, 2, 3, 20}, 0},
		"two pivots at the beginning, before both":                {eight, []int{0, 1}, item(-5, 20), "-5 [0] [1] 2 9 2 7 1 8 3 5", []int{20, 1, 2, 3, 4, 5, 6, 7, 0}, 1},
		"two pivots at the beginning, between them":               {eight, []int{0, 1}, item(0, 20), "[0] 0 [1] 2 9 2 7 1 8 3 5", []int{20, 1, 2, 3, 4, 5, 6, 7, 0}, 1},
		"two pivots at the beginning, behind both":                {eight, []int{0, 1}, item(1, 20), "[0] [1] 5 2 9 2 7 1 8 3 1", []int{0, 1, 2, 3, 4, 5, 6, 7, 20}, 0},
		"two pivots at the end, before both":                      {eight, []int{10, 20}, item(9, 20), "5 2 9 2 7 1 8 3 9 [10] [20]", []int{0, 1, 2, 3, 4, 5, 6, 7, 20}, 0},
		"two pivots at the end, between them":                     {eight, []int{10, 20}, item(10, 20), "5 2 9 2 7 1 8 3 [10] 10 [20]", []int{0, 1, 2, 3, 4, 5, 6, 7, 20}, 0},
		"two pivots at the end, behind both":                      {eight, []int{10, 20}, item(30, 20), "5 2 9 2 7 1 8 3 [10] [20] 30", []int{0, 1, 2, 3, 4, 5, 6, 7, 20}, 0},
		"a pivot at the end and one in the middle":                {eight, []int{5, 10}, item(4, 20), "3 2 1 2 4 [5] 9 8 5 7 [10]", []int{7, 1, 5, 3, 20, 2, 6, 0, 4}, 1},
		"a pivot at the beginning and one in the middle":          {eight, []int{1, 5}, item(4, 20), "[1] 3 2 1 2 4 [5] 9 8 5 7", []int{7, 1, 5, 3, 20, 2, 6, 0, 4}, 1},
		"two pivots at three places, before all":                  {eight, []int{0, 1, 4, 5, 10, 11}, item(-1, 20), "-1 [0] [1] 2 1 2 3 [4] [5] 9 8 5 7 [10] [11]", []int{20, 1, 5, 3, 7, 2, 6, 0, 4}, 2},
		"two pivots at three places, between the first two":       {eight, []int{0, 1, 4, 5, 10, 11}, item(0, 20), "[0] 0 [1] 2 1 2 3 [4] [5] 9 8 5 7 [10] [11]", []int{20, 1, 5, 3, 7, 2, 6, 0, 4}, 2},
		"two pivots at three places, before the middle":           {eight, []int{0, 1, 4, 5, 10, 11}, item(3, 20), "[0] [1] 3 2 1 2 3 [4] [5] 9 8 5 7 [10] [11]", []int{7, 1, 5, 3, 20, 2, 6, 0, 4}, 1},
		"two pivots at three places, between those in the middle": {eight, []int{0, 1, 4, 5, 10, 11}, item(4, 20), "[0] [1] 3 2 1 2 [4] 4 [5] 9 8 5 7 [10] [11]", []int{7, 1, 5, 3, 20, 2, 6, 0, 4}, 1},
		"two pivots at three places, before the last two":         {eight, []int{0, 1, 4, 5, 10, 11}, item(9, 20), "[0] [1] 3 2 1 2 [4] [5] 7 9 8 5 9 [10] [11]", []int{7, 1, 5, 3, 4, 2, 6, 0, 20}, 0},
		"two pivots at three places, between the last two":        {eight, []int{0, 1, 4, 5, 10, 11}, item(10, 20), "[0] [1] 3 2 1 2 [4] [5] 7 9 8 5 [10] 10 [11]", []int{7, 1, 5, 3, 4, 2, 6, 0, 20}, 0},
		"two pivots at three places, behind all":                  {eight, []int{0, 1, 4, 5, 10, 11}, item(11, 20), "[0] [1] 3 2 1 2 [4] [5] 7 9 8 5 [10] [11] 11", []int{7, 1, 5, 3, 4, 2, 6, 0, 20}, 0},
		"no elements":                                             {nil, nil, item(7, 0), "7", []int{0}, 0},
		"no elements, before a pivot":                             {nil, []int{3}, item(2, 5), "2 [3]", []int{5}, 0},
		"no elements, behind a pivot":                             {nil, []int{3}, item(3, 5), "[3] 3", []int{5}, 0},
		"no elements, before two pivots":                          {nil, []int{3, 7}, item(0, 5), "0 [3] [7]", []int{5}, 0},
		"no elements, between two pivots":                         {nil, []int{3, 7}, item(5, 5), "[3] 5 [7]", []int{5}, 0},
		"no elements, behind two pivots":                          {nil, []int{3, 7}, item(9, 5), "[3] [7] 9", []int{5}, 0},
		"no elements, between the limits":                         {nil, []int{-1000, 1000}, item(-999, 5), "[-1000] -999 [1000]", []int{5}, 0},
		"one element, no pivots":                                  {[]int{7}, nil, item(3, 4), "7 3", []int{0, 4}, 0},
		"one element behind two pivots, before both":              {[]int{7}, []int{5, 7}, item(3, 4), "3 [5] [7] 7", []int{4, 0}, 1},
		"one element, before two pivots behind it":                {[]int{7}, []int{8, 9}, item(3, 4), "7 3 [8] [9]", []int{0, 4}, 0},
		"one element, between two pivots behind it":               {[]int{7}, []int{8, 9}, item(8, 4), "7 [8] 8 [9]", []int{0, 4}, 0},
		"one element between pivots, before all":                  {[]int{7}, []int{7, 8}, item(3, 4), "3 [7] 7 [8]", []int{4, 0}, 1},
		"one element between pivots, with it":                     {[]int{7}, []int{7, 8}, item(7, 4), "[7] 7 7 [8]", []int{0, 4}, 0},
		"one element among four pivots":                           {[]int{7}, []int{5, 7, 8, 9}, item(5, 4), "[5] 5 [7] 7 [8] [9]", []int{4, 0}, 1},
	} {
		x.check(t, name)
	}
}

// A deletion is what RippleDelete has to return for a column that was divided before.
type deletion struct {
	values []int
	before []int
	row    int
	want   string
	rows   []int
	moved  int
}

func (x deletion) check(t *testing.T, name string) {
	t.Helper()
	c := crackedAt(x.values, x.before...)
	got, moved, ok := impl.RippleDelete(c, x.row)
	if !ok || impl.FormatCracker(got) != x.want || !slices.Equal(got.Rows, x.rows) || moved != x.moved {
		t.Errorf("%s: RippleDelete(%s, %d) = %s, in the rows %d, %d, %t, want %s, in %d, %d",
			name, impl.FormatCracker(c), x.row, impl.FormatCracker(got), got.Rows, moved, ok, x.want, x.rows, x.moved)
	}
	checkDelete(t, c, x.row)
}

func TestDeletionExamples(t *testing.T) {
	for name, x := range map[string]deletion{
		"the last piece, its last place":                      {eight, []int{5, 3}, 0, "2 2 1 [3] 3 [5] 7 9 8", []int{3, 1, 5, 7, 4, 2, 6}, 0},
		"the first piece, in the middle":                      {eight, []int{5, 3}, 1, "2 1 [3] 3 [5] 5 7 9 8", []int{3, 5, 7, 0, 4, 2, 6}, 3},
		"the last piece, in the middle":                       {eight, []int{5, 3}, 2, "2 2 1 [3] 3 [5] 7 5 8", []int{3, 1, 5, 7, 4, 0, 6}, 1},
		"the first piece, its first place":                    {eight, []int{5, 3}, 3, "1 2 [3] 3 [5] 5 7 9 8", []int{5, 1, 7, 0, 4, 2, 6}, 3},
		"the last piece, its first place":                     {eight, []int{5, 3}, 4, "2 2 1 [3] 3 [5] 5 9 8", []int{3, 1, 5, 7, 0, 2, 6}, 1},
		"the first piece, its last place":                     {eight, []int{5, 3}, 5, "2 2 [3] 3 [5] 5 7 9 8", []int{3, 1, 7, 0, 4, 2, 6}, 2},
		"the last piece, before its last place":               {eight, []int{5, 3}, 6, "2 2 1 [3] 3 [5] 7 9 5", []int{3, 1, 5, 7, 4, 2, 0}, 1},
		"the only element of its piece":                       {eight, []int{5, 3}, 7, "2 2 1 [3] [5] 5 7 9 8", []int{3, 1, 5, 0, 4, 2, 6}, 1},
		"no pivots, the first place":                          {eight, nil, 0, "3 2 9 2 7 1 8", []int{7, 1, 2, 3, 4, 5, 6}, 1},
		"no pivots, in the middle":                            {eight, nil, 3, "5 2 9 3 7 1 8", []int{0, 1, 2, 7, 4, 5, 6}, 1},
		"no pivots, before the last place":                    {eight, nil, 6, "5 2 9 2 7 1 3", []int{0, 1, 2, 3, 4, 5, 7}, 1},
		"no pivots, the last place":                           {eight, nil, 7, "5 2 9 2 7 1 8", []int{0, 1, 2, 3, 4, 5, 6}, 0},
		"five pivots, the last place of its piece":            {eight, []int{3, 8, 2, 5, 9}, 0, "1 [2] 2 2 [3] 3 [5] 7 [8] 8 [9] 9", []int{5, 1, 3, 7, 4, 6, 2}, 2},
		"five pivots, the last place of two equal values":     {eight, []int{3, 8, 2, 5, 9}, 1, "1 [2] 2 [3] 3 [5] 5 7 [8] 8 [9] 9", []int{5, 3, 7, 0, 4, 6, 2}, 5},
		"five pivots, the last element":                       {eight, []int{3, 8, 2, 5, 9}, 2, "1 [2] 2 2 [3] 3 [5] 7 5 [8] 8 [9]", []int{5, 1, 3, 7, 4, 0, 6}, 0},
		"five pivots, the first place of two equal values":    {eight, []int{3, 8, 2, 5, 9}, 3, "1 [2] 2 [3] 3 [5] 5 7 [8] 8 [9] 9", []int{5, 1, 7, 0, 4, 6, 2}, 4},
		"five pivots, the first place of its piece":           {eight, []int{3, 8, 2, 5, 9}, 4, "1 [2] 2 2 [3] 3 [5] 5 [8] 8 [9] 9", []int{5, 1, 3, 7, 0, 6, 2}, 3},
		"five pivots, the first element":                      {eight, []int{3, 8, 2, 5, 9}, 5, "[2] 2 2 [3] 3 [5] 5 7 [8] 8 [9] 9", []int{3, 1, 7, 0, 4, 6, 2}, 5},
		"five pivots, the only element before the last piece": {eight, []int{3, 8, 2, 5, 9}, 6, "1 [2] 2 2 [3] 3 [5] 7 5 [8] [9] 9", []int{5, 1, 3, 7, 4, 0, 2}, 1},
		"five pivots, the only element in the middle":         {eight, []int{3, 8, 2, 5, 9}, 7, "1 [2] 2 2 [3] [5] 5 7 [8] 8 [9] 9", []int{5, 1, 3, 0, 4, 6, 2}, 3},
		"two elements, the first":                             {[]int{1, 9}, nil, 0, "9", []int{1}, 1},
		"two elements, the last":                              {[]int{1, 9}, nil, 1, "1", []int{0}, 0},
		"two elements around a pivot, the first":              {[]int{1, 9}, []int{5}, 0, "[5] 9", []int{1}, 1},
		"two elements around a pivot, the last":               {[]int{1, 9}, []int{5}, 1, "1 [5]", []int{0}, 0},
		"below 0":                                             {[]int{-5, 0, -9, 5}, []int{-5, 1}, 2, "[-5] -5 0 [1] 5", []int{0, 1, 3}, 2},
		"equal values, the first":                             {[]int{5, 5, 5}, []int{5, 6}, 0, "[5] 5 5 [6]", []int{2, 1}, 1},
		"equal values, the middle":                            {[]int{5, 5, 5}, []int{5, 6}, 1, "[5] 5 5 [6]", []int{0, 2}, 1},
		"equal values, the last":                              {[]int{5, 5, 5}, []int{5, 6}, 2, "[5] 5 5 [6]", []int{0, 1}, 0},
	} {
		x.check(t, name)
	}
}

// TestDeletionsPastEmptyPieces has pieces without elements on the way of the hole, or leaves one.
func TestDeletionsPastEmptyPieces(t *testing.T) {
	for name, x := range map[string]deletion{
		"two pivots in the middle, the place 0 before them":   {eight, []int{5, 4}, 7, "2 2 1 [4] [5] 5 7 9 8", []int{3, 1, 5, 0, 4, 2, 6}, 2},
		"two pivots in the middle, the place 1 before them":   {eight, []int{5, 4}, 1, "3 2 1 [4] [5] 5 7 9 8", []int{7, 3, 5, 0, 4, 2, 6}, 2},
		"two pivots in the middle, the place 3 before them":   {eight, []int{5, 4}, 3, "3 2 1 [4] [5] 5 7 9 8", []int{7, 1, 5, 0, 4, 2, 6}, 1},
		"two pivots in the middle, the place 0 behind them":   {eight, []int{5, 4}, 4, "3 2 1 2 [4] [5] 5 9 8", []int{7, 1, 5, 3, 0, 2, 6}, 1},
		"two pivots in the middle, the place 1 behind them":   {eight, []int{5, 4}, 2, "3 2 1 2 [4] [5] 7 5 8", []int{7, 1, 5, 3, 4, 0, 6}, 1},
		"two pivots in the middle, the place 3 behind them":   {eight, []int{5, 4}, 0, "3 2 1 2 [4] [5] 7 9 8", []int{7, 1, 5, 3, 4, 2, 6}, 0},
		"three pivots in the middle, the only element before": {[]int{2, 9, 7}, []int{3, 5, 7}, 0, "[3] [5] [7] 7 9", []int{2, 1}, 1},
		"three pivots in the middle, two elements before":     {[]int{2, 1, 9}, []int{3, 5, 7}, 0, "1 [3] [5] [7] 9", []int{1, 2}, 2},
		"two pivots at the beginning, the first element":      {eight, []int{0, 1}, 0, "[0] [1] 3 2 9 2 7 1 8", []int{7, 1, 2, 3, 4, 5, 6}, 1},
		"two pivots at the beginning, the last element":       {eight, []int{0, 1}, 7, "[0] [1] 5 2 9 2 7 1 8", []int{0, 1, 2, 3, 4, 5, 6}, 0},
		"two pivots at the end, the first element":            {eight, []int{10, 20}, 0, "3 2 9 2 7 1 8 [10] [20]", []int{7, 1, 2, 3, 4, 5, 6}, 1},
		"two pivots at the end, the last element":             {eight, []int{10, 20}, 7, "5 2 9 2 7 1 8 [10] [20]", []int{0, 1, 2, 3, 4, 5, 6}, 0},
		"two pivots at three places, the first place":         {eight, []int{0, 1, 4, 5, 10, 11}, 7, "[0] [1] 2 2 1 [4] [5] 5 7 9 8 [10] [11]", []int{3, 1, 5, 0, 4, 2, 6}, 2},
		"two pivots at three places, before the middle":       {eight, []int{0, 1, 4, 5, 10, 11}, 3, "[0] [1] 3 2 1 [4] [5] 5 7 9 8 [10] [11]", []int{7, 1, 5, 0, 4, 2, 6}, 1},
		"two pivots at three places, behind the middle":       {eight, []int{0, 1, 4, 5, 10, 11}, 4, "[0] [1] 3 2 1 2 [4] [5] 5 9 8 [10] [11]", []int{7, 1, 5, 3, 0, 2, 6}, 1},
		"two pivots at three places, the last place":          {eight, []int{0, 1, 4, 5, 10, 11}, 0, "[0] [1] 3 2 1 2 [4] [5] 7 9 8 [10] [11]", []int{7, 1, 5, 3, 4, 2, 6}, 0},
		"an empty piece between pieces of one element":        {[]int{1, 5, 9}, []int{3, 4, 7}, 0, "[3] [4] 5 [7] 9", []int{1, 2}, 2},
		"an empty piece behind the only element of its piece": {[]int{1, 5, 9}, []int{3, 6, 7}, 1, "1 [3] [6] [7] 9", []int{0, 2}, 1},
		"an empty piece behind the last piece":                {[]int{1, 5, 9}, []int{3, 7, 20}, 2, "1 [3] 5 [7] [20]", []int{0, 1}, 0},
		"the only element, no pivots":                         {[]int{7}, nil, 0, "none", nil, 0},
		"the only element, a pivot before":                    {[]int{7}, []int{7}, 0, "[7]", nil, 0},
		"the only element, a pivot behind":                    {[]int{7}, []int{8}, 0, "[8]", nil, 0},
		"the only element, pivots around":                     {[]int{7}, []int{7, 8}, 0, "[7] [8]", nil, 0},
		"the only element, three pivots before":               {[]int{7}, []int{5, 6, 7}, 0, "[5] [6] [7]", nil, 0},
		"the only element, three pivots behind":               {[]int{7}, []int{8, 9, 10}, 0, "[8] [9] [10]", nil, 0},
		"the only element, two pivots on both sides":          {[]int{7}, []int{5, 7, 8, 9}, 0, "[5] [7] [8] [9]", nil, 0},
		"the only element, pivots of the limits":              {[]int{7}, []int{-1000, 1000}, 0, "[-1000] [1000]", nil, 0},
	} {
		x.check(t, name)
	}
}

// sized are columns with so many elements, without pivots, with a few and with many.
func sized(n int) []impl.Cracker {
	last := divided(spread(n), steps(50)...)
	for i := range last.Rows {
		last.Rows[i] = 999 - i
	}
	return []impl.Cracker{impl.NewCracker(spread(n)), divided(spread(n), 0), divided(spread(n), -999, -1, 0, 1, 999), divided(repeated(n, 7), 7, 8), last}
}

// limitItems are of rows that none of these columns has.
func limitItems() []impl.Item {
	var l []impl.Item
	for i, v := range []int{-999, -998, -501, -500, -1, 0, 1, 6, 7, 8, 499, 500, 998, 999} {
		l = append(l, item(v, 400+i))
	}
	return l
}

func TestInsertionsOfTheLimits(t *testing.T) {
	for _, n := range []int{0, 1, 2, 62, 63} {
		for _, c := range sized(n) {
			for _, x := range limitItems() {
				if got := checkInsert(t, c, x); len(got.Values) != n+1 {
					t.Errorf("RippleInsert(%v, %v) has %d elements", c, x, len(got.Values))
				}
			}
		}
	}
	for _, c := range sized(64) {
		for _, x := range limitItems() {
			checkNoInsert(t, "64 elements", c, x)
			// One element less leaves a place, which can be taken once.
			shorter := checkDelete(t, c, c.Rows[x.Row-400])
			full := checkInsert(t, shorter, x)
			if len(full.Values) != 64 {
				t.Errorf("RippleInsert(%v, %v) = %v", shorter, x, full)
			}
			checkNoInsert(t, "64 elements again", full, item(x.Value, 500))
		}
	}
	// The least and the greatest row.
	c := crackedAt(eight, 5)
	c.Rows[0], c.Rows[1] = 500, 501
	checkNoInsert(t, "row -1", c, item(4, -1))
	checkNoInsert(t, "row 1000", c, item(4, 1000))
	for _, row := range []int{7, 999, 8, 998} {
		if got := checkInsert(t, c, item(4, row)); impl.FindRow(got, row) != 4 {
			t.Errorf("RippleInsert of the row %d = %v", row, got)
		}
	}
	c.Rows[2] = 0
	checkNoInsert(t, "row 0 is there", c, item(4, 0))
	c.Rows[2] = 999
	checkNoInsert(t, "row 999 is there", c, item(4, 999))
}

func TestInsertionsThatAreNotPossible(t *testing.T) {
	for name, c := range validColumns {
		// The row is there: at the beginning, in the middle, at the end.
		for _, row := range c.Rows {
			for _, v := range []int{-999, 0, 7, 999, c.Values[0]} {
				checkNoInsert(t, name, c, item(v, row))
			}
		}
		for _, n := range bounds {
			if n < -999 || n > 999 {
				checkNoInsert(t, name, c, item(n, 700))
			}
			if n < 0 || n > 999 {
				checkNoInsert(t, name, c, item(5, n))
				checkNoInsert(t, name, c, item(n, n))
			}
		}
	}
	for name, c := range invalidColumns {
		for _, x := range []impl.Item{item(4, 700), item(0, 3), item(-999, 0), item(999, 999), item(5, 64), item(1000, 5), item(5, -1), {}} {
			checkNoInsert(t, name, c, x)
		}
	}
}

func TestDeletionsThatAreNotPossible(t *testing.T) {
	for name, c := range validColumns {
		for _, row := range append([]int{-1, 64, 700, 998, 1000}, bounds...) {
			if !slices.Contains(c.Rows, row) {
				checkNoDelete(t, name, c, row)
			}
		}
	}
	for name, c := range invalidColumns {
		for _, row := range append(append([]int{-1, 0, 1, 2, 64, 700, 999, 1000}, bounds...), c.Rows...) {
			checkNoDelete(t, name, c, row)
		}
	}
	// A value is no row.
	c := inRows([]int{5, 2, 9}, 900, 1, 30)
	for _, v := range c.Values {
		checkNoDelete(t, "a value", c, v)
	}
	// What was deleted is not there any more.
	for _, row := range c.Rows {
		x := checkDelete(t, c, row)
		checkNoDelete(t, "a row that was deleted", x, row)
	}
}

func TestDeletionsOfTheLimits(t *testing.T) {
	for _, n := range []int{1, 2, 63, 64} {
		for _, c := range sized(n) {
			for _, row := range c.Rows {
				if got := checkDelete(t, c, row); len(got.Values) != n-1 {
					t.Errorf("RippleDelete(%v, %d) has %d elements", c, row, len(got.Values))
				}
			}
		}
	}
}

func TestFindRowExamples(t *testing.T) {
	for _, x := range []struct {
		c    impl.Cracker
		row  int
		want int
	}{
		{impl.NewCracker(eight), 0, 0},
		{impl.NewCracker(eight), 3, 3},
		{impl.NewCracker(eight), 7, 7},
		{impl.NewCracker(eight), 8, -1},
		{impl.NewCracker(eight), 9, -1},
		{impl.NewCracker(eight), -1, -1},
		{crackedAt(eight, 5, 3), 3, 0},
		{crackedAt(eight, 5, 3), 7, 3},
		{crackedAt(eight, 5, 3), 0, 7},
		{crackedAt(eight, 5, 3), 20, -1},
		{inRows([]int{5, 2, 9}, 900, 1, 30), 900, 0},
		{inRows([]int{5, 2, 9}, 900, 1, 30), 30, 2},
		{inRows([]int{5, 2, 9}, 900, 1, 30), 5, -1},
		{inRows([]int{5, 2, 9}, 900, 1, 30), 2, -1},
		{inRows([]int{5, 2, 9}, 900, 1, 30), 0, -1},
		{inRows([]int{5, 6}, 999, 0), 999, 0},
		{inRows([]int{5, 6}, 999, 0), 1000, -1},
		// no elements
		{impl.Cracker{}, 0, -1},
		{impl.Cracker{}, -1, -1},
		{cracked(nil, 3, 0), 0, -1},
		{cracked(nil, 3, 0), 3, -1},
		// a row several times: the first one of them
		{inRows([]int{5, 2, 9}, 1, 1, 0), 1, 0},
		{inRows([]int{5, 2, 9}, 0, 1, 1), 1, 1},
		{inRows([]int{5, 2, 9, 4}, 0, 1, 0, 1), 1, 1},
		{inRows([]int{5, 2, 9}, 0, 0, 0), 0, 0},
		{inRows([]int{5, 2, 9}, 7, 3, 999), 999, 2},
		{inRows([]int{5, 2, 9}, 999, 3, 999), 999, 0},
		// rows that no valid column has
		{inRows([]int{5, 2}, 0, -1), -1, 1},
		{inRows([]int{5, 2}, 1000, 0), 1000, 0},
		{inRows([]int{5, 2}, 4, math.MinInt), math.MinInt, 1},
		{inRows([]int{5, 2}, 4, math.MaxInt), math.MaxInt, 1},
		{inRows([]int{5, 2}, 4, math.MaxInt), math.MinInt, -1},
		// other reasons for which a column is not valid
		{cracked([]int{1, 1000}), 1, 1},
		{cracked([]int{9, 2}, 3, 1), 1, 1},
		{cracked([]int{2, 9}, 5, 1, 4, 1), 0, 0},
		{cracked(repeated(65, 1)), 64, 64},
		{cracked(repeated(65, 1)), 65, -1},
		// more rows than values, and fewer
		{inRows([]int{5, 2}, 0, 1, 2), 1, 1},
		{inRows([]int{5, 2}, 0, 1, 2), 2, 2},
		{inRows([]int{5, 2}, 0, 1, 2), 3, -1},
		{inRows([]int{5, 2}, 3, 1, 3), 3, 0},
		{inRows(nil, 0), 0, 0},
		{inRows(nil, 4, 5), 5, 1},
		{inRows([]int{5, 2}, 0), 0, 0},
		{inRows([]int{5, 2}, 0), 1, -1},
		{inRows([]int{5, 2}), 0, -1},
		{inRows([]int{5, 2}), 5, -1},
	} {
		if got := impl.FindRow(x.c, x.row); got != x.want {
			t.Errorf("FindRow(%v, %d) = %d, want %d", x.c, x.row, got, x.want)
		}
	}
}

func TestFindRowOfAllColumns(t *testing.T) {
	for _, columns := range []map[string]impl.Cracker{validColumns, invalidColumns} {
		for _, c := range columns {
			rows := append(upTo(70), bounds...)
			rows = append(append(rows, c.Rows...), c.Values...)
			for _, row := range rows {
				checkFindRow(t, c, row)
			}
		}
	}
	everyList([]int{-1, 0, 1, 2}, 4, func(rows []int) {
		for n := range 6 {
			c := inRows(spread(n), rows...)
			for row := -2; row <= 3; row++ {
				checkFindRow(t, c, row)
			}
		}
	})
}

// nearItems returns items in the free row, with values at all limits and around the values and the pivots of a column.
func nearItems(c impl.Cracker, row int) []impl.Item {
	values := append(slices.Clone(bounds), c.Values...)
	// Validating so many pivots again for every value would take long.
	if len(c.Pivots) <= 100 {
		for _, p := range c.Pivots {
			values = append(values, p.Value-1, p.Value, p.Value+1)
		}
	}
	slices.Sort(values)
	var l []impl.Item
	for _, v := range slices.Compact(values) {
		l = append(l, item(v, row))
	}
	return l
}

func TestRipplesOfAllColumns(t *testing.T) {
	for _, columns := range []map[string]impl.Cracker{validColumns, invalidColumns} {
		for _, c := range columns {
			for _, x := range nearItems(c, 333) {
				checkInsert(t, c, x)
				checkInsert(t, withoutNil(c), x)
			}
			for _, row := range []int{-1, 0, 999, 1000} {
				checkInsert(t, c, item(4, row))
				checkDelete(t, c, row)
			}
			for _, row := range c.Rows {
				checkInsert(t, c, item(4, row))
				checkDelete(t, c, row)
			}
		}
	}
}

// everyDivided calls visit with every small column that is divided at some of the values, in rows that are not in order.
func everyDivided(length int, visit func(impl.Cracker)) {
	everyList([]int{0, 1, 2}, length, func(values []int) {
		for set := range 1 << 4 {
			var at []int
			for v := range 4 {
				if set>>v&1 == 1 {
					at = append(at, v)
				}
			}
			c := divided(values, at...)
			for i, row := range c.Rows {
				c.Rows[i] = (row*7 + 3) % 11
			}
			visit(c)
		}
	})
}

func TestEverySmallRipple(t *testing.T) {
	everyDivided(5, func(c impl.Cracker) {
		for v := -1; v <= 4; v++ {
			checkInsert(t, c, item(v, 11))
		}
		for row := -1; row <= 11; row++ {
			checkDelete(t, c, row)
		}
	})
	everyDivided(3, func(c impl.Cracker) {
		for v := -1; v <= 3; v++ {
			once := checkInsert(t, c, item(v, 11))
			for w := -1; w <= 3; w++ {
				checkInsert(t, once, item(w, 12))
				checkInsert(t, once, item(w, 11))
			}
			for _, row := range once.Rows {
				checkDelete(t, once, row)
			}
		}
		for _, row := range c.Rows {
			once := checkDelete(t, c, row)
			for w := -1; w <= 3; w++ {
				checkInsert(t, once, item(w, row))
			}
			for _, other := range c.Rows {
				checkDelete(t, once, other)
			}
		}
	})
}

// TestRipplesOfEverySmallColumn has columns that are not valid among the others.
func TestRipplesOfEverySmallColumn(t *testing.T) {
	everyList([]int{0, 1, 2}, 3, func(values []int) {
		everyPivots([]int{0, 1, 2, 3}, []int{0, 1, 2, 3}, 2, func(l []impl.Pivot) {
			c := impl.Cracker{Values: values, Rows: upTo(len(values)), Pivots: l}
			for n := -1; n <= 3; n++ {
				checkInsert(t, c, item(n, 3))
				checkInsert(t, c, item(1, n))
				checkDelete(t, c, n)
			}
		})
	})
}

// An updated column has the values that the elements in it have to have, by row.
type updated struct {
	c      impl.Cracker
	values map[int]int
}

func newUpdated(values []int) *updated {
	x := &updated{impl.NewCracker(values), map[int]int{}}
	for row, v := range values {
		x.values[row] = v
	}
	return x
}

func (x *updated) insert(t *testing.T, y impl.Item) {
	t.Helper()
	if _, found := x.values[y.Row]; !found && len(x.values) < 64 {
		x.values[y.Row] = y.Value
	}
	x.c = checkInsert(t, x.c, y)
}

func (x *updated) delete(t *testing.T, row int) {
	t.Helper()
	delete(x.values, row)
	x.c = checkDelete(t, x.c, row)
}

// ask compares an answer with the values, which know nothing of places and pivots.
func (x *updated) ask(t *testing.T, r impl.Range) {
	t.Helper()
	want := x.scan(r)
	if _, rows := impl.AnswerRange(x.c, r); !slices.Equal(rows, want) {
		t.Errorf("AnswerRange(%v, %v) has the rows %d, want %d", x.c, r, rows, want)
	}
	next, from, to, _ := impl.SelectRange(x.c, r)
	if rows := impl.RowsBetween(next, from, to); !slices.Equal(rows, want) {
		t.Errorf("SelectRange(%v, %v) has the rows %d, want %d", x.c, r, rows, want)
	}
	for _, s := range sweptSettings {
		if _, _, rows, _ := impl.SelectWith(x.c, s, r); !slices.Equal(rows, want) {
			t.Errorf("SelectWith(%v, %v, %v) has the rows %d, want %d", x.c, s, r, rows, want)
		}
	}
}

// scan returns the rows in ascending order.
func (x *updated) scan(r impl.Range) []int {
	var rows []int
	for row := range 1000 {
		if v, found := x.values[row]; found && r.From <= v && v < r.To {
			rows = append(rows, row)
		}
	}
	return rows
}

func (x *updated) divide(t *testing.T, r impl.Range) {
	t.Helper()
	x.ask(t, r)
	x.c = checkSelection(t, x.c, r)
}

// check asks for the elements, and for several ranges.
func (x *updated) check(t *testing.T) {
	t.Helper()
	var want [][2]int
	for _, row := range x.scan(span(-1000, 1000)) {
		want = append(want, [2]int{row, x.values[row]})
	}
	if !isColumn(x.c) || !slices.Equal(elements(x.c), want) {
		t.Errorf("the column is %v, which is not valid or has not the elements %d", x.c, want)
	}
	for _, r := range spans(-1000, 1000, 3, 8, 2, 5, 5, 5, 5, 6, 0, 3, 8, 20) {
		x.ask(t, r)
	}
}

// TestAnswersBehindRipples asks behind one insertion or deletion, in columns that were divided before.
func TestAnswersBehindRipples(t *testing.T) {
	for _, at := range [][]int{nil, {5}, {3, 5}, {4, 5}, {0, 1, 4, 5, 10, 11}, {1, 2, 3, 4, 5, 6, 7, 8, 9, 10}} {
		for v := -1; v <= 11; v++ {
			x := newUpdated(eight)
			x.c = crackedAt(eight, at...)
			x.insert(t, item(v, 20))
			x.check(t)
		}
		for row := range eight {
			x := newUpdated(eight)
			x.c = crackedAt(eight, at...)
			x.delete(t, row)
			x.check(t)
			for _, r := range someRanges(x.c) {
				if isSpan(r) {
					checkSelection(t, x.c, r)
				}
			}
		}
	}
	for name, c := range validColumns {
		if len(c.Pivots) > 100 || len(c.Values) == 64 {
			continue
		}
		for _, v := range []int{-999, -3, 0, 2, 3, 4, 7, 999} {
			before, after := scanColumn(c, span(v, v+1)), checkInsert(t, c, item(v, 333))
			want := sortNumbers(append(before, 333))
			if _, rows := impl.AnswerRange(after, span(v, v+1)); !slices.Equal(rows, want) {
				t.Errorf("%s: with %d inserted, its rows are %d, want %d", name, v, rows, want)
			}
			checkSelection(t, after, span(v-1, v))
			checkSelection(t, after, span(-1000, v+1))
		}
	}
}

// TestRipplesInEveryOrder mixes insertions, deletions and queries; only the order of the elements depends on theirs.
func TestRipplesInEveryOrder(t *testing.T) {
	steps := []func(*updated){
		func(x *updated) { x.insert(t, item(4, 20)) },
		func(x *updated) { x.insert(t, item(0, 21)) },
		func(x *updated) { x.delete(t, 1) },
		func(x *updated) { x.delete(t, 0) },
		func(x *updated) { x.divide(t, span(3, 8)) },
		func(x *updated) { x.divide(t, span(2, 5)) },
	}
	var first *updated
	everyOrder(upTo(len(steps)), func(order []int) {
		x := newUpdated(eight)
		for _, i := range order {
			steps[i](x)
		}
		x.check(t)
		if first == nil {
			first = x
		}
		if !slices.Equal(x.c.Pivots, first.c.Pivots) || !slices.Equal(elements(x.c), elements(first.c)) {
			t.Errorf("in the order %d, the column is %v, in another %v", order, x.c, first.c)
		}
	})
}

// TestManyRipples fills a column to the limit, empties it, and fills it again, with queries between.
func TestManyRipples(t *testing.T) {
	for _, values := range [][]int{nil, {7}, eight, spread(40), repeated(30, 7), spread(64)} {
		x := newUpdated(values)
		for i := range 400 {
			row := i * 577 % 1000
			switch {
			case i%9 == 8:
				from := (i*577+i*i*31)%2001 - 1000
				x.divide(t, span(from, min(1000, from+i*i%401)))
			case i/100%2 == 0 && i%4 != 3:
				x.insert(t, item((i*577+i*i*i)%1999-999, row))
			case len(x.c.Rows) > 0:
				x.delete(t, x.c.Rows[i*31%len(x.c.Rows)])
			default:
				x.delete(t, row)
			}
		}
		x.check(t)
	}
}

// TestFillingAndEmptying inserts 64 elements into a column that has only pivots, and deletes all of them again.
func TestFillingAndEmptying(t *testing.T) {
	for _, by := range []int{50, 333, 1000} {
		empty := divided(nil, steps(by)...)
		c := empty
		for i, v := range spread(64) {
			c = checkInsert(t, c, item(v, i*577%1000))
		}
		checkNoInsert(t, "65 elements", c, item(0, 1))
		if want := divided(spread(64), steps(by)...); !slices.Equal(c.Pivots, want.Pivots) || len(c.Values) != 64 {
			t.Errorf("the filled column is %v, want the pivots %v", c, want.Pivots)
		}
		for i := range 64 {
			c = checkDelete(t, c, i*27%64*577%1000)
		}
		if !impl.EqualCrackers(c, empty) {
			t.Errorf("the emptied column is %v, want %v", c, empty)
		}
	}
}

// TestRipplesKeepNoState asks for the same columns between others.
func TestRipplesKeepNoState(t *testing.T) {
	var first []impl.Cracker
	for round := range 3 {
		for i, x := range limitItems() {
			c := divided(spread(63), steps(50)...)
			longer, moved, _ := impl.RippleInsert(c, x)
			shorter, movedBack, _ := impl.RippleDelete(longer, i)
			if round == 0 {
				first = append(first, longer, shorter)
			}
			if !impl.EqualCrackers(longer, first[2*i]) || !impl.EqualCrackers(shorter, first[2*i+1]) || moved != movedRows(c, longer) || movedBack != movedRows(longer, shorter) {
				t.Errorf("in round %d, %v leads to %v and %v, but to %v and %v before", round, x, longer, shorter, first[2*i], first[2*i+1])
			}
			impl.RippleInsert(shorter, x)
			impl.RippleDelete(shorter, 1000)
			impl.FindRow(longer, i)
			impl.IsItem(x)
		}
	}
}

// rippled performs all functions of chapter 10 that have a column, successfully and not, and returns what they answer.
func rippled(c impl.Cracker) ([]impl.Cracker, [][]int) {
	var columns []impl.Cracker
	var lists [][]int
	for _, x := range []impl.Item{item(-999, 333), item(0, 334), item(3, 335), item(4, 336), item(7, 337), item(999, 338), item(1000, 339), item(4, -1), item(4, 0)} {
		longer, moved, _ := impl.RippleInsert(c, x)
		columns, lists = append(columns, longer), append(lists, []int{moved, impl.FindRow(longer, x.Row)})
	}
	n := len(c.Rows)
	rows := []int{-1, 0, 1, 5, 333, 1000}
	if n > 0 {
		rows = append(rows, c.Rows[0], c.Rows[n/2], c.Rows[n-1])
	}
	for _, row := range rows {
		shorter, moved, _ := impl.RippleDelete(c, row)
		columns, lists = append(columns, shorter), append(lists, []int{moved, impl.FindRow(c, row)})
	}
	return columns, lists
}

func TestRippleArgumentsStay(t *testing.T) { checkArgumentsStay(t, rippled) }

func TestRippledColumnsAreNewMemory(t *testing.T) { checkNewMemory(t, rippled) }

// TestRippleOfOneListForValuesAndRows gives a column whose rows are the same memory as its values, or lie behind them.
func TestRippleOfOneListForValuesAndRows(t *testing.T) {
	list := spare([]int{1, 0, 2, 3})
	c := impl.Cracker{Values: list, Rows: list, Pivots: pivots(2, 2)}
	longer, moved, ok := impl.RippleInsert(c, item(-5, 9))
	if !ok || moved != 1 || impl.FormatCracker(longer) != "1 0 -5 [2] 3 2" || !slices.Equal(longer.Rows, []int{1, 0, 9, 3, 2}) {
		t.Errorf("with an element inserted, the column is %v, after %d moves", longer, moved)
	}
	shorter, moved, ok := impl.RippleDelete(c, 1)
	if !ok || moved != 2 || impl.FormatCracker(shorter) != "0 [2] 3 2" || !slices.Equal(shorter.Rows, []int{0, 3, 2}) {
		t.Errorf("with an element deleted, the column is %v, after %d moves", shorter, moved)
	}
	if !slices.Equal(list[:cap(list)][:7], []int{1, 0, 2, 3, 777, 888, 555}) {
		t.Errorf("the list has become %d", list[:cap(list)])
	}
	both := []int{5, 2, 9, 0, 1, 2, 777, 888}
	c = impl.Cracker{Values: both[:3], Rows: both[3:6]}
	longer, _, _ = impl.RippleInsert(c, item(4, 8))
	shorter, _, _ = impl.RippleDelete(c, 0)
	if !impl.EqualCrackers(longer, inRows([]int{5, 2, 9, 4}, 0, 1, 2, 8)) || !impl.EqualCrackers(shorter, inRows([]int{9, 2}, 2, 1)) {
		t.Errorf("the columns are %v and %v", longer, shorter)
	}
	if !slices.Equal(both, []int{5, 2, 9, 0, 1, 2, 777, 888}) {
		t.Errorf("both lists have become %d", both)
	}
}
