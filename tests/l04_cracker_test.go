package tests

import (
	"cmp"
	"math"
	"reflect"
	"slices"
	"strconv"
	"strings"
	"testing"

	"loop.example/g01984/impl"
)

// Promise 3, as far as chapter 4 goes: what a valid column is, and which piece belongs to a value.

// pivots is short for a list of pivots: a Value, its At, the next Value, its At and so on.
func pivots(numbers ...int) []impl.Pivot {
	var l []impl.Pivot
	for i := 0; i < len(numbers); i += 2 {
		l = append(l, impl.Pivot{Value: numbers[i], At: numbers[i+1]})
	}
	return l
}

// upTo returns the numbers from 0 up to, but not including, n.
func upTo(n int) []int {
	l := make([]int, n)
	for i := range l {
		l[i] = i
	}
	return l
}

// cracked returns the column with these values and pivots, and with the rows 0, 1, 2 and so on.
func cracked(values []int, numbers ...int) impl.Cracker {
	return impl.Cracker{Values: values, Rows: upTo(len(values)), Pivots: pivots(numbers...)}
}

// inRows returns the column with these values and rows, and without pivots.
func inRows(values []int, rows ...int) impl.Cracker {
	return impl.Cracker{Values: values, Rows: rows}
}

// divided returns the values in the order of their pieces, with these pivots, which have to be in ascending order.
func divided(values []int, at ...int) impl.Cracker {
	c := impl.Cracker{Rows: upTo(len(values))}
	piece := func(v int) int {
		k := 0
		for k < len(at) && at[k] <= v {
			k++
		}
		return k
	}
	slices.SortStableFunc(c.Rows, func(i, j int) int { return cmp.Compare(piece(values[i]), piece(values[j])) })
	for _, row := range c.Rows {
		c.Values = append(c.Values, values[row])
	}
	for k, value := range at {
		before := 0
		for _, v := range values {
			if piece(v) <= k {
				before++
			}
		}
		c.Pivots = append(c.Pivots, impl.Pivot{Value: value, At: before})
	}
	return c
}

// spread returns n values from all over the valid numbers.
func spread(n int) []int {
	l := make([]int, n)
	for i := range l {
		l[i] = (i*577+i*i*i)%1999 - 999
	}
	return l
}

// steps returns the numbers from -1000 to 1000 that are a multiple of by.
func steps(by int) []int {
	var l []int
	for v := -1000; v <= 1000; v++ {
		if v%by == 0 {
			l = append(l, v)
		}
	}
	return l
}

var (
	validColumns = map[string]impl.Cracker{
		"the zero value":                      {},
		"the document's example":              {Values: []int{2, 1, 3, 7, 9}, Rows: []int{4, 0, 2, 1, 3}, Pivots: pivots(3, 2, 4, 3, 5, 3)},
		"one element":                         cracked([]int{7}),
		"no pivots":                           cracked([]int{5, 2, 9, 2, 7, 1, 8, 3}),
		"equal values":                        cracked([]int{5, 5, 5}),
		"rows with gaps":                      inRows([]int{5, 2, 9}, 900, 1, 30),
		"rows in descending order":            inRows([]int{5, 2, 9}, 2, 1, 0),
		"row 0":                               inRows([]int{5}, 0),
		"row 999":                             inRows([]int{5, 6}, 999, 0),
		"64 values":                           cracked(repeated(64, 1)),
		"64 values in the greatest rows":      {Values: spread(64), Rows: upTo(1000)[936:]},
		"a value of -999":                     cracked([]int{3, -999}),
		"a value of 999":                      cracked([]int{999, 3}),
		"one pivot in the middle":             cracked([]int{2, 1, 5, 3}, 3, 2),
		"a pivot before an equal value":       cracked([]int{3, 3}, 3, 0),
		"a pivot behind a value less by 1":    cracked([]int{2, 2}, 3, 2),
		"a pivot at the beginning":            cracked([]int{5, 4}, 1, 0),
		"two pivots at the beginning":         cracked([]int{5, 4}, 1, 0, 4, 0),
		"three pivots at the beginning":       cracked([]int{5, 4}, -7, 0, 1, 0, 2, 0),
		"two pivots in the middle":            cracked([]int{2, 1, 9, 7}, 3, 2, 7, 2),
		"three pivots in the middle":          cracked([]int{2, 1, 9, 7}, 3, 2, 4, 2, 5, 2),
		"a pivot at the end":                  cracked([]int{5, 4}, 6, 2),
		"two pivots at the end":               cracked([]int{5, 4}, 6, 2, 900, 2),
		"three pivots at the end":             cracked([]int{5, 4}, 6, 2, 7, 2, 8, 2),
		"pivots at all places":                cracked([]int{1, 2, 3}, 1, 0, 2, 1, 3, 2, 4, 3),
		"two pivots at all places":            cracked([]int{10, 20}, 9, 0, 10, 0, 11, 1, 20, 1, 21, 2, 22, 2),
		"pivots below 0":                      cracked([]int{-9, -7, -3, 0}, -7, 1, -3, 2, -1, 3),
		"a pivot of -1000":                    cracked([]int{-999, 0}, -1000, 0),
		"a pivot of 1000":                     cracked([]int{999, 0}, 1000, 2),
		"pivots of -1000 and 1000":            cracked([]int{-999, 999}, -1000, 0, 1000, 2),
		"a pivot without elements":            cracked(nil, 3, 0),
		"two pivots without elements":         cracked(nil, 3, 0, 7, 0),
		"pivots at the limits, no elements":   cracked(nil, -1000, 0, 1000, 0),
		"one element at each pivot":           cracked([]int{0}, -1, 0, 0, 0, 1, 1, 2, 1),
		"64 values, a pivot of 0":             divided(spread(64), 0),
		"64 values, pivots all over":          divided(spread(64), -900, -300, -299, 0, 1, 2, 500, 998),
		"64 equal values between pivots":      divided(repeated(64, 7), 6, 7, 8, 9),
		"pieces of one element":               divided(upTo(64), upTo(65)...),
		"every 50th pivot":                    divided(spread(40), steps(50)...),
		"all pivots":                          divided(spread(64), steps(1)...),
		"all pivots of a column without rows": divided(nil, steps(1)...),
	}

	// Nearly all of these columns are not valid for one reason only; but an At that is out of range or less than the one before has wrong elements before it, too.
	invalidColumns = map[string]impl.Cracker{
		"65 values":                              cracked(repeated(65, 1)),
		"65 values and a pivot":                  divided(spread(65), 0),
		"a value of 1000":                        cracked([]int{1, 1000}),
		"a value of -1000":                       cracked([]int{-1000, 1}),
		"the greatest int as a value":            cracked([]int{math.MaxInt}),
		"the least int as a value":               cracked([]int{math.MinInt}),
		"a value of 1000 behind a pivot":         cracked([]int{1, 1000}, 3, 1),
		"a row more":                             inRows([]int{5, 2}, 0, 1, 2),
		"a row without values":                   inRows(nil, 0),
		"a row less":                             inRows([]int{5, 2}, 0),
		"no rows":                                inRows([]int{5, 2}),
		"no rows, but a pivot":                   {Values: []int{5}, Pivots: pivots(3, 0)},
		"64 values, 65 rows":                     inRows(repeated(64, 1), upTo(65)...),
		"64 values, 63 rows":                     inRows(repeated(64, 1), upTo(63)...),
		"a row twice":                            inRows([]int{5, 2, 9}, 1, 1, 0),
		"a row at the beginning and at the end":  inRows([]int{5, 2, 9}, 1, 0, 1),
		"all rows 0":                             inRows([]int{5, 2, 9}, 0, 0, 0),
		"row 999 twice":                          inRows([]int{5, 2, 9}, 999, 3, 999),
		"row 63 twice":                           inRows(repeated(64, 1), append([]int{63}, upTo(64)[1:]...)...),
		"row -1":                                 inRows([]int{5, 2}, 0, -1),
		"row 1000":                               inRows([]int{5, 2}, 1000, 0),
		"the least int as a row":                 inRows([]int{5}, math.MinInt),
		"the greatest int as a row":              inRows([]int{5}, math.MaxInt),
		"row -1 beside a pivot":                  {Values: []int{5}, Rows: []int{-1}, Pivots: pivots(3, 0)},
		"a pivot of -1001":                       cracked([]int{5, 2}, -1001, 0),
		"a pivot of 1001":                        cracked([]int{5, 2}, 1001, 2),
		"a pivot of -1001 without elements":      cracked(nil, -1001, 0),
		"a pivot of 1001 without elements":       cracked(nil, 1001, 0),
		"the least int as a pivot":               cracked([]int{5}, math.MinInt, 0),
		"the greatest int as a pivot":            cracked([]int{5}, math.MaxInt, 1),
		"a pivot of 1001 behind one of 1000":     cracked([]int{5}, 1000, 1, 1001, 1),
		"a pivot of -1001 before one of -1000":   cracked([]int{5}, -1001, 0, -1000, 0),
		"equal pivots":                           cracked([]int{2, 5}, 3, 1, 3, 1),
		"equal pivots without elements":          cracked(nil, 3, 0, 3, 0),
		"equal pivots at last":                   cracked([]int{2, 5}, 2, 0, 3, 1, 3, 1),
		"equal pivots of -1000":                  cracked([]int{2, 5}, -1000, 0, -1000, 0),
		"equal pivots of 1000":                   cracked([]int{2, 5}, 1000, 2, 1000, 2),
		"pivots that descend":                    cracked([]int{2, 9}, 5, 1, 4, 1),
		"pivots that descend, each at its place": cracked([]int{1, 5, 9}, 7, 2, 3, 1),
		"pivots that descend at last":            cracked([]int{2, 9}, 1, 0, 5, 1, 4, 1),
		"pivots that descend without elements":   cracked(nil, 7, 0, 3, 0),
		"equal pivots with another between":      cracked([]int{2, 9}, 4, 1, 5, 1, 4, 1),
		"At of -1":                               cracked([]int{5, 2}, 1, -1),
		"At of -1 without elements":              cracked(nil, 3, -1),
		"At behind the number of values":         cracked([]int{5, 2}, 9, 3),
		"At of 1 without elements":               cracked(nil, 3, 1),
		"At of 65":                               cracked(repeated(64, 1), 2, 65),
		"the least int as At":                    cracked([]int{5, 2}, 1, math.MinInt),
		"the greatest int as At":                 cracked([]int{5, 2}, 9, math.MaxInt),
		"At less than the one before":            cracked([]int{2, 2, 9}, 3, 2, 5, 1),
		"At of 0 behind others":                  cracked([]int{1, 2, 9}, 2, 1, 3, 0),
		"an equal element before At":             cracked([]int{2, 3, 5}, 3, 2),
		"a greater element before At":            cracked([]int{9, 2}, 3, 1),
		"a greater element alone before At":      cracked([]int{5}, 3, 1),
		"a greater element before At, at first":  cracked([]int{9, 2, 2, 9}, 3, 3),
		"a lesser element from At on":            cracked([]int{2, 5, 2}, 3, 1),
		"a lesser element at At":                 cracked([]int{1, 2, 5}, 3, 1),
		"a lesser element at last":               cracked([]int{1, 5, 5, 2}, 3, 1),
		"a lesser element alone":                 cracked([]int{2}, 3, 0),
		"one element of each side exchanged":     cracked([]int{5, 1}, 3, 1),
		"all elements on the wrong side":         cracked([]int{7, 8, 1, 2}, 5, 2),
		"a wrong At behind a right one":          cracked([]int{1, 2, 3}, 2, 1, 3, 1),
		"a wrong At before a right one":          cracked([]int{1, 2, 3}, 2, 0, 3, 2),
		"pivots, but no elements":                cracked(nil, 3, 0, 4, 1),
		"an element behind a pivot of 1000":      cracked([]int{5}, 1000, 0),
		"an element before a pivot of -1000":     cracked([]int{5}, -1000, 1),
	}
)

// isColumn has a condition for each one of the document.
func isColumn(c impl.Cracker) bool {
	for _, v := range c.Values {
		if v < -999 || v > 999 {
			return false
		}
	}
	if len(c.Values) > 64 || len(c.Rows) != len(c.Values) {
		return false
	}
	for i, row := range c.Rows {
		if row < 0 || row > 999 || slices.Contains(c.Rows[:i], row) {
			return false
		}
	}
	for i, p := range c.Pivots {
		if p.Value < -1000 || p.Value > 1000 || p.At < 0 || p.At > len(c.Values) {
			return false
		}
		if i > 0 && (p.Value <= c.Pivots[i-1].Value || p.At < c.Pivots[i-1].At) {
			return false
		}
		for place, v := range c.Values {
			if (place < p.At) != (v < p.Value) {
				return false
			}
		}
	}
	return true
}

// pieceOf takes the greatest and the smallest one of all pivots, in whatever order they are.
func pieceOf(c impl.Cracker, v int) (int, int) {
	if !isColumn(c) || v < -1000 || v > 1000 {
		return 0, 0
	}
	low, high := impl.Pivot{Value: -2000, At: 0}, impl.Pivot{Value: 2000, At: len(c.Values)}
	for _, p := range c.Pivots {
		if p.Value <= v && p.Value > low.Value {
			low = p
		}
		if p.Value >= v && p.Value < high.Value {
			high = p
		}
	}
	return low.At, high.At
}

// countPieces tells by the places at which a piece begins; it also returns the number of elements of the largest piece.
func countPieces(c impl.Cracker) (int, int) {
	if !isColumn(c) {
		return 0, 0
	}
	count, size, largest := 0, 0, 0
	for place := range c.Values {
		if place == 0 || slices.ContainsFunc(c.Pivots, func(p impl.Pivot) bool { return p.At == place }) {
			count++
			size = 0
		}
		size++
		largest = max(largest, size)
	}
	return count, largest
}

// formatColumn writes place by place.
func formatColumn(c impl.Cracker) string {
	if !isColumn(c) {
		return ""
	}
	text := ""
	for place := range len(c.Values) + 1 {
		for _, p := range c.Pivots {
			if p.At == place {
				text += " [" + strconv.Itoa(p.Value) + "]"
			}
		}
		if place < len(c.Values) {
			text += " " + strconv.Itoa(c.Values[place])
		}
	}
	if text == "" {
		return "none"
	}
	return text[1:]
}

// checkColumn compares everything that one column answers with the functions above.
func checkColumn(t *testing.T, c impl.Cracker) {
	t.Helper()
	if got := impl.IsCracker(c); got != isColumn(c) {
		t.Errorf("IsCracker(%v) = %t", c, got)
	}
	count, largest := countPieces(c)
	if got := impl.CountPieces(c); got != count {
		t.Errorf("CountPieces(%v) = %d, want %d", c, got, count)
	}
	if got := impl.LargestPiece(c); got != largest {
		t.Errorf("LargestPiece(%v) = %d, want %d", c, got, largest)
	}
	if got := impl.FormatCracker(c); got != formatColumn(c) {
		t.Errorf("FormatCracker(%v) = %q, want %q", c, got, formatColumn(c))
	}
}

func checkPieceOf(t *testing.T, c impl.Cracker, v int) {
	t.Helper()
	wantFrom, wantTo := pieceOf(c, v)
	if from, to := impl.PieceOf(c, v); from != wantFrom || to != wantTo {
		t.Errorf("PieceOf(%v, %d) = %d, %d, want %d, %d", c, v, from, to, wantFrom, wantTo)
	}
}

// everyList calls visit with all lists of at most length numbers, all of them among these.
func everyList(numbers []int, length int, visit func([]int)) {
	var longer func([]int)
	longer = func(l []int) {
		visit(slices.Clone(l))
		if len(l) == length {
			return
		}
		for _, n := range numbers {
			longer(append(slices.Clone(l), n))
		}
	}
	longer(nil)
}

// everyPivots calls visit with all lists of at most length pivots with these Values and At.
func everyPivots(values, at []int, length int, visit func([]impl.Pivot)) {
	var numbers []int
	for i := range len(values) * len(at) {
		numbers = append(numbers, i)
	}
	everyList(numbers, length, func(l []int) {
		var list []impl.Pivot
		for _, i := range l {
			list = append(list, impl.Pivot{Value: values[i/len(at)], At: at[i%len(at)]})
		}
		visit(list)
	})
}

func TestNewCrackerExamples(t *testing.T) {
	for name, values := range map[string][]int{
		"no values":          nil,
		"an empty list":      {},
		"one value":          {7},
		"values":             {5, 2, 9, 2, 7, 1, 8, 3},
		"equal values":       {4, 4, 4},
		"values below 0":     {-1, -5, -3},
		"values of 0":        {0, 0},
		"the limits":         {999, -999},
		"63 values":          spread(63),
		"64 values":          spread(64),
		"64 greatest values": repeated(64, 999),
		"64 least values":    repeated(64, -999),
	} {
		c := impl.NewCracker(values)
		if !slices.Equal(c.Values, values) || !slices.Equal(c.Rows, upTo(len(values))) || len(c.Pivots) != 0 || !impl.IsCracker(c) {
			t.Errorf("%s: NewCracker(%d) = %v", name, values, c)
		}
		if got := impl.LargestPiece(c); got != len(values) {
			t.Errorf("%s: LargestPiece = %d", name, got)
		}
	}
	for name, values := range map[string][]int{
		"65 values":             repeated(65, 1),
		"1000 values":           repeated(1000, 0),
		"1000":                  {1000},
		"-1000":                 {-1000},
		"1000 at last":          {1, 2, 1000},
		"-1000 at first":        {-1000, 1, 2},
		"the greatest int":      {math.MaxInt},
		"the least int":         {0, math.MinInt},
		"64 values with -1000":  append(spread(63), -1000),
		"65 values at the most": repeated(65, 999),
	} {
		if c := impl.NewCracker(values); len(c.Values) != 0 || len(c.Rows) != 0 || len(c.Pivots) != 0 {
			t.Errorf("%s: NewCracker = %v", name, c)
		}
	}
}

func TestNewCrackerOfAllLimits(t *testing.T) {
	for n := range 130 {
		c := impl.NewCracker(spread(n))
		want := 0
		if n <= 64 {
			want = n
		}
		if len(c.Values) != want || len(c.Rows) != want || want > 0 && c.Rows[want-1] != want-1 {
			t.Errorf("NewCracker of %d values = %v", n, c)
		}
	}
	for v := -1100; v <= 1100; v++ {
		c := impl.NewCracker([]int{v})
		if valid := -999 <= v && v <= 999; valid != (len(c.Values) == 1) || valid != (len(c.Rows) == 1) {
			t.Errorf("NewCracker of %d = %v", v, c)
		}
	}
}

func TestIsCrackerExamples(t *testing.T) {
	for name, c := range validColumns {
		if !impl.IsCracker(c) {
			t.Errorf("%s: IsCracker(%v) = false", name, c)
		}
	}
	for name, c := range invalidColumns {
		if impl.IsCracker(c) {
			t.Errorf("%s: IsCracker(%v) = true", name, c)
		}
	}
}

// TestColumnsThatAreNotValid checks the fixed results of all functions that ask for a valid column.
func TestColumnsThatAreNotValid(t *testing.T) {
	for name, c := range invalidColumns {
		if got := impl.CountPieces(c); got != 0 {
			t.Errorf("%s: CountPieces = %d", name, got)
		}
		if got := impl.LargestPiece(c); got != 0 {
			t.Errorf("%s: LargestPiece = %d", name, got)
		}
		if got := impl.FormatCracker(c); got != "" {
			t.Errorf("%s: FormatCracker = %q", name, got)
		}
		for _, v := range append([]int{4, 5, 6, 7, 8}, bounds...) {
			if from, to := impl.PieceOf(c, v); from != 0 || to != 0 {
				t.Errorf("%s: PieceOf %d = %d, %d", name, v, from, to)
			}
		}
	}
}

func TestAllColumnExamples(t *testing.T) {
	for _, columns := range []map[string]impl.Cracker{validColumns, invalidColumns} {
		for _, c := range columns {
			checkColumn(t, c)
		}
	}
}

// TestIsCrackerOfEachElement spoils a valid column with a pivot between all elements in one place at a time.
func TestIsCrackerOfEachElement(t *testing.T) {
	for i := range 5 {
		for what, spoil := range map[string]func(*impl.Cracker){
			"a value of 1000":      func(c *impl.Cracker) { c.Values[i] = 1000 },
			"a value of -1000":     func(c *impl.Cracker) { c.Values[i] = -1000 },
			"a value that is 1001": func(c *impl.Cracker) { c.Values[i] = 1001 },
			"a value too great":    func(c *impl.Cracker) { c.Values[i] = c.Pivots[i].Value },
			"a value too small":    func(c *impl.Cracker) { c.Values[i+1] = c.Pivots[i].Value - 1 },
			"row -1":               func(c *impl.Cracker) { c.Rows[i] = -1 },
			"row 1000":             func(c *impl.Cracker) { c.Rows[i] = 1000 },
			"a row twice":          func(c *impl.Cracker) { c.Rows[i] = c.Rows[i+1] },
			"a row less":           func(c *impl.Cracker) { c.Rows = slices.Delete(c.Rows, i, i+1) },
			"a row more":           func(c *impl.Cracker) { c.Rows = slices.Insert(c.Rows, i, 77) },
			"a value less":         func(c *impl.Cracker) { c.Values = slices.Delete(c.Values, i, i+1) },
			"At greater by 1":      func(c *impl.Cracker) { c.Pivots[i].At++ },
			"At less by 1":         func(c *impl.Cracker) { c.Pivots[i].At-- },
			"At of -1":             func(c *impl.Cracker) { c.Pivots[i].At = -1 },
			"At of 7":              func(c *impl.Cracker) { c.Pivots[i].At = 7 },
			"a pivot too great":    func(c *impl.Cracker) { c.Pivots[i].Value = c.Values[i+1] + 1 },
			"a pivot too small":    func(c *impl.Cracker) { c.Pivots[i].Value = c.Values[i] },
			"a pivot twice":        func(c *impl.Cracker) { c.Pivots = slices.Insert(c.Pivots, i, c.Pivots[i]) },
			"a pivot of -1001":     func(c *impl.Cracker) { c.Pivots[i].Value = -1001 },
			"a pivot of 1001":      func(c *impl.Cracker) { c.Pivots[i].Value = 1001 },
		} {
			c := divided([]int{10, 20, 30, 40, 50, 60}, 15, 25, 35, 45, 55)
			if !impl.IsCracker(c) {
				t.Fatal("the column is not valid before")
			}
			spoil(&c)
			if isColumn(c) {
				t.Fatalf("element %d, %s: %v is valid", i, what, c)
			}
			if impl.IsCracker(c) {
				t.Errorf("element %d, %s: IsCracker(%v) = true", i, what, c)
			}
		}
	}
}

func TestIsCrackerOfAllLimits(t *testing.T) {
	for v := -1100; v <= 1100; v++ {
		for _, c := range []impl.Cracker{
			cracked([]int{v}), inRows([]int{5}, v), inRows([]int{5, 6}, 500, v),
			cracked(nil, v, 0), cracked([]int{0}, v, 0), cracked([]int{0}, v, 1), cracked([]int{0, 7}, 5, 1, v, 1), cracked([]int{0, 7}, v, 1, 5, 1), cracked([]int{0}, 1, v),
		} {
			checkColumn(t, c)
		}
	}
	for n := range 130 {
		checkColumn(t, cracked(spread(n)))
		checkColumn(t, divided(spread(n), -500, 0, 500))
		checkColumn(t, inRows(spread(64), upTo(n)...))
		checkColumn(t, inRows(spread(n), upTo(64)...))
	}
	for _, v := range bounds {
		for _, at := range bounds {
			checkColumn(t, cracked([]int{1, 2, 3}, v, at))
			checkColumn(t, cracked([]int{1, 2, 3}, 3, 2, v, at))
			checkColumn(t, cracked([]int{1, 2, 3}, v, at, 3, 2))
		}
	}
}

// TestLongColumns reads lists that no valid column has.
func TestLongColumns(t *testing.T) {
	rows := upTo(100000)
	for what, c := range map[string]impl.Cracker{
		"long lists":  {Values: repeated(100000, 1), Rows: rows, Pivots: slices.Repeat(pivots(0, 0), 100000)},
		"long values": {Values: rows},
		"long rows":   {Values: repeated(64, 1), Rows: rows},
		"long pivots": {Pivots: slices.Repeat(pivots(0, 0), 100000)},
	} {
		if impl.IsCracker(c) || impl.CountPieces(c) != 0 || impl.LargestPiece(c) != 0 || impl.FormatCracker(c) != "" {
			t.Errorf("%s: the column is valid", what)
		}
		if !impl.EqualCrackers(c, c) || impl.EqualCrackers(c, impl.Cracker{}) {
			t.Errorf("%s: EqualCrackers", what)
		}
	}
	if at, ok := impl.FindPivot(impl.Cracker{Pivots: append(slices.Repeat(pivots(0, 0), 100000), pivots(3, 99)...)}, 3); at != 99 || !ok {
		t.Errorf("FindPivot at the end of a long list = %d, %t", at, ok)
	}
}

// TestEverySmallColumn follows the document for all columns of a few elements and pivots, most of which are not valid.
func TestEverySmallColumn(t *testing.T) {
	valid := 0
	visit := func(c impl.Cracker) {
		checkColumn(t, c)
		if isColumn(c) {
			valid++
		}
		for v := -1; v <= 4; v++ {
			checkPieceOf(t, c, v)
		}
	}
	everyList([]int{0, 1, 2}, 2, func(values []int) {
		everyList([]int{-1, 0, 1, 1000}, 3, func(rows []int) {
			everyPivots([]int{0, 1, 2}, []int{0, 1, 2}, 1, func(l []impl.Pivot) {
				visit(impl.Cracker{Values: values, Rows: rows, Pivots: l})
			})
		})
	})
	everyList([]int{0, 1, 2}, 3, func(values []int) {
		everyPivots([]int{0, 1, 2, 3}, []int{-1, 0, 1, 2, 3, 4}, 2, func(l []impl.Pivot) {
			visit(impl.Cracker{Values: values, Rows: upTo(len(values)), Pivots: l})
		})
	})
	everyList([]int{0, 1}, 2, func(values []int) {
		everyPivots([]int{0, 1, 2, 3}, []int{0, 1, 2}, 3, func(l []impl.Pivot) {
			visit(impl.Cracker{Values: values, Rows: upTo(len(values)), Pivots: l})
		})
	})
	if valid < 500 {
		t.Errorf("only %d of the columns are valid", valid)
	}
}

func TestFindPivotExamples(t *testing.T) {
	example := validColumns["the document's example"]
	for _, x := range []struct {
		c    impl.Cracker
		v    int
		want int
		ok   bool
	}{
		{example, 3, 2, true},
		{example, 4, 3, true},
		{example, 5, 3, true},
		{example, 2, 0, false},
		{example, 6, 0, false},
		{example, -3, 0, false},
		{example, 0, 0, false},
		{example, math.MinInt, 0, false},
		{example, math.MaxInt, 0, false},
		{impl.Cracker{}, 0, 0, false},
		{cracked([]int{5, 4}), 5, 0, false},
		{cracked([]int{5, 4}, 1, 0), 1, 0, true},
		{cracked([]int{5, 4}, 0, 0), 0, 0, true},
		{cracked([]int{5, 4}, 6, 2, 7, 2, 8, 2), 8, 2, true},
		{cracked([]int{-999, 999}, -1000, 0, 1000, 2), -1000, 0, true},
		{cracked([]int{-999, 999}, -1000, 0, 1000, 2), 1000, 2, true},
		{cracked([]int{-999, 999}, -1000, 0, 1000, 2), 999, 0, false},
		// columns that are not valid
		{cracked([]int{2, 5}, 3, 1, 3, 7), 3, 1, true},
		{cracked([]int{2, 5}, 3, 7, 3, 1), 3, 7, true},
		{cracked([]int{1, 5, 9}, 7, 2, 3, 1), 3, 1, true},
		{cracked([]int{1, 5, 9}, 7, 2, 3, 1), 7, 2, true},
		{cracked([]int{1, 5, 9}, 7, 2, 3, 1), 5, 0, false},
		{cracked(nil, 9, 4, 5, 3, 9, 2, 1, 1, 5, 0), 5, 3, true},
		{cracked(nil, 9, 4, 5, 3, 9, 2, 1, 1, 5, 0), 1, 1, true},
		{cracked([]int{5, 2}, 1, -1), 1, -1, true},
		{cracked([]int{5, 2}, 9, 3), 9, 3, true},
		{cracked(nil, -1001, -8, 1001, 9), -1001, -8, true},
		{cracked(nil, -1001, -8, 1001, 9), 1001, 9, true},
		{cracked(nil, math.MinInt, math.MaxInt, math.MaxInt, math.MinInt), math.MinInt, math.MaxInt, true},
		{cracked(nil, math.MinInt, math.MaxInt, math.MaxInt, math.MinInt), math.MaxInt, math.MinInt, true},
		{impl.Cracker{Values: []int{5000}, Rows: []int{-5, 2}, Pivots: pivots(3, 2)}, 3, 2, true},
		{impl.Cracker{Values: []int{5000}, Rows: []int{-5, 2}, Pivots: pivots(3, 2)}, 4, 0, false},
	} {
		if got, ok := impl.FindPivot(x.c, x.v); got != x.want || ok != x.ok {
			t.Errorf("FindPivot(%v, %d) = %d, %t, want %d, %t", x.c, x.v, got, ok, x.want, x.ok)
		}
	}
}

func TestFindPivotOfAllColumns(t *testing.T) {
	for _, columns := range []map[string]impl.Cracker{validColumns, invalidColumns} {
		for name, c := range columns {
			values := append([]int{4, 5, 6, 7, 8}, bounds...)
			for _, p := range c.Pivots {
				values = append(values, p.Value-1, p.Value, p.Value+1)
			}
			for _, v := range values {
				i := slices.IndexFunc(c.Pivots, func(p impl.Pivot) bool { return p.Value == v })
				want := 0
				if i >= 0 {
					want = c.Pivots[i].At
				}
				if got, ok := impl.FindPivot(c, v); got != want || ok != (i >= 0) {
					t.Errorf("%s: FindPivot %d = %d, %t, want %d", name, v, got, ok, want)
				}
			}
		}
	}
}

func TestPieceOfExamples(t *testing.T) {
	example := validColumns["the document's example"]
	apart := cracked([]int{1, 2, 10, 11, 12, 20}, 5, 2, 15, 5)
	negative := cracked([]int{-9, -7, -3, 0}, -7, 1, -3, 2, -1, 3)
	limits := cracked([]int{-999, 999}, -1000, 0, 1000, 2)
	for _, x := range []struct {
		c        impl.Cracker
		v        int
		from, to int
	}{
		{example, -1000, 0, 2},
		{example, 0, 0, 2},
		{example, 2, 0, 2},
		{example, 3, 2, 2},
		{example, 4, 3, 3},
		{example, 5, 3, 3},
		{example, 6, 3, 5},
		{example, 9, 3, 5},
		{example, 1000, 3, 5},
		{example, -1001, 0, 0},
		{example, 1001, 0, 0},
		{example, math.MinInt, 0, 0},
		{example, math.MaxInt, 0, 0},
		// before the first pivot, at a pivot, between two, and behind the last one
		{apart, -1000, 0, 2},
		{apart, 4, 0, 2},
		{apart, 5, 2, 2},
		{apart, 6, 2, 5},
		{apart, 14, 2, 5},
		{apart, 15, 5, 5},
		{apart, 16, 5, 6},
		{apart, 1000, 5, 6},
		{negative, -8, 0, 1},
		{negative, -7, 1, 1},
		{negative, -5, 1, 2},
		{negative, -3, 2, 2},
		{negative, -2, 2, 3},
		{negative, 0, 3, 4},
		// two and three pivots at one place: at the beginning, in the middle, and at the end
		{cracked([]int{5, 4}, 1, 0, 4, 0), 0, 0, 0},
		{cracked([]int{5, 4}, 1, 0, 4, 0), 2, 0, 0},
		{cracked([]int{5, 4}, 1, 0, 4, 0), 4, 0, 0},
		{cracked([]int{5, 4}, 1, 0, 4, 0), 5, 0, 2},
		{cracked([]int{5, 4}, -7, 0, 1, 0, 2, 0), -3, 0, 0},
		{cracked([]int{5, 4}, -7, 0, 1, 0, 2, 0), 3, 0, 2},
		{cracked([]int{2, 1, 9, 7}, 3, 2, 7, 2), 2, 0, 2},
		{cracked([]int{2, 1, 9, 7}, 3, 2, 7, 2), 5, 2, 2},
		{cracked([]int{2, 1, 9, 7}, 3, 2, 7, 2), 8, 2, 4},
		{cracked([]int{2, 1, 9, 7}, 3, 2, 4, 2, 5, 2), 4, 2, 2},
		{cracked([]int{2, 1, 9, 7}, 3, 2, 4, 2, 5, 2), 6, 2, 4},
		{cracked([]int{5, 4}, 6, 2, 900, 2), 5, 0, 2},
		{cracked([]int{5, 4}, 6, 2, 900, 2), 6, 2, 2},
		{cracked([]int{5, 4}, 6, 2, 900, 2), 50, 2, 2},
		{cracked([]int{5, 4}, 6, 2, 900, 2), 901, 2, 2},
		{cracked([]int{5, 4}, 6, 2, 7, 2, 8, 2), 7, 2, 2},
		{cracked([]int{5, 4}, 6, 2, 7, 2, 8, 2), 1000, 2, 2},
		// the limits
		{limits, -1000, 0, 0},
		{limits, -999, 0, 2},
		{limits, 999, 0, 2},
		{limits, 1000, 2, 2},
		{limits, -1001, 0, 0},
		{limits, 1001, 0, 0},
		// no pivots
		{cracked([]int{5, 2, 9}), -1000, 0, 3},
		{cracked([]int{5, 2, 9}), 5, 0, 3},
		{cracked([]int{5, 2, 9}), 1000, 0, 3},
		{cracked([]int{5, 2, 9}), 1001, 0, 0},
		{cracked([]int{5, 2, 9}), -1001, 0, 0},
		{cracked(repeated(64, 5)), 5, 0, 64},
		// no elements
		{impl.Cracker{}, 0, 0, 0},
		{cracked(nil, 3, 0, 7, 0), 5, 0, 0},
		{cracked(nil, 3, 0, 7, 0), 1000, 0, 0},
	} {
		if from, to := impl.PieceOf(x.c, x.v); from != x.from || to != x.to {
			t.Errorf("PieceOf(%v, %d) = %d, %d, want %d, %d", x.c, x.v, from, to, x.from, x.to)
		}
	}
}

func TestPieceOfAllValues(t *testing.T) {
	for _, c := range validColumns {
		for _, v := range bounds {
			checkPieceOf(t, c, v)
		}
		// Validating so many pivots again for every value would take long.
		if len(c.Pivots) > 100 {
			continue
		}
		for v := -1005; v <= 1005; v++ {
			checkPieceOf(t, c, v)
		}
	}
}

// TestPieceOfHoldsTheValue tells without any pivot where the elements are that a division at a value would move.
func TestPieceOfHoldsTheValue(t *testing.T) {
	for name, c := range validColumns {
		for _, v := range append(slices.Clone(c.Values), bounds...) {
			if v < -1000 || v > 1000 {
				continue
			}
			from, to := impl.PieceOf(c, v)
			if from < 0 || from > to || to > len(c.Values) {
				t.Fatalf("%s: PieceOf %d = %d, %d", name, v, from, to)
			}
			for place, element := range c.Values {
				if place < from && element >= v || place >= to && element < v {
					t.Errorf("%s: PieceOf %d = %d, %d, but %d is at %d", name, v, from, to, element, place)
				}
			}
			if at, ok := impl.FindPivot(c, v); ok && (from != at || to != at) {
				t.Errorf("%s: PieceOf %d = %d, %d, but its pivot is at %d", name, v, from, to, at)
			}
		}
	}
}

func TestCountPiecesExamples(t *testing.T) {
	for name, want := range map[string][2]int{
		"the zero value":                      {0, 0},
		"the document's example":              {3, 2},
		"one element":                         {1, 1},
		"no pivots":                           {1, 8},
		"equal values":                        {1, 3},
		"64 values":                           {1, 64},
		"one pivot in the middle":             {2, 2},
		"a pivot at the beginning":            {1, 2},
		"two pivots at the beginning":         {1, 2},
		"three pivots at the beginning":       {1, 2},
		"two pivots in the middle":            {2, 2},
		"three pivots in the middle":          {2, 2},
		"a pivot at the end":                  {1, 2},
		"two pivots at the end":               {1, 2},
		"three pivots at the end":             {1, 2},
		"pivots at all places":                {3, 1},
		"two pivots at all places":            {2, 1},
		"pivots below 0":                      {4, 1},
		"pivots of -1000 and 1000":            {1, 2},
		"a pivot without elements":            {0, 0},
		"two pivots without elements":         {0, 0},
		"64 equal values between pivots":      {1, 64},
		"pieces of one element":               {64, 1},
		"all pivots of a column without rows": {0, 0},
	} {
		c, found := validColumns[name]
		if !found {
			t.Fatalf("there is no column for %s", name)
		}
		if got := impl.CountPieces(c); got != want[0] {
			t.Errorf("%s: CountPieces = %d, want %d", name, got, want[0])
		}
		if got := impl.LargestPiece(c); got != want[1] {
			t.Errorf("%s: LargestPiece = %d, want %d", name, got, want[1])
		}
	}
	// The largest piece is the first one, in the middle, or the last one.
	for _, c := range []impl.Cracker{
		divided(upTo(10), 7, 8), divided(upTo(10), 1, 8), divided(upTo(10), 1, 3), divided(upTo(10), 7), divided(upTo(10), 3),
	} {
		if got := impl.LargestPiece(c); got != 7 {
			t.Errorf("LargestPiece(%v) = %d, want 7", c, got)
		}
	}
}

func TestFormatCrackerExamples(t *testing.T) {
	for name, want := range map[string]string{
		"the zero value":                    "none",
		"the document's example":            "2 1 [3] 3 [4] [5] 7 9",
		"one element":                       "7",
		"no pivots":                         "5 2 9 2 7 1 8 3",
		"equal values":                      "5 5 5",
		"rows with gaps":                    "5 2 9",
		"a value of -999":                   "3 -999",
		"one pivot in the middle":           "2 1 [3] 5 3",
		"a pivot at the beginning":          "[1] 5 4",
		"two pivots at the beginning":       "[1] [4] 5 4",
		"three pivots at the beginning":     "[-7] [1] [2] 5 4",
		"two pivots in the middle":          "2 1 [3] [7] 9 7",
		"three pivots in the middle":        "2 1 [3] [4] [5] 9 7",
		"a pivot at the end":                "5 4 [6]",
		"two pivots at the end":             "5 4 [6] [900]",
		"three pivots at the end":           "5 4 [6] [7] [8]",
		"pivots at all places":              "[1] 1 [2] 2 [3] 3 [4]",
		"two pivots at all places":          "[9] [10] 10 [11] [20] 20 [21] [22]",
		"pivots below 0":                    "-9 [-7] -7 [-3] -3 [-1] 0",
		"pivots of -1000 and 1000":          "[-1000] -999 999 [1000]",
		"a pivot without elements":          "[3]",
		"two pivots without elements":       "[3] [7]",
		"pivots at the limits, no elements": "[-1000] [1000]",
		"64 values":                         strings.Repeat("1 ", 63) + "1",
	} {
		c, found := validColumns[name]
		if !found {
			t.Fatalf("there is no column for %s", name)
		}
		if got := impl.FormatCracker(c); got != want {
			t.Errorf("%s: FormatCracker = %q, want %q", name, got, want)
		}
	}
	if got := impl.FormatCracker(impl.NewCracker(nil)); got != "none" {
		t.Errorf("FormatCracker of a new column without values = %q", got)
	}
}

// withoutNil returns the column with an empty list for each nil list.
func withoutNil(c impl.Cracker) impl.Cracker {
	return impl.Cracker{Values: append([]int{}, c.Values...), Rows: append([]int{}, c.Rows...), Pivots: append([]impl.Pivot{}, c.Pivots...)}
}

func TestNilListsAreEmptyLists(t *testing.T) {
	empty := withoutNil(impl.Cracker{})
	if !impl.EqualCrackers(empty, impl.Cracker{}) || !impl.EqualCrackers(impl.Cracker{}, empty) {
		t.Error("a column of empty lists is not equal to the zero value")
	}
	if !impl.EqualCrackers(impl.NewCracker(nil), impl.NewCracker([]int{})) || !impl.EqualCrackers(impl.NewCracker([]int{}), impl.Cracker{}) {
		t.Error("new columns without values are not equal")
	}
	for name, c := range validColumns {
		for _, x := range []impl.Cracker{
			withoutNil(c), {Values: withoutNil(c).Values, Rows: c.Rows, Pivots: c.Pivots}, {Values: c.Values, Rows: withoutNil(c).Rows, Pivots: c.Pivots}, {Values: c.Values, Rows: c.Rows, Pivots: withoutNil(c).Pivots},
		} {
			checkColumn(t, x)
			if !impl.IsCracker(x) || impl.FormatCracker(x) != impl.FormatCracker(c) || !impl.EqualCrackers(x, c) || !impl.EqualCrackers(c, x) {
				t.Errorf("%s: with empty lists, the column is another", name)
			}
		}
	}
}

// TestEqualCrackersOfAllColumns compares every column of the tables with every other one.
func TestEqualCrackersOfAllColumns(t *testing.T) {
	var all []impl.Cracker
	for _, columns := range []map[string]impl.Cracker{validColumns, invalidColumns} {
		for _, c := range columns {
			all = append(all, c)
		}
	}
	equal := 0
	for _, a := range all {
		for _, b := range all {
			want := reflect.DeepEqual(withoutNil(a), withoutNil(b))
			if got := impl.EqualCrackers(a, withoutNil(b)); got != want {
				t.Errorf("EqualCrackers(%v, %v) = %t", a, b, got)
			}
			if want {
				equal++
			}
		}
	}
	if equal != len(all) {
		t.Errorf("%d of %d columns are equal", equal, len(all))
	}
}

// TestEqualCrackersOfEachField changes one number or the length of one list at a time.
func TestEqualCrackersOfEachField(t *testing.T) {
	for _, columns := range []map[string]impl.Cracker{validColumns, invalidColumns} {
		for name, c := range columns {
			differ := func(what string, x impl.Cracker) {
				if impl.EqualCrackers(c, x) || impl.EqualCrackers(x, c) {
					t.Errorf("%s: the column is equal to %v, which has %s", name, x, what)
				}
			}
			for i := range c.Values {
				x := withoutNil(c)
				x.Values[i]++
				differ("another value", x)
			}
			for i := range c.Rows {
				x := withoutNil(c)
				x.Rows[i]--
				differ("another row", x)
			}
			for i := range c.Pivots {
				x, y := withoutNil(c), withoutNil(c)
				x.Pivots[i].Value++
				y.Pivots[i].At--
				differ("another Value", x)
				differ("another At", y)
			}
			for _, v := range []int{0, 1} {
				x := withoutNil(c)
				x.Values = append(x.Values, v)
				differ("a value more", x)
				x = withoutNil(c)
				x.Rows = append(x.Rows, v)
				differ("a row more", x)
				x = withoutNil(c)
				x.Pivots = append(x.Pivots, impl.Pivot{Value: v})
				differ("a pivot more", x)
			}
			x := withoutNil(c)
			x.Values = append(x.Values, 0)
			x.Rows = append(x.Rows, len(x.Rows))
			differ("an element more", x)
		}
	}
	for name, pair := range map[string][2]impl.Cracker{
		"values for rows":           {inRows([]int{0, 1}), inRows(nil, 0, 1)},
		"values and rows exchanged": {inRows([]int{1, 0}, 0, 1), inRows([]int{0, 1}, 1, 0)},
		"elements exchanged":        {inRows([]int{1, 0}, 1, 0), inRows([]int{0, 1}, 0, 1)},
		"pivots exchanged":          {cracked(nil, 3, 0, 7, 0), cracked(nil, 7, 0, 3, 0)},
		"Value and At exchanged":    {cracked(nil, 3, 0), cracked(nil, 0, 3)},
		"one division more":         {divided(upTo(9), 3), divided(upTo(9), 3, 5)},
		"one number in another list": {
			impl.Cracker{Values: []int{1, 2}, Rows: []int{3}}, impl.Cracker{Values: []int{1}, Rows: []int{2, 3}},
		},
	} {
		if impl.EqualCrackers(pair[0], pair[1]) || impl.EqualCrackers(pair[1], pair[0]) {
			t.Errorf("%s: the columns are equal", name)
		}
	}
}

// sparePivots returns a copy of a list with marked capacity behind it.
func sparePivots(l []impl.Pivot) []impl.Pivot {
	long := append(slices.Clone(l), pivots(777, 888, 555, 444)...)
	return long[:len(l)]
}

// columnWithSpare returns the column with marked capacity behind all of its lists.
func columnWithSpare(c impl.Cracker) impl.Cracker {
	return impl.Cracker{Values: spare(c.Values), Rows: spare(c.Rows), Pivots: sparePivots(c.Pivots)}
}

// wholeColumn returns a copy of the column in which all capacity is in use.
func wholeColumn(c impl.Cracker) impl.Cracker {
	return impl.Cracker{
		Values: slices.Clone(c.Values[:cap(c.Values)]), Rows: slices.Clone(c.Rows[:cap(c.Rows)]), Pivots: slices.Clone(c.Pivots[:cap(c.Pivots)]),
	}
}

func TestColumnArgumentsStay(t *testing.T) {
	for _, columns := range []map[string]impl.Cracker{validColumns, invalidColumns} {
		for name, plain := range columns {
			c, other := columnWithSpare(plain), columnWithSpare(validColumns["no pivots"])
			before, otherBefore := wholeColumn(c), wholeColumn(other)
			impl.NewCracker(c.Values)
			impl.IsCracker(c)
			for _, v := range []int{-1001, -1000, 0, 3, 4, 1000, 1001} {
				impl.FindPivot(c, v)
				impl.PieceOf(c, v)
			}
			impl.CountPieces(c)
			impl.LargestPiece(c)
			impl.FormatCracker(c)
			impl.EqualCrackers(c, other)
			impl.EqualCrackers(other, c)
			impl.EqualCrackers(c, c)
			if !reflect.DeepEqual(wholeColumn(c), before) || !reflect.DeepEqual(wholeColumn(other), otherBefore) {
				t.Errorf("%s: the column has become %v, it was %v", name, wholeColumn(c), before)
			}
		}
	}
}

func TestNewCrackerIsNewMemory(t *testing.T) {
	// The values are equal to the rows in some of the lists, so that a part of the argument would pass for the rows.
	for _, plain := range [][]int{{5, 2, 9}, {0, 1, 2, 3}, {7}, {0}, {}, nil, upTo(64), spread(64)} {
		values := spare(plain)
		before := slices.Clone(values[:cap(values)])
		first, second, third := impl.NewCracker(values), impl.NewCracker(values), impl.NewCracker(values)
		want := cracked(plain)
		fill(first.Values, 123)
		if !slices.Equal(first.Rows, want.Rows) {
			t.Errorf("after a change of the values, the rows are %d", first.Rows)
		}
		fill(second.Rows, 456)
		if !slices.Equal(second.Values, plain) {
			t.Errorf("after a change of the rows, the values are %d", second.Values)
		}
		if !slices.Equal(values[:cap(values)], before) {
			t.Errorf("after a change of an answer, the list is %d, it was %d", values[:cap(values)], before)
		}
		fill(values, 321)
		if !impl.EqualCrackers(third, want) {
			t.Errorf("after a change of the list and of other answers, the answer is %v, want %v", third, want)
		}
	}
}
