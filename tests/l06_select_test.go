package tests

import (
	"cmp"
	"math"
	"reflect"
	"slices"
	"strings"
	"testing"

	"loop.example/g01984/impl"
)

// Promise 4, as far as chapter 6 goes: every answer is that of a full scan, whatever history and order of queries led to it.

// selectColumn divides with the reader of chapter 5, and counts the lesser elements to find the places.
func selectColumn(c impl.Cracker, r impl.Range) (impl.Cracker, int, int, int) {
	if !isColumn(c) || !isSpan(r) {
		return withoutNil(c), 0, 0, 0
	}
	first, firstSwaps, _ := crackColumn(c, r.From)
	second, secondSwaps, _ := crackColumn(first, r.To)
	from, to := 0, 0
	for _, v := range c.Values {
		if v < r.From {
			from++
		}
		if v < r.To {
			to++
		}
	}
	return second, from, to, len(firstSwaps) + len(secondSwaps)
}

// rowsBetween asks for every row whether it is between the places, so that nothing has to be sorted.
func rowsBetween(c impl.Cracker, from, to int) []int {
	if !isColumn(c) || !(0 <= from && from <= to && to <= len(c.Rows)) {
		return nil
	}
	var rows []int
	for row := range 1000 {
		if slices.Contains(c.Rows[from:to], row) {
			rows = append(rows, row)
		}
	}
	return rows
}

// scanColumn looks at all elements, in the order of their rows, and at no pivots.
func scanColumn(c impl.Cracker, r impl.Range) []int {
	if !isColumn(c) || !isSpan(r) {
		return nil
	}
	var rows []int
	for _, x := range elements(c) {
		if r.From <= x[1] && x[1] < r.To {
			rows = append(rows, x[0])
		}
	}
	return rows
}

// sortNumbers takes the least number that is left, again and again.
func sortNumbers(l []int) []int {
	var sorted []int
	for rest := slices.Clone(l); len(rest) > 0; {
		least := 0
		for i, n := range rest {
			if n < rest[least] {
				least = i
			}
		}
		sorted = append(sorted, rest[least])
		rest = slices.Delete(rest, least, least+1)
	}
	return sorted
}

// checkSelection compares with the functions above, and returns the column of the selection.
func checkSelection(t *testing.T, c impl.Cracker, r impl.Range) impl.Cracker {
	t.Helper()
	want, wantFrom, wantTo, wantSwaps := selectColumn(c, r)
	got, from, to, n := impl.SelectRange(c, r)
	if !impl.EqualCrackers(got, want) || from != wantFrom || to != wantTo || n != wantSwaps {
		t.Errorf("SelectRange(%v, %v) = %v, %d, %d, %d, want %v, %d, %d, %d", c, r, got, from, to, n, want, wantFrom, wantTo, wantSwaps)
	}
	answer, rows := impl.AnswerRange(c, r)
	if wantRows := scanColumn(c, r); !impl.EqualCrackers(answer, want) || !slices.Equal(rows, wantRows) {
		t.Errorf("AnswerRange(%v, %v) = %v, %d, want %v, %d", c, r, answer, rows, want, wantRows)
	}
	if isColumn(c) && isSpan(r) {
		checkSelected(t, c, got, r, n)
		checkSelectionAgain(t, got, r, from, to)
	}
	return got
}

// checkSelected asks for the divisions at both ends one by one, and for what they may change.
func checkSelected(t *testing.T, before, after impl.Cracker, r impl.Range, n int) {
	t.Helper()
	first, firstSwaps, _ := impl.CrackAt(before, r.From)
	second, secondSwaps, _ := impl.CrackAt(first, r.To)
	if !impl.EqualCrackers(after, second) || n != len(firstSwaps)+len(secondSwaps) {
		t.Errorf("%v, selected by %v, is %v after %d swaps, but its divisions lead to %v", before, r, after, n, second)
	}
	if !isColumn(after) || !slices.Equal(elements(before), elements(after)) {
		t.Errorf("%v, selected by %v, is %v, which is not valid or has other elements", before, r, after)
		return
	}
	from, to := pieceOf(before, r.From)
	nextFrom, nextTo := pieceOf(first, r.To)
	for place := range before.Values {
		divided := from <= place && place < to || nextFrom <= place && place < nextTo
		same := before.Values[place] == after.Values[place] && before.Rows[place] == after.Rows[place]
		if !divided && !same {
			t.Errorf("%v, selected by %v, is %v, which has another element at %d", before, r, after, place)
		}
	}
	want := slices.Clone(before.Pivots)
	for _, v := range []int{r.From, r.To} {
		if at, found := impl.FindPivot(after, v); found {
			want = append(want, impl.Pivot{Value: v, At: at})
		}
	}
	slices.SortFunc(want, func(a, b impl.Pivot) int { return cmp.Compare(a.Value, b.Value) })
	if !slices.Equal(after.Pivots, slices.Compact(want)) {
		t.Errorf("%v, selected by %v, is %v, which has other pivots", before, r, after)
	}
}

// checkSelectionAgain selects once more, when there is nothing left to divide.
func checkSelectionAgain(t *testing.T, c impl.Cracker, r impl.Range, from, to int) {
	t.Helper()
	again, againFrom, againTo, n := impl.SelectRange(c, r)
	if !impl.EqualCrackers(again, c) || againFrom != from || againTo != to || n != 0 {
		t.Errorf("SelectRange(%v, %v), again, = %v, %d, %d, %d", c, r, again, againFrom, againTo, n)
	}
	answer, rows := impl.AnswerRange(c, r)
	if !impl.EqualCrackers(answer, c) || !slices.Equal(rows, scanColumn(c, r)) {
		t.Errorf("AnswerRange(%v, %v), again, = %v, %d", c, r, answer, rows)
	}
	if between := impl.RowsBetween(c, from, to); !slices.Equal(between, rows) {
		t.Errorf("RowsBetween(%v, %d, %d) = %d, want %d", c, from, to, between, rows)
	}
}

// crackedAt returns the column with these values, divided at one value after another.
func crackedAt(values []int, order ...int) impl.Cracker {
	c := impl.NewCracker(values)
	for _, v := range order {
		c, _, _ = impl.CrackAt(c, v)
	}
	return c
}

// someRanges returns ranges with ends at all limits and around a few of the values and pivots of a column.
func someRanges(c impl.Cracker) []impl.Range {
	ends := []int{math.MinInt, -1001, -1000, -999, 0, 999, 1000, 1001, math.MaxInt}
	for i := 0; i < len(c.Values); i += len(c.Values)/3 + 1 {
		ends = append(ends, c.Values[i], c.Values[i]/2+1)
	}
	for i := 0; i < len(c.Pivots); i += len(c.Pivots)/3 + 1 {
		ends = append(ends, c.Pivots[i].Value, c.Pivots[i].Value+1)
	}
	slices.Sort(ends)
	ends = slices.Compact(ends)
	var ranges []impl.Range
	for _, from := range ends {
		for _, to := range ends {
			ranges = append(ranges, span(from, to))
		}
	}
	return ranges
}

// A selection is what SelectRange and AnswerRange have to return for a column that was divided before.
type selection struct {
	values   []int
	before   []int
	r        impl.Range
	want     string
	from, to int
	swaps    int
	rows     []int
}

func (x selection) check(t *testing.T, name string) {
	t.Helper()
	c := crackedAt(x.values, x.before...)
	got, from, to, n := impl.SelectRange(c, x.r)
	if impl.FormatCracker(got) != x.want || from != x.from || to != x.to || n != x.swaps {
		t.Errorf("%s: SelectRange(%s, %v) = %s, %d, %d, %d, want %s, %d, %d, %d",
			name, impl.FormatCracker(c), x.r, impl.FormatCracker(got), from, to, n, x.want, x.from, x.to, x.swaps)
	}
	answer, rows := impl.AnswerRange(c, x.r)
	if impl.FormatCracker(answer) != x.want || !slices.Equal(rows, x.rows) {
		t.Errorf("%s: AnswerRange(%s, %v) = %s, %d, want %s, %d", name, impl.FormatCracker(c), x.r, impl.FormatCracker(answer), rows, x.want, x.rows)
	}
	checkSelection(t, c, x.r)
}

var eight = []int{5, 2, 9, 2, 7, 1, 8, 3}

func TestSelectionExamples(t *testing.T) {
	all := upTo(8)
	for name, x := range map[string]selection{
		"ordinary":                     {eight, nil, span(3, 8), "1 2 2 [3] 3 7 5 [8] 8 9", 3, 6, 3, []int{0, 4, 7}},
		"from the middle on":           {eight, nil, span(5, 8), "3 2 1 2 [5] 7 5 [8] 8 9", 4, 6, 3, []int{0, 4}},
		"all but one":                  {eight, nil, span(2, 10), "1 [2] 2 9 2 7 5 8 3 [10]", 1, 8, 1, []int{0, 1, 2, 3, 4, 6, 7}},
		"no swaps needed":              {[]int{1, 2, 7, 8}, nil, span(2, 8), "1 [2] 2 7 [8] 8", 1, 3, 0, []int{1, 2}},
		"values in descending order":   {[]int{9, 8, 7, 6}, nil, span(7, 9), "6 [7] 8 7 [9] 9", 1, 3, 1, []int{1, 2}},
		"below 0":                      {[]int{-5, 0, 5}, nil, span(-5, 5), "[-5] -5 0 [5] 5", 0, 2, 0, []int{0, 1}},
		"nothing between two values":   {eight, nil, span(4, 5), "3 2 1 2 [4] [5] 7 9 8 5", 4, 4, 2, nil},
		"nothing before all values":    {eight, nil, span(0, 1), "[0] [1] 5 2 9 2 7 1 8 3", 0, 0, 0, nil},
		"nothing behind all values":    {eight, nil, span(10, 20), "5 2 9 2 7 1 8 3 [10] [20]", 8, 8, 0, nil},
		"an empty range":               {eight, nil, span(4, 4), "3 2 1 2 [4] 7 9 8 5", 4, 4, 2, nil},
		"an empty range at a value":    {eight, nil, span(5, 5), "3 2 1 2 [5] 7 9 8 5", 4, 4, 2, nil},
		"an empty range before all":    {eight, nil, span(0, 0), "[0] 5 2 9 2 7 1 8 3", 0, 0, 0, nil},
		"everything":                   {eight, nil, span(-1000, 1000), "[-1000] 5 2 9 2 7 1 8 3 [1000]", 0, 8, 0, all},
		"just everything":              {eight, nil, span(1, 10), "[1] 5 2 9 2 7 1 8 3 [10]", 0, 8, 0, all},
		"one element":                  {eight, nil, span(7, 8), "5 2 3 2 1 [7] 7 [8] 8 9", 5, 6, 2, []int{4}},
		"the least element":            {eight, nil, span(1, 2), "[1] 1 [2] 2 9 2 7 5 8 3", 0, 1, 1, []int{5}},
		"the greatest element":         {eight, nil, span(9, 10), "5 2 3 2 7 1 8 [9] 9 [10]", 7, 8, 1, []int{2}},
		"two equal elements":           {eight, nil, span(2, 3), "1 [2] 2 2 [3] 9 7 5 8 3", 1, 3, 2, []int{1, 3}},
		"equal values":                 {[]int{5, 5, 5}, nil, span(5, 6), "[5] 5 5 5 [6]", 0, 3, 0, []int{0, 1, 2}},
		"less than equal values":       {[]int{5, 5, 5}, nil, span(4, 5), "[4] [5] 5 5 5", 0, 0, 0, nil},
		"greater than equal values":    {[]int{5, 5, 5}, nil, span(6, 7), "5 5 5 [6] [7]", 3, 3, 0, nil},
		"nothing of equal values":      {[]int{5, 5, 5}, nil, span(5, 5), "[5] 5 5 5", 0, 0, 0, nil},
		"equal values among others":    {[]int{5, 4, 5, 6, 5}, nil, span(5, 6), "4 [5] 5 5 5 [6] 6", 1, 4, 2, []int{0, 2, 4}},
		"the only element":             {[]int{7}, nil, span(7, 8), "[7] 7 [8]", 0, 1, 0, []int{0}},
		"before the only element":      {[]int{7}, nil, span(6, 7), "[6] [7] 7", 0, 0, 0, nil},
		"behind the only element":      {[]int{7}, nil, span(8, 9), "7 [8] [9]", 1, 1, 0, nil},
		"no elements":                  {nil, nil, span(3, 7), "[3] [7]", 0, 0, 0, nil},
		"no elements, an empty range":  {nil, nil, span(3, 3), "[3]", 0, 0, 0, nil},
		"no elements, all limits":      {nil, nil, span(-1000, 1000), "[-1000] [1000]", 0, 0, 0, nil},
		"no elements, an empty list":   {[]int{}, nil, span(-7, 7), "[-7] [7]", 0, 0, 0, nil},
		"around one pivot":             {eight, []int{5}, span(2, 7), "1 [2] 2 3 2 [5] 5 [7] 9 8 7", 1, 5, 2, []int{0, 1, 3, 7}},
		"behind a pivot":               {eight, []int{5}, span(6, 9), "3 2 1 2 [5] 5 [6] 7 8 [9] 9", 5, 7, 2, []int{4, 6}},
		"before a pivot":               {eight, []int{5}, span(1, 3), "[1] 2 2 1 [3] 3 [5] 7 9 8 5", 0, 3, 1, []int{1, 3, 5}},
		"nothing between two pivots":   {eight, []int{5, 8}, span(6, 7), "3 2 1 2 [5] 5 [6] [7] 7 [8] 8 9", 5, 5, 1, nil},
		"an empty range of one piece":  {eight, []int{3, 8}, span(4, 4), "1 2 2 [3] 3 [4] 7 5 [8] 8 9", 4, 4, 0, nil},
		"From in front of all pivots":  {eight, []int{8, 3}, span(2, 5), "1 [2] 2 2 [3] 3 [5] 7 5 [8] 8 9", 1, 4, 0, []int{1, 3, 7}},
		"no elements, between pivots":  {nil, []int{3, 7}, span(5, 5), "[3] [5] [7]", 0, 0, 0, nil},
		"no elements, around a pivot":  {nil, []int{5}, span(3, 7), "[3] [5] [7]", 0, 0, 0, nil},
		"no elements, behind a pivot":  {nil, []int{3}, span(5, 7), "[3] [5] [7]", 0, 0, 0, nil},
		"no elements, before a pivot":  {nil, []int{9}, span(5, 7), "[5] [7] [9]", 0, 0, 0, nil},
		"equal values behind a pivot":  {[]int{5, 5, 5}, []int{4}, span(5, 6), "[4] [5] 5 5 5 [6]", 0, 3, 0, []int{0, 1, 2}},
		"equal values before a pivot":  {[]int{5, 5, 5}, []int{7}, span(5, 6), "[5] 5 5 5 [6] [7]", 0, 3, 0, []int{0, 1, 2}},
		"nothing, behind equal values": {[]int{5, 5, 5}, []int{6}, span(7, 9), "5 5 5 [6] [7] [9]", 3, 3, 0, nil},
	} {
		x.check(t, name)
	}
}

func TestSelectionWithEndsThatArePivots(t *testing.T) {
	for name, x := range map[string]selection{
		"both ends":                              {eight, []int{3, 8}, span(3, 8), "1 2 2 [3] 3 7 5 [8] 8 9", 3, 6, 0, []int{0, 4, 7}},
		"both ends, divided at To first":         {eight, []int{8, 3}, span(3, 8), "1 2 2 [3] 3 7 5 [8] 8 9", 3, 6, 0, []int{0, 4, 7}},
		"both ends with a pivot between":         {eight, []int{3, 5, 8}, span(3, 8), "1 2 2 [3] 3 [5] 7 5 [8] 8 9", 3, 6, 0, []int{0, 4, 7}},
		"both ends behind a pivot":               {eight, []int{3, 4, 6}, span(4, 6), "1 2 2 [3] 3 [4] 5 [6] 7 8 9", 4, 5, 0, []int{0}},
		"both ends, one element between":         {eight, []int{3, 4, 5}, span(3, 4), "1 2 2 [3] 3 [4] [5] 7 5 8 9", 3, 4, 0, []int{7}},
		"both ends at the same place":            {eight, []int{4, 5}, span(4, 5), "3 2 1 2 [4] [5] 7 9 8 5", 4, 4, 0, nil},
		"both ends at the limits":                {eight, []int{-1000, 1000}, span(-1000, 1000), "[-1000] 5 2 9 2 7 1 8 3 [1000]", 0, 8, 0, upTo(8)},
		"both ends at the beginning":             {eight, []int{-7, -3, 0}, span(-7, 0), "[-7] [-3] [0] 5 2 9 2 7 1 8 3", 0, 0, 0, nil},
		"both ends at the end":                   {eight, []int{11, 12}, span(11, 12), "5 2 9 2 7 1 8 3 [11] [12]", 8, 8, 0, nil},
		"both ends around equal values":          {[]int{5, 5, 5}, []int{5, 6}, span(5, 6), "[5] 5 5 5 [6]", 0, 3, 0, []int{0, 1, 2}},
		"both ends without elements":             {nil, []int{3, 7}, span(3, 7), "[3] [7]", 0, 0, 0, nil},
		"both ends, the first and the last":      {eight, []int{2, 3, 5, 8}, span(2, 8), "1 [2] 2 2 [3] 3 [5] 7 5 [8] 8 9", 1, 6, 0, []int{0, 1, 3, 4, 7}},
		"only From":                              {eight, []int{3}, span(3, 8), "1 2 2 [3] 3 7 5 [8] 8 9", 3, 6, 1, []int{0, 4, 7}},
		"only From, To in the same piece":        {eight, []int{4}, span(4, 6), "3 2 1 2 [4] 5 [6] 9 8 7", 4, 5, 1, []int{0}},
		"only From, and no element between":      {eight, []int{4}, span(4, 5), "3 2 1 2 [4] [5] 7 9 8 5", 4, 4, 0, nil},
		"only From, with a pivot behind":         {eight, []int{3, 8}, span(3, 5), "1 2 2 [3] 3 [5] 7 5 [8] 8 9", 3, 4, 0, []int{7}},
		"only From, around equal values":         {[]int{5, 5, 5}, []int{5}, span(5, 6), "[5] 5 5 5 [6]", 0, 3, 0, []int{0, 1, 2}},
		"only From, without elements":            {nil, []int{3}, span(3, 7), "[3] [7]", 0, 0, 0, nil},
		"only To":                                {eight, []int{8}, span(3, 8), "1 2 2 [3] 3 7 5 [8] 8 9", 3, 6, 2, []int{0, 4, 7}},
		"only To, and no element between":        {eight, []int{5}, span(4, 5), "3 2 1 2 [4] [5] 7 9 8 5", 4, 4, 0, nil},
		"only To, with a pivot before":           {eight, []int{3, 8}, span(5, 8), "1 2 2 [3] 3 [5] 7 5 [8] 8 9", 4, 6, 0, []int{0, 4}},
		"only To, around equal values":           {[]int{5, 5, 5}, []int{6}, span(5, 6), "[5] 5 5 5 [6]", 0, 3, 0, []int{0, 1, 2}},
		"only To, without elements":              {nil, []int{7}, span(3, 7), "[3] [7]", 0, 0, 0, nil},
		"the same value":                         {eight, []int{3}, span(3, 3), "1 2 2 [3] 9 7 5 8 3", 3, 3, 0, nil},
		"the same value with pivots around":      {eight, []int{3, 5, 8}, span(5, 5), "1 2 2 [3] 3 [5] 7 5 [8] 8 9", 4, 4, 0, nil},
		"the same value at the beginning":        {eight, []int{-1000}, span(-1000, -1000), "[-1000] 5 2 9 2 7 1 8 3", 0, 0, 0, nil},
		"the same value at the end":              {eight, []int{1000}, span(1000, 1000), "5 2 9 2 7 1 8 3 [1000]", 8, 8, 0, nil},
		"the same value without elements":        {nil, []int{3}, span(3, 3), "[3]", 0, 0, 0, nil},
		"From at a place with others":            {eight, []int{-7, -3, 0}, span(-3, 5), "[-7] [-3] [0] 3 2 1 2 [5] 7 9 8 5", 0, 4, 2, []int{1, 3, 5, 7}},
		"From, the first of several":             {eight, []int{4, 5}, span(4, 8), "3 2 1 2 [4] [5] 7 5 [8] 8 9", 4, 6, 1, []int{0, 4}},
		"From, the last of several":              {eight, []int{4, 5}, span(5, 8), "3 2 1 2 [4] [5] 7 5 [8] 8 9", 4, 6, 1, []int{0, 4}},
		"From, the last of several at the end":   {eight, []int{11, 12}, span(12, 13), "5 2 9 2 7 1 8 3 [11] [12] [13]", 8, 8, 0, nil},
		"To at a place with others":              {eight, []int{11, 12}, span(5, 12), "3 2 1 2 [5] 7 9 8 5 [11] [12]", 4, 8, 2, []int{0, 2, 4, 6}},
		"To, the first of several":               {eight, []int{4, 5}, span(2, 4), "1 [2] 2 3 2 [4] [5] 7 9 8 5", 1, 4, 1, []int{1, 3, 7}},
		"To, the last of several":                {eight, []int{4, 5}, span(2, 5), "1 [2] 2 3 2 [4] [5] 7 9 8 5", 1, 4, 1, []int{1, 3, 7}},
		"To, the first of several at the start":  {eight, []int{-3, 0}, span(-7, -3), "[-7] [-3] [0] 5 2 9 2 7 1 8 3", 0, 0, 0, nil},
		"the same value at a place with others":  {eight, []int{-7, -3, 0}, span(-3, -3), "[-7] [-3] [0] 5 2 9 2 7 1 8 3", 0, 0, 0, nil},
		"between two pivots at the same place":   {eight, []int{-7, 0}, span(-5, -3), "[-7] [-5] [-3] [0] 5 2 9 2 7 1 8 3", 0, 0, 0, nil},
		"one value between, at the same place":   {eight, []int{-7, 0}, span(-3, -3), "[-7] [-3] [0] 5 2 9 2 7 1 8 3", 0, 0, 0, nil},
		"the same new value behind a pivot":      {eight, []int{10}, span(11, 11), "5 2 9 2 7 1 8 3 [10] [11]", 8, 8, 0, nil},
		"the same new value before equal values": {[]int{5, 5, 5}, []int{4}, span(5, 5), "[4] [5] 5 5 5", 0, 0, 0, nil},
	} {
		x.check(t, name)
	}
}

func TestSelectionLimits(t *testing.T) {
	edges := []int{-999, 0, 999}
	for name, x := range map[string]selection{
		"-1000 to -1000": {edges, nil, span(-1000, -1000), "[-1000] -999 0 999", 0, 0, 0, nil},
		"-1000 to -999":  {edges, nil, span(-1000, -999), "[-1000] [-999] -999 0 999", 0, 0, 0, nil},
		"-1000 to -998":  {[]int{0, -999}, nil, span(-1000, -998), "[-1000] -999 [-998] 0", 0, 1, 1, []int{1}},
		"-1000 to 999":   {edges, nil, span(-1000, 999), "[-1000] -999 0 [999] 999", 0, 2, 0, []int{0, 1}},
		"-1000 to 1000":  {edges, nil, span(-1000, 1000), "[-1000] -999 0 999 [1000]", 0, 3, 0, []int{0, 1, 2}},
		"-999 to 1000":   {edges, nil, span(-999, 1000), "[-999] -999 0 999 [1000]", 0, 3, 0, []int{0, 1, 2}},
		"-998 to 999":    {[]int{0, -999, 999}, nil, span(-998, 999), "-999 [-998] 0 [999] 999", 1, 2, 1, []int{0}},
		"999 to 1000":    {[]int{999, 0, -999}, nil, span(999, 1000), "-999 0 [999] 999 [1000]", 2, 3, 1, []int{0}},
		"1000 to 1000":   {edges, nil, span(1000, 1000), "-999 0 999 [1000]", 3, 3, 0, nil},
		"64 values":      {repeated(64, 1), nil, span(1, 2), "[1]" + strings.Repeat(" 1", 64) + " [2]", 0, 64, 0, upTo(64)},
	} {
		x.check(t, name)
	}
	for name, c := range validColumns {
		for _, from := range []int{-1001, -1000, 1000, 1001} {
			for _, to := range []int{-1001, -1000, 0, 1000, 1001} {
				checkSelection(t, c, span(from, to))
				if !isSpan(span(from, to)) {
					checkNoSelection(t, name, c, span(from, to))
				}
			}
		}
	}
}

// checkNoSelection asks for the column unchanged, zeros and no rows.
func checkNoSelection(t *testing.T, name string, c impl.Cracker, r impl.Range) {
	t.Helper()
	if got, from, to, n := impl.SelectRange(c, r); !impl.EqualCrackers(got, c) || from != 0 || to != 0 || n != 0 {
		t.Errorf("%s: SelectRange(%v, %v) = %v, %d, %d, %d", name, c, r, got, from, to, n)
	}
	if got, rows := impl.AnswerRange(c, r); !impl.EqualCrackers(got, c) || len(rows) != 0 {
		t.Errorf("%s: AnswerRange(%v, %v) = %v, %d", name, c, r, got, rows)
	}
}

func TestSelectionsThatAreNotValid(t *testing.T) {
	for _, r := range invalidRanges {
		for name, c := range validColumns {
			checkNoSelection(t, name, c, r)
		}
		for name, c := range invalidColumns {
			checkNoSelection(t, name, c, r)
		}
	}
	for name, c := range invalidColumns {
		for _, r := range validRanges {
			checkNoSelection(t, name, c, r)
		}
		// The ends are pivots already, which does not make the column valid.
		for _, p := range c.Pivots {
			checkNoSelection(t, name, c, span(p.Value, p.Value))
			checkNoSelection(t, name, c, span(c.Pivots[0].Value, p.Value))
		}
	}
	// The ends are pivots already, but the wrong way around.
	c := crackedAt(eight, 3, 8)
	checkNoSelection(t, "both pivots", c, span(8, 3))
	checkNoSelection(t, "From greater by one", crackedAt(eight, 3, 4), span(4, 3))
}

func TestSelectionsOfAllColumns(t *testing.T) {
	for _, columns := range []map[string]impl.Cracker{validColumns, invalidColumns} {
		for _, c := range columns {
			// Validating so many pivots again for every range would take long.
			if len(c.Pivots) > 100 {
				continue
			}
			for _, r := range someRanges(c) {
				checkSelection(t, c, r)
			}
		}
	}
	for name, c := range validColumns {
		for _, r := range validRanges {
			got := checkSelection(t, c, r)
			if rows := impl.RowsBetween(got, 0, len(c.Rows)); !slices.Equal(rows, sortNumbers(c.Rows)) {
				t.Errorf("%s: after %v, all rows are %d", name, r, rows)
			}
		}
	}
}

func TestRowsBetweenExamples(t *testing.T) {
	c := crackedAt(eight, 3, 8)
	mixed := inRows([]int{10, 11, 12, 13}, 7, 0, 999, 5)
	for _, x := range []struct {
		c        impl.Cracker
		from, to int
		want     []int
	}{
		{c, 3, 6, []int{0, 4, 7}},
		{c, 0, 3, []int{1, 3, 5}},
		{c, 6, 8, []int{2, 6}},
		{c, 0, 8, upTo(8)},
		// places in the middle of a piece, and across several
		{c, 1, 3, []int{1, 3}},
		{c, 2, 7, []int{0, 3, 4, 6, 7}},
		{c, 4, 5, []int{4}},
		{mixed, 0, 4, []int{0, 5, 7, 999}},
		{mixed, 0, 2, []int{0, 7}},
		{mixed, 1, 4, []int{0, 5, 999}},
		{mixed, 2, 4, []int{5, 999}},
		// one element: the first one and the last one
		{mixed, 0, 1, []int{7}},
		{mixed, 3, 4, []int{5}},
		{c, 0, 1, []int{5}},
		{c, 7, 8, []int{2}},
		// equal places: at the beginning, in the middle, at the end
		{c, 0, 0, nil},
		{c, 3, 3, nil},
		{c, 5, 5, nil},
		{c, 8, 8, nil},
		// below 0
		{c, -1, 8, nil},
		{c, -1, 0, nil},
		{c, -1, -1, nil},
		{c, -2, -1, nil},
		{c, 0, -1, nil},
		// the wrong order
		{c, 6, 3, nil},
		{c, 4, 3, nil},
		{c, 8, 0, nil},
		{c, 8, 7, nil},
		// beyond the number of rows
		{c, 0, 9, nil},
		{c, 3, 9, nil},
		{c, 8, 9, nil},
		{c, 9, 9, nil},
		{c, 9, 8, nil},
		{c, 9, 10, nil},
		{mixed, 0, 5, nil},
		{mixed, 5, 5, nil},
		{c, math.MinInt, 8, nil},
		{c, 0, math.MaxInt, nil},
		{c, math.MinInt, math.MaxInt, nil},
		{c, math.MaxInt, math.MinInt, nil},
		{c, math.MinInt, math.MinInt, nil},
		{c, math.MaxInt, math.MaxInt, nil},
		// no elements
		{impl.Cracker{}, 0, 0, nil},
		{impl.Cracker{}, 0, 1, nil},
		{impl.Cracker{}, -1, 0, nil},
		{impl.Cracker{}, 1, 1, nil},
		{cracked(nil, 3, 0, 7, 0), 0, 0, nil},
		{cracked(nil, 3, 0, 7, 0), 0, 1, nil},
		// 64 elements
		{impl.NewCracker(repeated(64, 1)), 0, 64, upTo(64)},
		{impl.NewCracker(repeated(64, 1)), 63, 64, []int{63}},
		{impl.NewCracker(repeated(64, 1)), 63, 65, nil},
		{inRows([]int{4, 4, 4}, 2, 1, 0), 0, 3, upTo(3)},
		{inRows([]int{4, 4, 4}, 999, 500, 0), 0, 2, []int{500, 999}},
	} {
		if got := impl.RowsBetween(x.c, x.from, x.to); !slices.Equal(got, x.want) {
			t.Errorf("RowsBetween(%v, %d, %d) = %d, want %d", x.c, x.from, x.to, got, x.want)
		}
	}
}

func TestRowsBetweenOfAllColumns(t *testing.T) {
	check := func(c impl.Cracker, from, to int) {
		if got, want := impl.RowsBetween(c, from, to), rowsBetween(c, from, to); !slices.Equal(got, want) {
			t.Errorf("RowsBetween(%v, %d, %d) = %d, want %d", c, from, to, got, want)
		}
	}
	for _, columns := range []map[string]impl.Cracker{validColumns, invalidColumns} {
		for _, c := range columns {
			n := len(c.Rows)
			places := []int{math.MinInt, -1000, -2, -1, 0, 1, 2, n / 3, n - n/3, n - 1, n, n + 1, n + 2, len(c.Values), 1000, math.MaxInt}
			if n < 10 {
				places = append(places, upTo(10)...)
			}
			for _, from := range places {
				for _, to := range places {
					check(c, from, to)
				}
			}
		}
	}
}

// TestEverySmallSelection selects from every small column twice, so that the second range meets the pivots of the first one.
func TestEverySmallSelection(t *testing.T) {
	everyList([]int{0, 1, 2}, 4, func(values []int) {
		c := impl.NewCracker(values)
		for from := -1; from <= 3; from++ {
			for to := from - 1; to <= 3; to++ {
				once := checkSelection(t, c, span(from, to))
				for nextFrom := -1; nextFrom <= 3; nextFrom++ {
					for nextTo := nextFrom; nextTo <= 3; nextTo++ {
						checkSelection(t, once, span(nextFrom, nextTo))
					}
				}
			}
		}
	})
	everyList([]int{0, 1, 2}, 3, func(values []int) {
		everyPivots([]int{0, 1, 2, 3}, []int{0, 1, 2, 3}, 2, func(l []impl.Pivot) {
			c := impl.Cracker{Values: values, Rows: upTo(len(values)), Pivots: l}
			slices.Reverse(c.Rows)
			for from := -1; from <= 3; from++ {
				for to := -1; to <= 3; to++ {
					checkSelection(t, c, span(from, to))
				}
			}
		})
	})
}

// checkHistory asks for all ranges, one after another, and again for each of them when the column has been divided by all.
func checkHistory(t *testing.T, c impl.Cracker, values []int, ranges []impl.Range) impl.Cracker {
	t.Helper()
	for _, r := range append(slices.Clone(ranges), ranges...) {
		var want []int
		for row, v := range values {
			if r.From <= v && v < r.To {
				want = append(want, row)
			}
		}
		next := checkSelection(t, c, r)
		answer, rows := impl.AnswerRange(c, r)
		if !slices.Equal(rows, want) || !slices.Equal(rows, impl.ScanRange(values, r)) || !impl.EqualCrackers(answer, next) {
			t.Errorf("AnswerRange(%v, %v) = %v, %d, want %v, %d", c, r, answer, rows, next, want)
		}
		c = next
	}
	for _, r := range ranges {
		if again, _, _, n := impl.SelectRange(c, r); n != 0 || !impl.EqualCrackers(again, c) {
			t.Errorf("%v, selected by %v, is %v, after %d swaps", c, r, again, n)
		}
	}
	if !slices.Equal(elements(c), elements(impl.NewCracker(values))) {
		t.Errorf("after %v, the column is %v, which has not the elements %d", ranges, c, values)
	}
	return c
}

func TestSelectionsInEveryOrder(t *testing.T) {
	ranges := []impl.Range{span(3, 8), span(2, 5), span(-1000, 1000), span(5, 5), span(8, 9)}
	var first impl.Cracker
	everyOrder(upTo(len(ranges)), func(order []int) {
		var l []impl.Range
		for _, i := range order {
			l = append(l, ranges[i])
		}
		got := checkHistory(t, impl.NewCracker(eight), eight, l)
		if first.Pivots == nil {
			first = got
		}
		// The elements may be in another order, but the pivots are those of the same ends.
		if !slices.Equal(got.Pivots, first.Pivots) {
			t.Errorf("after %v, the column is %v, in another order %v", l, got, first)
		}
		checkHistory(t, impl.NewCracker(nil), nil, l)
		checkHistory(t, impl.NewCracker([]int{5, 5, 5}), []int{5, 5, 5}, l)
	})
}

func TestSelectionsOfColumnsThatWereDivided(t *testing.T) {
	ranges := []impl.Range{span(3, 8), span(2, 5), span(5, 9), span(1, 2), span(4, 4), span(6, 7), span(-1000, 1000)}
	everyOrder([]int{-1000, 2, 3, 5, 8}, func(order []int) {
		c := crackedAt(eight, order...)
		for _, r := range ranges {
			checkSelection(t, c, r)
		}
		checkHistory(t, c, eight, ranges)
	})
}

func TestManySelections(t *testing.T) {
	for _, values := range [][]int{spread(64), spread(63), spread(5), upTo(64), repeated(64, 7), nil, {999, -999}} {
		var ranges []impl.Range
		for i := range 30 {
			from := (i*577+i*i*31)%2001 - 1000
			ranges = append(ranges, span(from, min(1000, from+i*i%401)))
		}
		for _, v := range values[:len(values)/4] {
			ranges = append(ranges, span(v, v+1), span(-1000, v), span(v, 1000))
		}
		forward := checkHistory(t, impl.NewCracker(values), values, ranges)
		slices.Reverse(ranges)
		backward := checkHistory(t, impl.NewCracker(values), values, ranges)
		if !slices.Equal(forward.Pivots, backward.Pivots) {
			t.Errorf("%d, selected in two orders, is %v and %v", values, forward, backward)
		}
	}
}

func TestSortIntsExamples(t *testing.T) {
	for _, x := range []struct{ l, want []int }{
		{nil, nil},
		{[]int{}, nil},
		{[]int{7}, []int{7}},
		{[]int{-7}, []int{-7}},
		{[]int{0}, []int{0}},
		{[]int{1, 2}, []int{1, 2}},
		{[]int{2, 1}, []int{1, 2}},
		{[]int{3, -1, 3, 0}, []int{-1, 0, 3, 3}},
		{[]int{5, 2, 9, 2, 7, 1, 8, 3}, []int{1, 2, 2, 3, 5, 7, 8, 9}},
		// equal numbers
		{[]int{4, 4}, []int{4, 4}},
		{[]int{4, 4, 4}, []int{4, 4, 4}},
		{[]int{0, 0, 0, 0}, []int{0, 0, 0, 0}},
		{[]int{4, 1, 4, 1, 4}, []int{1, 1, 4, 4, 4}},
		// ascending and descending order
		{[]int{1, 2, 3, 4, 5}, []int{1, 2, 3, 4, 5}},
		{[]int{5, 4, 3, 2, 1}, []int{1, 2, 3, 4, 5}},
		{[]int{2, 3, 4, 5, 1}, []int{1, 2, 3, 4, 5}},
		{[]int{5, 1, 2, 3, 4}, []int{1, 2, 3, 4, 5}},
		// numbers whose order as texts is another one
		{[]int{10, 9, 100, 99, 1}, []int{1, 9, 10, 99, 100}},
		// negative numbers
		{[]int{-1, -2, -3}, []int{-3, -2, -1}},
		{[]int{-3, -2, -1}, []int{-3, -2, -1}},
		{[]int{1, -1, 0, -10, 10}, []int{-10, -1, 0, 1, 10}},
		{[]int{-5, 5, -5, 5}, []int{-5, -5, 5, 5}},
		// the largest and the smallest int
		{[]int{math.MaxInt, math.MinInt}, []int{math.MinInt, math.MaxInt}},
		{[]int{math.MinInt, math.MaxInt}, []int{math.MinInt, math.MaxInt}},
		{[]int{math.MaxInt, 0, math.MinInt, -1, 1}, []int{math.MinInt, -1, 0, 1, math.MaxInt}},
		{[]int{math.MinInt, math.MinInt + 1, math.MinInt}, []int{math.MinInt, math.MinInt, math.MinInt + 1}},
		{[]int{math.MaxInt, math.MaxInt - 1, math.MaxInt}, []int{math.MaxInt - 1, math.MaxInt, math.MaxInt}},
		{[]int{0, math.MinInt, 0, math.MaxInt, 0}, []int{math.MinInt, 0, 0, 0, math.MaxInt}},
		{[]int{2, math.MinInt}, []int{math.MinInt, 2}},
		{[]int{-2, math.MaxInt}, []int{-2, math.MaxInt}},
		{[]int{math.MaxInt, -2}, []int{-2, math.MaxInt}},
		{[]int{math.MinInt}, []int{math.MinInt}},
	} {
		if got := impl.SortInts(x.l); !slices.Equal(got, x.want) {
			t.Errorf("SortInts(%d) = %d, want %d", x.l, got, x.want)
		}
	}
}

func checkSortInts(t *testing.T, l []int) {
	t.Helper()
	if got, want := impl.SortInts(l), sortNumbers(l); !slices.Equal(got, want) {
		t.Errorf("SortInts(%d) = %d, want %d", l, got, want)
	}
}

func TestSortIntsOfAllLists(t *testing.T) {
	everyOrder([]int{math.MinInt, -3, 0, 4, 50, math.MaxInt}, func(l []int) { checkSortInts(t, l) })
	everyList([]int{-1, 0, 7}, 7, func(l []int) { checkSortInts(t, l) })
	for n := range 200 {
		l := spread(n)
		checkSortInts(t, l)
		checkSortInts(t, upTo(n))
		checkSortInts(t, repeated(n, n))
		checkSortInts(t, append(upTo(n), l...))
		slices.Reverse(l)
		checkSortInts(t, l)
		checkSortInts(t, append(l, bounds...))
	}
	// A list that is far longer than a column.
	l := make([]int, 100000)
	for i := range l {
		l[i] = i * 7919 % 100003
	}
	if got := impl.SortInts(l); len(got) != len(l) || !slices.IsSorted(got) {
		t.Errorf("SortInts of %d numbers has %d numbers, in order: %t", len(l), len(got), slices.IsSorted(got))
	}
	down := upTo(100000)
	slices.Reverse(down)
	if got := impl.SortInts(down); !slices.Equal(got, upTo(100000)) {
		t.Errorf("SortInts of 100000 numbers in descending order has %d numbers, in order: %t", len(got), slices.IsSorted(got))
	}
}

// selected performs all functions of chapter 6, successfully and not, and returns what they answer.
func selected(c impl.Cracker) ([]impl.Cracker, [][]int) {
	var columns []impl.Cracker
	var lists [][]int
	n := len(c.Values)
	for _, r := range []impl.Range{span(-1000, 1000), span(0, 5), span(3, 8), span(4, 4), span(8, 3), span(-1001, 5), span(3, 1001)} {
		x, from, to, _ := impl.SelectRange(c, r)
		answer, rows := impl.AnswerRange(c, r)
		columns = append(columns, x, answer)
		lists = append(lists, rows, impl.RowsBetween(x, from, to))
	}
	for _, places := range [][2]int{{0, n}, {0, n / 2}, {n / 2, n}, {1, n}, {0, 0}, {n, n}, {-1, n}, {0, n + 1}, {0, n + 3}} {
		lists = append(lists, impl.RowsBetween(c, places[0], places[1]))
	}
	return columns, append(lists, impl.SortInts(c.Values), impl.SortInts(c.Rows))
}

// checkArgumentsStay asks whether a column stays when all is performed with it, and when all answers are overwritten.
func checkArgumentsStay(t *testing.T, all func(impl.Cracker) ([]impl.Cracker, [][]int)) {
	t.Helper()
	for _, columns := range []map[string]impl.Cracker{validColumns, invalidColumns} {
		for name, given := range columns {
			c := columnWithSpare(given)
			before := wholeColumn(c)
			got, lists := all(c)
			if !reflect.DeepEqual(wholeColumn(c), before) {
				t.Errorf("%s: the column has become %v, it was %v", name, wholeColumn(c), before)
			}
			for _, x := range got {
				fillColumn(x)
			}
			for _, l := range lists {
				fill(l, 789)
			}
			if !reflect.DeepEqual(wholeColumn(c), before) {
				t.Errorf("%s: after a change of the answers, the column has become %v, it was %v", name, wholeColumn(c), before)
			}
		}
	}
}

// checkNewMemory overwrites the column, and then list by list of the answers, and asks whether those that follow stay.
func checkNewMemory(t *testing.T, all func(impl.Cracker) ([]impl.Cracker, [][]int)) {
	t.Helper()
	for _, columns := range []map[string]impl.Cracker{validColumns, invalidColumns} {
		for name, given := range columns {
			c := columnWithSpare(given)
			want, wantLists := all(given)
			got, lists := all(c)
			fillColumn(c)
			for i, x := range got {
				if !impl.EqualCrackers(x, want[i]) {
					t.Errorf("%s: after a change of the column and of other answers, an answer is %v, want %v", name, x, want[i])
				}
				fill(x.Values, 123)
				if !slices.Equal(x.Rows, want[i].Rows) {
					t.Errorf("%s: after a change of the values, the rows are %d", name, x.Rows)
				}
				fill(x.Rows, 456)
				if !slices.Equal(x.Values, repeated(len(x.Values), 123)) || !slices.Equal(x.Pivots, want[i].Pivots) {
					t.Errorf("%s: after a change of the rows, the column is %v", name, x)
				}
				fillColumn(x)
			}
			for i, l := range lists {
				if !slices.Equal(l, wantLists[i]) {
					t.Errorf("%s: after a change of the column and of other answers, an answer is %d, want %d", name, l, wantLists[i])
				}
				fill(l, 789)
			}
		}
	}
}

func TestSelectionArgumentsStay(t *testing.T) { checkArgumentsStay(t, selected) }

func TestSelectionsAreNewMemory(t *testing.T) { checkNewMemory(t, selected) }

// TestSelectionListsAreApart changes one list of an answer at a time.
func TestSelectionListsAreApart(t *testing.T) {
	for name, plain := range validColumns {
		for _, r := range []impl.Range{span(-1000, 1000), span(0, 5), span(3, 8)} {
			want, wantRows := impl.AnswerRange(plain, r)
			x, rows := impl.AnswerRange(plain, r)
			fill(rows, 789)
			if !impl.EqualCrackers(x, want) {
				t.Errorf("%s: after a change of the answered rows, the column is %v, want %v", name, x, want)
			}
			x, rows = impl.AnswerRange(plain, r)
			y, _, _, _ := impl.SelectRange(plain, r)
			for _, c := range []impl.Cracker{x, y} {
				fill(c.Values, 123)
				if !slices.Equal(c.Rows, want.Rows) || !slices.Equal(rows, wantRows) {
					t.Errorf("%s: after a change of the values, the rows are %d and %d", name, c.Rows, rows)
				}
				fill(c.Rows, 456)
				if !slices.Equal(c.Values, repeated(len(c.Values), 123)) || !slices.Equal(rows, wantRows) {
					t.Errorf("%s: after a change of the rows, the values are %d, and the answered rows %d", name, c.Values, rows)
				}
				if !slices.Equal(c.Pivots, want.Pivots) {
					t.Errorf("%s: after a change of the values and the rows, the pivots are %v", name, c.Pivots)
				}
			}
		}
	}
}

// TestSelectionOfOneListForValuesAndRows gives a column whose rows are the same memory as its values.
func TestSelectionOfOneListForValuesAndRows(t *testing.T) {
	list := spare([]int{3, 0, 2, 1})
	c := impl.Cracker{Values: list, Rows: list}
	x, rows := impl.AnswerRange(c, span(1, 3))
	if impl.FormatCracker(x) != "0 [1] 1 2 [3] 3" || !slices.Equal(x.Rows, x.Values) || !slices.Equal(rows, []int{1, 2}) {
		t.Errorf("the selected column is %v, and the rows are %d", x, rows)
	}
	if got := impl.RowsBetween(c, 0, 4); !slices.Equal(got, upTo(4)) {
		t.Errorf("the rows between all places are %d", got)
	}
	if !slices.Equal(list[:cap(list)][:7], []int{3, 0, 2, 1, 777, 888, 555}) {
		t.Errorf("the list has become %d", list[:cap(list)])
	}
}
