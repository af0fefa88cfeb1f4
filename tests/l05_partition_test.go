package tests

import (
	"cmp"
	"math"
	"reflect"
	"slices"
	"strings"
	"testing"

	"loop.example/g01984/impl"
)

// Promise 3: every division leaves a permutation of the column in which pivots hold, and touches one piece only.

// swaps is short for a list of swaps: an I, its J, the next I, its J and so on.
func swaps(numbers ...int) []impl.Swap {
	var l []impl.Swap
	for i := 0; i < len(numbers); i += 2 {
		l = append(l, impl.Swap{I: numbers[i], J: numbers[i+1]})
	}
	return l
}

// partition performs the loop of the document as it is written there, with values that are really swapped.
func partition(values []int, a, b, pivot int) ([]impl.Swap, int) {
	if !(0 <= a && a <= b && b <= len(values)) {
		return nil, 0
	}
	moved := slices.Clone(values)
	var l []impl.Swap
	i, j := a, b-1
	for i <= j {
		if moved[i] < pivot {
			i++
		} else if moved[j] >= pivot {
			j--
		} else {
			moved[i], moved[j] = moved[j], moved[i]
			l = append(l, impl.Swap{I: i, J: j})
			i++
			j--
		}
	}
	return l, i
}

// swapColumn finds for each place the one from which its element comes, and moves all elements at once.
func swapColumn(c impl.Cracker, l []impl.Swap) (impl.Cracker, bool) {
	x := withoutNil(c)
	if len(c.Rows) != len(c.Values) {
		return x, false
	}
	from := upTo(len(c.Values))
	for _, s := range l {
		if s.I < 0 || s.I >= len(from) || s.J < 0 || s.J >= len(from) {
			return x, false
		}
		from[s.I], from[s.J] = from[s.J], from[s.I]
	}
	for place, source := range from {
		x.Values[place], x.Rows[place] = c.Values[source], c.Rows[source]
	}
	return x, true
}

// unswapColumn performs the swaps one by one, the last one first.
func unswapColumn(c impl.Cracker, l []impl.Swap) (impl.Cracker, bool) {
	x, ok := withoutNil(c), len(c.Rows) == len(c.Values)
	for i := len(l) - 1; i >= 0 && ok; i-- {
		x, ok = swapColumn(x, l[i:i+1])
	}
	if !ok {
		return withoutNil(c), false
	}
	return x, true
}

// pivotColumn adds the pivot at the end and sorts, so that only a Value that is there already is in the wrong order.
func pivotColumn(c impl.Cracker, p impl.Pivot) (impl.Cracker, bool) {
	x := withoutNil(c)
	x.Pivots = append(x.Pivots, p)
	slices.SortStableFunc(x.Pivots, func(a, b impl.Pivot) int { return cmp.Compare(a.Value, b.Value) })
	if !isColumn(c) || !isColumn(x) {
		return withoutNil(c), false
	}
	return x, true
}

// crackColumn divides with the functions above.
func crackColumn(c impl.Cracker, v int) (impl.Cracker, []impl.Swap, bool) {
	if !isColumn(c) || v < -1000 || v > 1000 {
		return withoutNil(c), nil, false
	}
	if slices.ContainsFunc(c.Pivots, func(p impl.Pivot) bool { return p.Value == v }) {
		return withoutNil(c), nil, true
	}
	from, to := pieceOf(c, v)
	l, at := partition(c.Values, from, to, v)
	x, _ := swapColumn(c, l)
	x, _ = pivotColumn(x, impl.Pivot{Value: v, At: at})
	return x, l, true
}

// checkPartition compares with the function above, and with what a division is for.
func checkPartition(t *testing.T, values []int, a, b, pivot int) {
	t.Helper()
	wantSwaps, wantAt := partition(values, a, b, pivot)
	got, at := impl.Partition(values, a, b, pivot)
	if !slices.Equal(got, wantSwaps) || at != wantAt {
		t.Errorf("Partition(%d, %d, %d, %d) = %v, %d, want %v, %d", values, a, b, pivot, got, at, wantSwaps, wantAt)
	}
	if a < 0 || a > b || b > len(values) {
		return
	}
	moved := slices.Clone(values)
	for _, s := range got {
		if s.I < a || s.J < s.I || s.J >= b {
			t.Fatalf("Partition(%d, %d, %d, %d) has the swap %v", values, a, b, pivot, s)
		}
		moved[s.I], moved[s.J] = moved[s.J], moved[s.I]
	}
	for place, v := range moved {
		if a <= place && place < b && (place < at) != (v < pivot) {
			t.Errorf("Partition(%d, %d, %d, %d) has the place %d, but leaves %d", values, a, b, pivot, at, moved)
		}
	}
}

func checkSwaps(t *testing.T, c impl.Cracker, l []impl.Swap) {
	t.Helper()
	want, wantOK := swapColumn(c, l)
	got, ok := impl.ApplySwaps(c, l)
	if !impl.EqualCrackers(got, want) || ok != wantOK {
		t.Errorf("ApplySwaps(%v, %v) = %v, %t, want %v, %t", c, l, got, ok, want, wantOK)
	}
	want, wantOK = unswapColumn(c, l)
	back, ok := impl.UndoSwaps(c, l)
	if !impl.EqualCrackers(back, want) || ok != wantOK {
		t.Errorf("UndoSwaps(%v, %v) = %v, %t, want %v, %t", c, l, back, ok, want, wantOK)
	}
	for _, x := range []impl.Cracker{must(impl.UndoSwaps(got, l)), must(impl.ApplySwaps(back, l))} {
		if !impl.EqualCrackers(x, c) {
			t.Errorf("%v, swapped and swapped back by %v, is %v", c, l, x)
		}
	}
}

// must forgets whether swaps were possible.
func must(c impl.Cracker, _ bool) impl.Cracker { return c }

func checkAddPivot(t *testing.T, c impl.Cracker, p impl.Pivot) {
	t.Helper()
	want, wantOK := pivotColumn(c, p)
	if got, ok := impl.AddPivot(c, p); !impl.EqualCrackers(got, want) || ok != wantOK {
		t.Errorf("AddPivot(%v, %v) = %v, %t, want %v, %t", c, p, got, ok, want, wantOK)
	}
}

// checkCrackAt compares with the function above, and asks for everything that the promise says.
func checkCrackAt(t *testing.T, c impl.Cracker, v int) impl.Cracker {
	t.Helper()
	want, wantSwaps, wantOK := crackColumn(c, v)
	got, l, ok := impl.CrackAt(c, v)
	if !impl.EqualCrackers(got, want) || !slices.Equal(l, wantSwaps) || ok != wantOK {
		t.Errorf("CrackAt(%v, %d) = %v, %v, %t, want %v, %v, %t", c, v, got, l, ok, want, wantSwaps, wantOK)
	}
	if ok {
		checkDivision(t, c, got, v)
	}
	return got
}

// checkDivision looks only at the column before and the one after, not at how the elements got to their places.
func checkDivision(t *testing.T, before, after impl.Cracker, v int) {
	t.Helper()
	if !isColumn(after) || !impl.IsCracker(after) {
		t.Errorf("%v, divided at %d, is %v, which is not valid", before, v, after)
	}
	if !slices.Equal(elements(before), elements(after)) {
		t.Errorf("%v, divided at %d, is %v, which has other elements", before, v, after)
		return
	}
	from, to := pieceOf(before, v)
	for place := range before.Values {
		same := before.Values[place] == after.Values[place] && before.Rows[place] == after.Rows[place]
		if !same && (place < from || place >= to) {
			t.Errorf("%v, divided at %d, is %v, which has another element at %d", before, v, after, place)
		}
	}
	kept := slices.DeleteFunc(slices.Clone(after.Pivots), func(p impl.Pivot) bool {
		return p.Value == v && !slices.Contains(before.Pivots, p)
	})
	if !slices.Equal(kept, before.Pivots) {
		t.Errorf("%v, divided at %d, is %v, which has other pivots", before, v, after)
	}
	if !slices.ContainsFunc(after.Pivots, func(p impl.Pivot) bool { return p.Value == v }) {
		t.Errorf("%v, divided at %d, is %v, which has no such pivot", before, v, after)
	}
}

// elements returns the values with their rows, by row.
func elements(c impl.Cracker) [][2]int {
	var l [][2]int
	for i, row := range c.Rows {
		l = append(l, [2]int{row, c.Values[i]})
	}
	slices.SortFunc(l, func(a, b [2]int) int { return cmp.Compare(a[0], b[0]) })
	return l
}

func TestPartitionExamples(t *testing.T) {
	document := []int{5, 2, 9, 2, 7, 1, 8, 3}
	for _, x := range []struct {
		values      []int
		a, b, pivot int
		want        []impl.Swap
		at          int
	}{
		{document, 0, 8, 5, swaps(0, 7, 2, 5), 4},
		{document, 0, 8, 3, swaps(0, 5, 2, 3), 3},
		{document, 0, 8, 8, swaps(2, 7), 6},
		{document, 0, 8, 2, swaps(0, 5), 1},
		{document, 0, 8, 1, nil, 0},
		{document, 0, 8, -1000, nil, 0},
		{document, 0, 8, 10, nil, 8},
		{document, 0, 8, 1000, nil, 8},
		// a part: at the beginning, in the middle, at the end
		{document, 0, 4, 5, swaps(0, 3), 2},
		{document, 2, 6, 5, swaps(2, 5), 4},
		{document, 4, 8, 5, swaps(4, 7), 6},
		{document, 1, 8, 3, swaps(2, 5), 4},
		{document, 0, 7, 3, swaps(0, 5, 2, 3), 3},
		// no elements: at the beginning, in the middle, at the end, and without any values
		{document, 0, 0, 5, nil, 0},
		{document, 3, 3, 5, nil, 3},
		{document, 8, 8, 5, nil, 8},
		{nil, 0, 0, 5, nil, 0},
		{[]int{}, 0, 0, 5, nil, 0},
		// one element
		{[]int{4}, 0, 1, 5, nil, 1},
		{[]int{5}, 0, 1, 5, nil, 0},
		{[]int{6}, 0, 1, 5, nil, 0},
		{[]int{9, 4, 1}, 1, 2, 5, nil, 2},
		{[]int{1, 5, 1}, 1, 2, 5, nil, 1},
		// two elements
		{[]int{1, 9}, 0, 2, 5, nil, 1},
		{[]int{9, 1}, 0, 2, 5, swaps(0, 1), 1},
		{[]int{1, 1}, 0, 2, 5, nil, 2},
		{[]int{9, 9}, 0, 2, 5, nil, 0},
		// no swap needed
		{[]int{1, 2, 7, 8}, 0, 4, 5, nil, 2},
		{[]int{1, 2, 3, 8, 9}, 0, 5, 5, nil, 3},
		{[]int{1, 7, 8, 9}, 0, 4, 5, nil, 1},
		// each pair swapped, of an even and an odd number of elements
		{[]int{9, 8, 7, 1, 2, 3}, 0, 6, 5, swaps(0, 5, 1, 4, 2, 3), 3},
		{[]int{9, 8, 4, 2, 3}, 0, 5, 5, swaps(0, 4, 1, 3), 3},
		{[]int{9, 8, 6, 2, 3}, 0, 5, 5, swaps(0, 4, 1, 3), 2},
		// equal values
		{[]int{5, 5, 5, 5}, 0, 4, 5, nil, 0},
		{[]int{5, 5, 5, 5}, 0, 4, 6, nil, 4},
		{[]int{5, 5, 5}, 0, 3, 4, nil, 0},
		{[]int{5, 4, 5, 4}, 0, 4, 5, swaps(0, 3), 2},
		{[]int{4, 5, 4, 5}, 0, 4, 5, swaps(1, 2), 2},
		// all values less than the pivot, and none
		{[]int{3, 1, 2}, 0, 3, 4, nil, 3},
		{[]int{3, 1, 2}, 0, 3, 1, nil, 0},
		{[]int{-3, -1, -2}, 0, 3, 0, nil, 3},
		{[]int{-3, -1, -2}, 0, 3, -3, nil, 0},
		{[]int{-1, -3, -2}, 0, 3, -2, swaps(0, 1), 1},
		// values that no column has
		{[]int{5000, -5000}, 0, 2, 0, swaps(0, 1), 1},
		{[]int{1000, -1000}, 0, 2, 1000, swaps(0, 1), 1},
		{[]int{math.MaxInt, 0, math.MinInt}, 0, 3, 0, swaps(0, 2), 1},
		{[]int{math.MaxInt, math.MinInt}, 0, 2, math.MaxInt, swaps(0, 1), 1},
		{[]int{math.MaxInt, math.MinInt}, 0, 2, math.MinInt, nil, 0},
		{[]int{math.MaxInt, math.MinInt}, 0, 2, math.MinInt + 1, swaps(0, 1), 1},
		{[]int{1, 2, 3}, 0, 3, math.MinInt, nil, 0},
		{[]int{1, 2, 3}, 0, 3, math.MaxInt, nil, 3},
		// places that are not there
		{document, -1, 8, 5, nil, 0},
		{document, -1, -1, 5, nil, 0},
		{document, -2, -1, 5, nil, 0},
		{document, 0, -1, 5, nil, 0},
		{document, 5, 3, 5, nil, 0},
		{document, 1, 0, 5, nil, 0},
		{document, 8, 7, 5, nil, 0},
		{document, 0, 9, 5, nil, 0},
		{document, 3, 9, 5, nil, 0},
		{document, 8, 9, 5, nil, 0},
		{document, 9, 9, 5, nil, 0},
		{document, 9, 8, 5, nil, 0},
		{document, math.MinInt, 8, 5, nil, 0},
		{document, math.MinInt, math.MinInt, 5, nil, 0},
		{document, 0, math.MinInt, 5, nil, 0},
		{document, 0, math.MaxInt, 5, nil, 0},
		{document, math.MaxInt, 8, 5, nil, 0},
		{document, math.MaxInt, math.MaxInt, 5, nil, 0},
		{document, math.MinInt, math.MaxInt, 5, nil, 0},
		{document, math.MaxInt, math.MinInt, 5, nil, 0},
		{nil, 0, 1, 5, nil, 0},
		{nil, 1, 1, 5, nil, 0},
		{nil, -1, 0, 5, nil, 0},
	} {
		if got, at := impl.Partition(x.values, x.a, x.b, x.pivot); !slices.Equal(got, x.want) || at != x.at {
			t.Errorf("Partition(%d, %d, %d, %d) = %v, %d, want %v, %d", x.values, x.a, x.b, x.pivot, got, at, x.want, x.at)
		}
		checkPartition(t, x.values, x.a, x.b, x.pivot)
	}
}

func TestPartitionOfEverySmallList(t *testing.T) {
	everyList([]int{0, 1, 2}, 5, func(values []int) {
		for a := -1; a <= len(values)+1; a++ {
			for b := -1; b <= len(values)+1; b++ {
				for pivot := -1; pivot <= 3; pivot++ {
					checkPartition(t, values, a, b, pivot)
				}
			}
		}
	})
	everyList([]int{0, 1}, 10, func(values []int) { checkPartition(t, values, 0, len(values), 1) })
}

func TestPartitionOfLongLists(t *testing.T) {
	for n := range 130 {
		for _, pivot := range append([]int{-500, 500}, bounds...) {
			checkPartition(t, spread(n), 0, n, pivot)
			checkPartition(t, spread(n), n/3, n-n/4, pivot)
		}
	}
	for _, x := range []struct {
		values []int
		swaps  int
		at     int
	}{
		{repeated(100000, 1), 0, 0},
		{append(repeated(50000, 1), repeated(50000, 0)...), 50000, 50000},
		{append(repeated(50001, 1), repeated(49999, 0)...), 49999, 49999},
		{append(repeated(50000, 0), repeated(50000, 1)...), 0, 50000},
	} {
		got, at := impl.Partition(x.values, 0, 100000, 1)
		if len(got) != x.swaps || at != x.at {
			t.Errorf("Partition of a long list has %d swaps and the place %d, want %d and %d", len(got), at, x.swaps, x.at)
		}
	}
}

func TestApplySwapsExamples(t *testing.T) {
	letters := inRows([]int{10, 11, 12, 13}, 7, 0, 999, 5)
	for _, x := range []struct {
		name string
		c    impl.Cracker
		l    []impl.Swap
		want impl.Cracker
		ok   bool
	}{
		{"no swaps", letters, nil, letters, true},
		{"an empty list of swaps", letters, []impl.Swap{}, letters, true},
		{"one swap", letters, swaps(0, 2), inRows([]int{12, 11, 10, 13}, 999, 0, 7, 5), true},
		{"one swap the other way around", letters, swaps(2, 0), inRows([]int{12, 11, 10, 13}, 999, 0, 7, 5), true},
		{"the first and the last place", letters, swaps(0, 3), inRows([]int{13, 11, 12, 10}, 5, 0, 999, 7), true},
		{"two swaps apart", letters, swaps(0, 1, 3, 2), inRows([]int{11, 10, 13, 12}, 0, 7, 5, 999), true},
		{"two swaps that overlap", letters, swaps(0, 1, 1, 2), inRows([]int{11, 12, 10, 13}, 0, 999, 7, 5), true},
		{"the same two swaps in the other order", letters, swaps(1, 2, 0, 1), inRows([]int{12, 10, 11, 13}, 999, 7, 0, 5), true},
		{"three swaps that overlap", letters, swaps(0, 1, 1, 2, 2, 3), inRows([]int{11, 12, 13, 10}, 0, 999, 5, 7), true},
		{"a swap twice", letters, swaps(0, 2, 0, 2), letters, true},
		{"a swap three times", letters, swaps(0, 2, 2, 0, 0, 2), inRows([]int{12, 11, 10, 13}, 999, 0, 7, 5), true},
		{"a place with itself", letters, swaps(2, 2), letters, true},
		{"all places with themselves", letters, swaps(0, 0, 1, 1, 2, 2, 3, 3), letters, true},
		{"a place with itself among others", letters, swaps(0, 1, 1, 1, 1, 2), inRows([]int{11, 12, 10, 13}, 0, 999, 7, 5), true},
		{"I of -1", letters, swaps(-1, 2), letters, false},
		{"J of -1", letters, swaps(2, -1), letters, false},
		{"I of the number of values", letters, swaps(4, 2), letters, false},
		{"J of the number of values", letters, swaps(2, 4), letters, false},
		{"-1 with itself", letters, swaps(-1, -1), letters, false},
		{"the number of values with itself", letters, swaps(4, 4), letters, false},
		{"-1 and the number of values", letters, swaps(-1, 4), letters, false},
		{"the least int", letters, swaps(0, math.MinInt), letters, false},
		{"the greatest int", letters, swaps(math.MaxInt, 0), letters, false},
		{"all ints", letters, swaps(math.MinInt, math.MaxInt), letters, false},
		{"a failure behind a swap", letters, swaps(0, 1, 0, 4), letters, false},
		{"a failure behind many", letters, swaps(0, 1, 1, 2, 2, 3, 0, 3, -1, 0), letters, false},
		{"a failure before a swap", letters, swaps(0, 4, 0, 1), letters, false},
		{"a failure between swaps", letters, swaps(0, 1, 1, -1, 0, 1), letters, false},
		{"no values", impl.Cracker{}, nil, impl.Cracker{}, true},
		{"a place of a column without values", impl.Cracker{}, swaps(0, 0), impl.Cracker{}, false},
		{"no values, but pivots", cracked(nil, 3, 0), nil, cracked(nil, 3, 0), true},
		{"fewer rows than values", inRows([]int{10, 11, 12}, 0, 1), swaps(0, 1), inRows([]int{10, 11, 12}, 0, 1), false},
		{"more rows than values", inRows([]int{10, 11}, 0, 1, 2), swaps(0, 1), inRows([]int{10, 11}, 0, 1, 2), false},
		{"fewer rows than values, no swaps", inRows([]int{10, 11, 12}, 0, 1), nil, inRows([]int{10, 11, 12}, 0, 1), false},
		{"more rows than values, no swaps", inRows([]int{10, 11}, 0, 1, 2), nil, inRows([]int{10, 11}, 0, 1, 2), false},
		{"values without rows", inRows([]int{10, 11}), nil, inRows([]int{10, 11}), false},
		{"rows without values", inRows(nil, 3, 4), nil, inRows(nil, 3, 4), false},
		{"fewer rows than values, with pivots", impl.Cracker{Values: []int{1, 9}, Rows: []int{0}, Pivots: pivots(5, 1)}, swaps(0, 0), impl.Cracker{Values: []int{1, 9}, Rows: []int{0}, Pivots: pivots(5, 1)}, false},
		// The pivots stay, whether they hold or not.
		{"pivots that hold before and after", cracked([]int{2, 1, 9, 7}, 3, 2), swaps(0, 1, 2, 3), impl.Cracker{Values: []int{1, 2, 7, 9}, Rows: []int{1, 0, 3, 2}, Pivots: pivots(3, 2)}, true},
		{"pivots that hold before", cracked([]int{2, 1, 9, 7}, 3, 2), swaps(1, 2), impl.Cracker{Values: []int{2, 9, 1, 7}, Rows: []int{0, 2, 1, 3}, Pivots: pivots(3, 2)}, true},
		{"pivots that hold after", cracked([]int{2, 9, 1, 7}, 3, 2), swaps(1, 2), impl.Cracker{Values: []int{2, 1, 9, 7}, Rows: []int{0, 2, 1, 3}, Pivots: pivots(3, 2)}, true},
		{"pivots that never hold", cracked([]int{2, 9}, 7, 5, 3, -1), swaps(0, 1), impl.Cracker{Values: []int{9, 2}, Rows: []int{1, 0}, Pivots: pivots(7, 5, 3, -1)}, true},
		// other columns that are not valid
		{"values that no column has", inRows([]int{5000, math.MinInt}, 1, 2), swaps(0, 1), inRows([]int{math.MinInt, 5000}, 2, 1), true},
		{"rows that no column has", inRows([]int{5, 6}, -7, 1000), swaps(0, 1), inRows([]int{6, 5}, 1000, -7), true},
		{"equal rows", inRows([]int{5, 6, 7}, 3, 3, 3), swaps(0, 2), inRows([]int{7, 6, 5}, 3, 3, 3), true},
		{"equal values", inRows([]int{5, 5}, 1, 2), swaps(0, 1), inRows([]int{5, 5}, 2, 1), true},
	} {
		if got, ok := impl.ApplySwaps(x.c, x.l); !impl.EqualCrackers(got, x.want) || ok != x.ok {
			t.Errorf("%s: ApplySwaps = %v, %t, want %v, %t", x.name, got, ok, x.want, x.ok)
		}
		if got, ok := impl.UndoSwaps(x.want, x.l); !impl.EqualCrackers(got, x.c) || ok != x.ok {
			t.Errorf("%s: UndoSwaps = %v, %t, want %v, %t", x.name, got, ok, x.c, x.ok)
		}
		checkSwaps(t, x.c, x.l)
	}
}

func TestUndoSwapsExamples(t *testing.T) {
	letters := inRows([]int{10, 11, 12, 13}, 7, 0, 999, 5)
	for _, x := range []struct {
		l    []impl.Swap
		want impl.Cracker
	}{
		{nil, letters},
		{swaps(0, 2), inRows([]int{12, 11, 10, 13}, 999, 0, 7, 5)},
		{swaps(0, 1, 1, 2), inRows([]int{12, 10, 11, 13}, 999, 7, 0, 5)},
		{swaps(1, 2, 0, 1), inRows([]int{11, 12, 10, 13}, 0, 999, 7, 5)},
		{swaps(0, 1, 1, 2, 2, 3), inRows([]int{13, 10, 11, 12}, 5, 7, 0, 999)},
		{swaps(0, 1, 1, 1, 1, 2), inRows([]int{12, 10, 11, 13}, 999, 7, 0, 5)},
	} {
		if got, ok := impl.UndoSwaps(letters, x.l); !impl.EqualCrackers(got, x.want) || !ok {
			t.Errorf("UndoSwaps by %v = %v, %t, want %v", x.l, got, ok, x.want)
		}
	}
	// In reverse order, another swap fails first; the column stays unchanged all the same.
	for _, l := range [][]impl.Swap{swaps(4, 0), swaps(0, -1), swaps(4, 0, 0, 1), swaps(0, 1, 4, 0), swaps(0, 1, 1, -1, 1, 2)} {
		if got, ok := impl.UndoSwaps(letters, l); !impl.EqualCrackers(got, letters) || ok {
			t.Errorf("UndoSwaps by %v = %v, %t", l, got, ok)
		}
	}
	for _, c := range []impl.Cracker{inRows([]int{10, 11, 12}, 0, 1), inRows([]int{10, 11}, 0, 1, 2), inRows([]int{1}), inRows(nil, 1)} {
		for _, l := range [][]impl.Swap{nil, swaps(0, 0), swaps(0, 1)} {
			if got, ok := impl.UndoSwaps(c, l); !impl.EqualCrackers(got, c) || ok {
				t.Errorf("UndoSwaps(%v, %v) = %v, %t", c, l, got, ok)
			}
		}
	}
}

func TestSwapsOfEverySmallList(t *testing.T) {
	columns := []impl.Cracker{
		{}, inRows([]int{5}, 3), inRows([]int{5, 6}, 3, 4), inRows([]int{5, 6, 7}, 3, 4, 2), inRows([]int{5, 6}, 3), inRows([]int{5}, 3, 4),
		cracked([]int{1, 5, 3}, 2, 1), cracked([]int{5, 5, 3}, 2, 1, 2, 7),
	}
	everyList(upTo(25), 3, func(l []int) {
		var list []impl.Swap
		for _, n := range l {
			list = append(list, impl.Swap{I: n/5 - 1, J: n%5 - 1})
		}
		for _, c := range columns {
			checkSwaps(t, c, list)
		}
	})
}

func TestSwapsOfAllColumns(t *testing.T) {
	for _, columns := range []map[string]impl.Cracker{validColumns, invalidColumns} {
		for _, c := range columns {
			n := len(c.Values)
			var many []impl.Swap
			for i := range n {
				many = append(many, impl.Swap{I: i, J: (i*i + 3) % n}, impl.Swap{I: i * 7 % n, J: n - 1})
			}
			for _, l := range [][]impl.Swap{
				nil, many, swaps(0, n-1), swaps(n-1, 0), swaps(0, n), swaps(n, 0), swaps(-1, 0), swaps(0, -1), append(slices.Clone(many), swaps(n, n)...), append(swaps(0, -1), many...),
			} {
				checkSwaps(t, c, l)
			}
		}
	}
}

func TestAddPivotExamples(t *testing.T) {
	halves := []int{2, 1, 9, 7}
	for _, x := range []struct {
		name string
		c    impl.Cracker
		p    impl.Pivot
		want string
	}{
		{"the first pivot", cracked(halves), impl.Pivot{Value: 3, At: 2}, "2 1 [3] 9 7"},
		{"a pivot at the beginning", cracked(halves), impl.Pivot{Value: 1, At: 0}, "[1] 2 1 9 7"},
		{"a pivot at the end", cracked(halves), impl.Pivot{Value: 10, At: 4}, "2 1 9 7 [10]"},
		{"a pivot of 0", cracked([]int{-1, 1}), impl.Pivot{Value: 0, At: 1}, "-1 [0] 1"},
		{"a pivot below 0", cracked([]int{-9, -1}), impl.Pivot{Value: -5, At: 1}, "-9 [-5] -1"},
		{"before another one", cracked([]int{1, 2, 9}, 5, 2), impl.Pivot{Value: 2, At: 1}, "1 [2] 2 [5] 9"},
		{"behind another one", cracked([]int{1, 2, 9}, 2, 1), impl.Pivot{Value: 5, At: 2}, "1 [2] 2 [5] 9"},
		{"between two", cracked([]int{1, 2, 9}, 2, 1, 9, 2), impl.Pivot{Value: 5, At: 2}, "1 [2] 2 [5] [9] 9"},
		{"next to others", cracked(halves, 4, 2, 6, 2), impl.Pivot{Value: 5, At: 2}, "2 1 [4] [5] [6] 9 7"},
		{"before others at one place", cracked(halves, 4, 2, 6, 2), impl.Pivot{Value: 3, At: 2}, "2 1 [3] [4] [6] 9 7"},
		{"behind others at one place", cracked(halves, 4, 2, 6, 2), impl.Pivot{Value: 7, At: 2}, "2 1 [4] [6] [7] 9 7"},
		{"at the beginning, with others", cracked(halves, -5, 0, 1, 0), impl.Pivot{Value: 0, At: 0}, "[-5] [0] [1] 2 1 9 7"},
		{"at the end, with others", cracked(halves, 10, 4, 12, 4), impl.Pivot{Value: 11, At: 4}, "2 1 9 7 [10] [11] [12]"},
		{"-1000", cracked(halves, -999, 0), impl.Pivot{Value: -1000, At: 0}, "[-1000] [-999] 2 1 9 7"},
		{"1000", cracked(halves, 999, 4), impl.Pivot{Value: 1000, At: 4}, "2 1 9 7 [999] [1000]"},
		{"no elements", impl.Cracker{}, impl.Pivot{Value: 3, At: 0}, "[3]"},
		{"no elements, but a pivot", cracked(nil, 3, 0), impl.Pivot{Value: 7, At: 0}, "[3] [7]"},
		{"no elements, -1000", cracked(nil, 3, 0), impl.Pivot{Value: -1000, At: 0}, "[-1000] [3]"},
		{"no elements, 1000", cracked(nil, 3, 0), impl.Pivot{Value: 1000, At: 0}, "[3] [1000]"},
	} {
		got, ok := impl.AddPivot(x.c, x.p)
		if !ok || impl.FormatCracker(got) != x.want || !slices.Equal(got.Rows, x.c.Rows) {
			t.Errorf("%s: AddPivot = %v, %t, want %s", x.name, got, ok, x.want)
		}
		checkAddPivot(t, x.c, x.p)
	}
	for name, x := range map[string]struct {
		c impl.Cracker
		p impl.Pivot
	}{
		"-1001":                             {cracked(halves), impl.Pivot{Value: -1001, At: 0}},
		"1001":                              {cracked(halves), impl.Pivot{Value: 1001, At: 4}},
		"-1001 beside -1000":                {cracked(halves, -1000, 0), impl.Pivot{Value: -1001, At: 0}},
		"1001 beside 1000":                  {cracked(halves, 1000, 4), impl.Pivot{Value: 1001, At: 4}},
		"the least int":                     {cracked(halves), impl.Pivot{Value: math.MinInt, At: 0}},
		"the greatest int":                  {cracked(halves), impl.Pivot{Value: math.MaxInt, At: 4}},
		"no elements, -1001":                {impl.Cracker{}, impl.Pivot{Value: -1001, At: 0}},
		"no elements, 1001":                 {impl.Cracker{}, impl.Pivot{Value: 1001, At: 0}},
		"a Value that is there":             {cracked(halves, 3, 2), impl.Pivot{Value: 3, At: 2}},
		"a Value that is there at first":    {cracked(halves, 3, 2, 7, 2), impl.Pivot{Value: 3, At: 2}},
		"a Value that is there at last":     {cracked(halves, 3, 2, 7, 2), impl.Pivot{Value: 7, At: 2}},
		"a Value that is there, no element": {cracked(nil, 3, 0), impl.Pivot{Value: 3, At: 0}},
		"a Value of -1000 that is there":    {cracked(nil, -1000, 0), impl.Pivot{Value: -1000, At: 0}},
		"a Value of 1000 that is there":     {cracked(nil, 1000, 0), impl.Pivot{Value: 1000, At: 0}},
		"a Value with another At":           {cracked(halves, 3, 2), impl.Pivot{Value: 3, At: 1}},
		"At less by 1":                      {cracked(halves), impl.Pivot{Value: 3, At: 1}},
		"At greater by 1":                   {cracked(halves), impl.Pivot{Value: 3, At: 3}},
		"At of -1":                          {cracked(halves), impl.Pivot{Value: 1, At: -1}},
		"At behind the number of values":    {cracked(halves), impl.Pivot{Value: 10, At: 5}},
		"the least int as At":               {cracked(halves), impl.Pivot{Value: 1, At: math.MinInt}},
		"the greatest int as At":            {cracked(halves), impl.Pivot{Value: 10, At: math.MaxInt}},
		"At of 1 without elements":          {impl.Cracker{}, impl.Pivot{Value: 3, At: 1}},
		"elements in the wrong order":       {cracked([]int{9, 1}), impl.Pivot{Value: 5, At: 1}},
		"At of the one before":              {cracked([]int{1, 2, 9}, 2, 1), impl.Pivot{Value: 5, At: 1}},
		"At of the one behind":              {cracked([]int{1, 2, 9}, 5, 2), impl.Pivot{Value: 2, At: 2}},
	} {
		if got, ok := impl.AddPivot(x.c, x.p); ok || !impl.EqualCrackers(got, x.c) {
			t.Errorf("%s: AddPivot = %v, %t", name, got, ok)
		}
		checkAddPivot(t, x.c, x.p)
	}
}

// TestAddPivotToColumnsThatAreNotValid also adds the pivot that would make up for a column.
func TestAddPivotToColumnsThatAreNotValid(t *testing.T) {
	for name, c := range invalidColumns {
		for _, v := range append([]int{4, 5}, bounds...) {
			for _, at := range []int{-1, 0, 1, 2, len(c.Values), len(c.Values) + 1} {
				if got, ok := impl.AddPivot(c, impl.Pivot{Value: v, At: at}); ok || !impl.EqualCrackers(got, c) {
					t.Errorf("%s: AddPivot %d at %d = %v, %t", name, v, at, got, ok)
				}
			}
		}
	}
}

func TestAddPivotOfAllLimits(t *testing.T) {
	for name, c := range validColumns {
		// Validating so many pivots again for every pivot would take long.
		if len(c.Pivots) > 100 {
			continue
		}
		values := slices.Clone(bounds)
		for _, v := range c.Values {
			values = append(values, v, v+1)
		}
		for _, p := range c.Pivots {
			values = append(values, p.Value-1, p.Value, p.Value+1)
		}
		slices.Sort(values)
		added := 0
		for _, v := range slices.Compact(values) {
			for at := -1; at <= len(c.Values)+1; at++ {
				p := impl.Pivot{Value: v, At: at}
				checkAddPivot(t, c, p)
				if _, ok := impl.AddPivot(c, p); ok {
					added++
				}
			}
		}
		if added == 0 {
			t.Errorf("%s: no pivot can be added", name)
		}
	}
	all := validColumns["all pivots"]
	for i, p := range all.Pivots {
		if i%50 != 0 {
			continue
		}
		c := withoutNil(all)
		c.Pivots = slices.Delete(c.Pivots, i, i+1)
		if got, ok := impl.AddPivot(c, p); !ok || !impl.EqualCrackers(got, all) {
			t.Errorf("the pivot %v is not put back, %t", p, ok)
		}
	}
}

func TestCrackAtExamples(t *testing.T) {
	c := impl.NewCracker([]int{5, 2, 9, 2, 7, 1, 8, 3})
	for _, x := range []struct {
		v    int
		l    []impl.Swap
		text string
		rows []int
	}{
		{5, swaps(0, 7, 2, 5), "3 2 1 2 [5] 7 9 8 5", []int{7, 1, 5, 3, 4, 2, 6, 0}},
		{3, swaps(0, 3), "2 2 1 [3] 3 [5] 7 9 8 5", []int{3, 1, 5, 7, 4, 2, 6, 0}},
		{3, nil, "2 2 1 [3] 3 [5] 7 9 8 5", []int{3, 1, 5, 7, 4, 2, 6, 0}},
		{8, swaps(5, 7), "2 2 1 [3] 3 [5] 7 5 [8] 8 9", []int{3, 1, 5, 7, 4, 0, 6, 2}},
		{4, nil, "2 2 1 [3] 3 [4] [5] 7 5 [8] 8 9", []int{3, 1, 5, 7, 4, 0, 6, 2}},
		{2, swaps(0, 2), "1 [2] 2 2 [3] 3 [4] [5] 7 5 [8] 8 9", []int{5, 1, 3, 7, 4, 0, 6, 2}},
		{-1000, nil, "[-1000] 1 [2] 2 2 [3] 3 [4] [5] 7 5 [8] 8 9", []int{5, 1, 3, 7, 4, 0, 6, 2}},
		{1000, nil, "[-1000] 1 [2] 2 2 [3] 3 [4] [5] 7 5 [8] 8 9 [1000]", []int{5, 1, 3, 7, 4, 0, 6, 2}},
		{6, swaps(4, 5), "[-1000] 1 [2] 2 2 [3] 3 [4] [5] 5 [6] 7 [8] 8 9 [1000]", []int{5, 1, 3, 7, 0, 4, 6, 2}},
		{5, nil, "[-1000] 1 [2] 2 2 [3] 3 [4] [5] 5 [6] 7 [8] 8 9 [1000]", []int{5, 1, 3, 7, 0, 4, 6, 2}},
	} {
		got, l, ok := impl.CrackAt(c, x.v)
		if !ok || !slices.Equal(l, x.l) || impl.FormatCracker(got) != x.text || !slices.Equal(got.Rows, x.rows) {
			t.Fatalf("CrackAt %d = %s in the rows %d, %v, %t, want %s in %d, %v", x.v, impl.FormatCracker(got), got.Rows, l, ok, x.text, x.rows, x.l)
		}
		c = got
	}
}

// TestCrackAtPieceWithoutElements divides between two pivots at one place, at the beginning, at the end, and without any values.
func TestCrackAtPieceWithoutElements(t *testing.T) {
	for name, x := range map[string]struct {
		c    impl.Cracker
		v    int
		want string
	}{
		"between two pivots at one place":      {cracked([]int{2, 1, 9, 7}, 3, 2, 7, 2), 5, "2 1 [3] [5] [7] 9 7"},
		"between two of three pivots":          {cracked([]int{2, 1, 9, 7}, 3, 2, 5, 2, 7, 2), 6, "2 1 [3] [5] [6] [7] 9 7"},
		"next to the pivot before":             {cracked([]int{2, 1, 9, 7}, 3, 2, 7, 2), 4, "2 1 [3] [4] [7] 9 7"},
		"next to the pivot behind":             {cracked([]int{2, 1, 9, 7}, 3, 2, 7, 2), 6, "2 1 [3] [6] [7] 9 7"},
		"before a pivot at the beginning":      {cracked([]int{5, 4}, 1, 0), 0, "[0] [1] 5 4"},
		"-1000 before a pivot":                 {cracked([]int{5, 4}, 1, 0), -1000, "[-1000] [1] 5 4"},
		"between two pivots at the beginning":  {cracked([]int{5, 4}, 1, 0, 4, 0), 2, "[1] [2] [4] 5 4"},
		"behind a pivot at the end":            {cracked([]int{5, 4}, 6, 2), 7, "5 4 [6] [7]"},
		"1000 behind a pivot":                  {cracked([]int{5, 4}, 6, 2), 1000, "5 4 [6] [1000]"},
		"between two pivots at the end":        {cracked([]int{5, 4}, 6, 2, 900, 2), 50, "5 4 [6] [50] [900]"},
		"no values":                            {impl.Cracker{}, 3, "[3]"},
		"no values, -1000":                     {impl.Cracker{}, -1000, "[-1000]"},
		"no values, 1000":                      {impl.Cracker{}, 1000, "[1000]"},
		"no values, before a pivot":            {cracked(nil, 3, 0), 2, "[2] [3]"},
		"no values, behind a pivot":            {cracked(nil, 3, 0), 4, "[3] [4]"},
		"no values, between two pivots":        {cracked(nil, 3, 0, 7, 0), 5, "[3] [5] [7]"},
		"no values, between pivots of limits":  {cracked(nil, -1000, 0, 1000, 0), 0, "[-1000] [0] [1000]"},
		"no values, but empty lists":           {withoutNil(impl.Cracker{}), 3, "[3]"},
		"between equal values at other places": {cracked([]int{3, 3, 5, 5}, 4, 2, 5, 2), 5, "3 3 [4] [5] 5 5"},
	} {
		got, l, ok := impl.CrackAt(x.c, x.v)
		if !ok || len(l) != 0 || impl.FormatCracker(got) != x.want || !slices.Equal(got.Rows, x.c.Rows) {
			t.Errorf("%s: CrackAt %d = %v, %v, %t, want %s", name, x.v, got, l, ok, x.want)
		}
		checkCrackAt(t, x.c, x.v)
	}
}

func TestCrackAtLimits(t *testing.T) {
	for name, x := range map[string]struct {
		values  []int
		v       int
		want    string
		inOrder bool
	}{
		"-1000":                        {[]int{0, -999, 999}, -1000, "[-1000] 0 -999 999", true},
		"-999":                         {[]int{0, -999, 999}, -999, "[-999] 0 -999 999", true},
		"-998":                         {[]int{0, -999, 999}, -998, "-999 [-998] 0 999", false},
		"999":                          {[]int{999, -999, 0}, 999, "0 -999 [999] 999", false},
		"1000":                         {[]int{999, -999, 0}, 1000, "999 -999 0 [1000]", true},
		"one value, less":              {[]int{4}, 5, "4 [5]", true},
		"one value, equal":             {[]int{5}, 5, "[5] 5", true},
		"one value, greater":           {[]int{6}, 5, "[5] 6", true},
		"no swap needed":               {[]int{1, 2, 7, 8}, 5, "1 2 [5] 7 8", true},
		"each pair of an even number":  {[]int{9, 8, 7, 1, 2, 3}, 5, "3 2 1 [5] 7 8 9", false},
		"each pair of an odd number":   {[]int{9, 8, 4, 2, 3}, 5, "3 2 4 [5] 8 9", false},
		"each pair, a greater between": {[]int{9, 8, 6, 2, 3}, 5, "3 2 [5] 6 8 9", false},
		"equal values, not less":       {[]int{5, 5, 5}, 5, "[5] 5 5 5", true},
		"equal values, less":           {[]int{5, 5, 5}, 6, "5 5 5 [6]", true},
		"all less":                     {[]int{3, 1, 2}, 4, "3 1 2 [4]", true},
		"none less":                    {[]int{3, 1, 2}, 1, "[1] 3 1 2", true},
		"64 values":                    {repeated(64, 1), 1, "[1]" + strings.Repeat(" 1", 64), true},
	} {
		c := impl.NewCracker(x.values)
		got, _, ok := impl.CrackAt(c, x.v)
		if !ok || impl.FormatCracker(got) != x.want || slices.Equal(got.Rows, c.Rows) != x.inOrder {
			t.Errorf("%s: CrackAt %d = %v, %t, want %s", name, x.v, got, ok, x.want)
		}
		checkCrackAt(t, c, x.v)
	}
	for name, c := range validColumns {
		for _, v := range []int{-1001, 1001, -1002, 1002, 2000, math.MinInt, math.MaxInt} {
			if got, l, ok := impl.CrackAt(c, v); ok || len(l) != 0 || !impl.EqualCrackers(got, c) {
				t.Errorf("%s: CrackAt %d = %v, %v, %t", name, v, got, l, ok)
			}
		}
	}
}

func TestCrackAtOfColumnsThatAreNotValid(t *testing.T) {
	for name, c := range invalidColumns {
		values := append([]int{4, 5, 6, 7, 8}, bounds...)
		for _, p := range c.Pivots {
			values = append(values, p.Value)
		}
		for _, v := range values {
			if got, l, ok := impl.CrackAt(c, v); ok || len(l) != 0 || !impl.EqualCrackers(got, c) {
				t.Errorf("%s: CrackAt %d = %v, %v, %t", name, v, got, l, ok)
			}
		}
	}
}

func TestCrackAtPivotsThatAreThere(t *testing.T) {
	for name, c := range validColumns {
		for i, p := range c.Pivots {
			if len(c.Pivots) > 100 && i%50 != 0 {
				continue
			}
			if got, l, ok := impl.CrackAt(c, p.Value); !ok || len(l) != 0 || !impl.EqualCrackers(got, c) {
				t.Errorf("%s: CrackAt %d = %v, %v, %t", name, p.Value, got, l, ok)
			}
		}
	}
}

func TestCrackAtOfAllColumns(t *testing.T) {
	for _, columns := range []map[string]impl.Cracker{validColumns, invalidColumns} {
		for _, c := range columns {
			values := slices.Clone(bounds)
			for i := range c.Values {
				values = append(values, c.Values[i], c.Values[i]+1)
			}
			// Validating so many pivots again for every value would take long.
			if len(c.Pivots) <= 100 {
				for _, p := range c.Pivots {
					values = append(values, p.Value-1, p.Value, p.Value+1)
				}
			}
			for _, v := range values {
				checkCrackAt(t, c, v)
			}
		}
	}
}

// TestCrackAtSwapsAreThoseOfTheColumn leads from a column to the divided one by its swaps and its pivot, and back again.
func TestCrackAtSwapsAreThoseOfTheColumn(t *testing.T) {
	for name, c := range validColumns {
		for _, v := range []int{-900, -500, -299, -1, 0, 1, 2, 3, 5, 8, 30, 500, 900} {
			got, l, _ := impl.CrackAt(c, v)
			at, _ := impl.FindPivot(got, v)
			if _, found := impl.FindPivot(c, v); found {
				continue
			}
			moved, _ := impl.ApplySwaps(c, l)
			if x, ok := impl.AddPivot(moved, impl.Pivot{Value: v, At: at}); !ok || !impl.EqualCrackers(x, got) {
				t.Errorf("%s: CrackAt %d = %v, but its swaps lead to %v", name, v, got, x)
			}
			got.Pivots = c.Pivots
			if x, ok := impl.UndoSwaps(got, l); !ok || !impl.EqualCrackers(x, c) {
				t.Errorf("%s: CrackAt %d, undone, is %v", name, v, x)
			}
		}
	}
}

func TestEverySmallDivision(t *testing.T) {
	everyList([]int{0, 1, 2, 3}, 5, func(values []int) {
		for v := -1; v <= 4; v++ {
			once := checkCrackAt(t, impl.NewCracker(values), v)
			for w := -1; w <= 4; w++ {
				checkCrackAt(t, once, w)
			}
		}
	})
	everyList([]int{0, 1, 2}, 3, func(values []int) {
		everyPivots([]int{0, 1, 2, 3}, []int{0, 1, 2, 3}, 2, func(l []impl.Pivot) {
			c := impl.Cracker{Values: values, Rows: upTo(len(values)), Pivots: l}
			for v := -1; v <= 4; v++ {
				checkCrackAt(t, c, v)
				for at := -1; at <= len(values)+1; at++ {
					checkAddPivot(t, c, impl.Pivot{Value: v, At: at})
				}
			}
		})
	})
}

// everyOrder calls visit with the numbers in all of their orders.
func everyOrder(l []int, visit func([]int)) {
	var from func(done, rest []int)
	from = func(done, rest []int) {
		if len(rest) == 0 {
			visit(slices.Clone(done))
		}
		for i, n := range rest {
			from(append(slices.Clone(done), n), slices.Delete(slices.Clone(rest), i, i+1))
		}
	}
	from(nil, l)
}

// checkOrder divides at all values, one after another, and asks for the pivots that there have to be in the end.
func checkOrder(t *testing.T, values, order []int) impl.Cracker {
	t.Helper()
	c := impl.NewCracker(values)
	for _, v := range order {
		c = checkCrackAt(t, c, v)
	}
	var want []impl.Pivot
	for _, v := range order {
		p := impl.Pivot{Value: v}
		for _, w := range values {
			if w < v {
				p.At++
			}
		}
		want = append(want, p)
	}
	slices.SortFunc(want, func(a, b impl.Pivot) int { return cmp.Compare(a.Value, b.Value) })
	want = slices.Compact(want)
	if !slices.Equal(c.Pivots, want) || !slices.Equal(elements(c), elements(impl.NewCracker(values))) {
		t.Errorf("%d, divided at %d, is %v, want the pivots %v", values, order, c, want)
	}
	return c
}

func TestCrackAtInEveryOrder(t *testing.T) {
	everyOrder([]int{-1000, 2, 3, 5, 8, 1000}, func(order []int) {
		checkOrder(t, []int{5, 2, 9, 2, 7, 1, 8, 3}, order)
	})
	everyOrder([]int{4, 5, 6, 7}, func(order []int) {
		checkOrder(t, []int{5, 5, 5}, order)
		checkOrder(t, nil, order)
		checkOrder(t, []int{9, 1}, order)
	})
	everyList([]int{1, 2, 5, 9}, 5, func(order []int) { checkOrder(t, []int{9, 1, 5, 2, 5}, order) })
}

func TestCrackAtManyTimes(t *testing.T) {
	for _, values := range [][]int{spread(64), spread(63), spread(7), upTo(64), repeated(64, 7), nil, {999, -999}} {
		for _, by := range []int{50, 333, 1000} {
			order := steps(by)
			checkOrder(t, values, order)
			slices.Reverse(order)
			checkOrder(t, values, order)
			slices.SortStableFunc(order, func(a, b int) int { return cmp.Compare((a+1000)*577%2003, (b+1000)*577%2003) })
			checkOrder(t, values, order)
		}
		// Between a pivot at each value and one behind it, only equal values are left, which are in order.
		var order []int
		for _, v := range values {
			order = append(order, v, v+1, v)
		}
		if c := checkOrder(t, values, order); !slices.IsSorted(c.Values) {
			t.Errorf("%d, divided everywhere, is %v", values, c)
		}
	}
}

// spareSwaps returns a copy of a list with marked capacity behind it.
func spareSwaps(l []impl.Swap) []impl.Swap {
	long := append(slices.Clone(l), swaps(777, 888, 555, 444)...)
	return long[:len(l)]
}

// fillColumn overwrites all lists of a column, up to their capacity.
func fillColumn(c impl.Cracker) {
	fill(c.Values, 123)
	fill(c.Rows, 456)
	list := c.Pivots[:cap(c.Pivots)]
	for i := range list {
		list[i] = impl.Pivot{Value: 321, At: 654}
	}
}

func fillSwaps(l []impl.Swap) {
	l = l[:cap(l)]
	for i := range l {
		l[i] = impl.Swap{I: 987, J: 789}
	}
}

// answers performs the functions of chapter 5 that return a column, successfully and not, and returns what they answer.
func answers(c impl.Cracker, l []impl.Swap) ([]impl.Cracker, [][]impl.Swap) {
	var columns []impl.Cracker
	var lists [][]impl.Swap
	add := func(x impl.Cracker, _ bool) { columns = append(columns, x) }
	add(impl.ApplySwaps(c, l))
	add(impl.UndoSwaps(c, l))
	for _, v := range []int{-1001, -1000, 0, 3, 4, 8, 1000, 1001} {
		for _, at := range []int{-1, 0, 2, len(c.Values)} {
			add(impl.AddPivot(c, impl.Pivot{Value: v, At: at}))
		}
		x, s, _ := impl.CrackAt(c, v)
		columns, lists = append(columns, x), append(lists, s)
		s, _ = impl.Partition(c.Values, 0, len(c.Values), v)
		lists = append(lists, s)
	}
	return columns, lists
}

// swapLists are the lists with which the tests below call everything: of each column, some are possible and some are not.
func swapLists() [][]impl.Swap {
	return [][]impl.Swap{nil, {}, swaps(0, 0), swaps(0, 1, 1, 2), swaps(0, 2, 2, 1, 1, 0, 0, 3), swaps(0, 1, 1, -1, 1, 0)}
}

func TestDivisionArgumentsStay(t *testing.T) {
	for _, columns := range []map[string]impl.Cracker{validColumns, invalidColumns} {
		for name, plain := range columns {
			for _, list := range swapLists() {
				c, l := columnWithSpare(plain), spareSwaps(list)
				before, listBefore := wholeColumn(c), slices.Clone(l[:cap(l)])
				got, lists := answers(c, l)
				for _, x := range got {
					fillColumn(x)
				}
				for _, x := range lists {
					fillSwaps(x)
				}
				if !reflect.DeepEqual(wholeColumn(c), before) {
					t.Errorf("%s: the column has become %v, it was %v", name, wholeColumn(c), before)
				}
				if !slices.Equal(l[:cap(l)], listBefore) {
					t.Errorf("%s: the swaps have become %v, they were %v", name, l[:cap(l)], listBefore)
				}
			}
		}
	}
}

func TestDividedColumnsAreNewMemory(t *testing.T) {
	for _, columns := range []map[string]impl.Cracker{validColumns, invalidColumns} {
		for name, plain := range columns {
			for _, list := range swapLists() {
				c, l := columnWithSpare(plain), spareSwaps(list)
				want, wantLists := answers(plain, list)
				got, lists := answers(c, l)
				fillColumn(c)
				fillSwaps(l)
				for i, x := range got {
					if !impl.EqualCrackers(x, want[i]) {
						t.Errorf("%s: after a change of the arguments, an answer is %v, want %v", name, x, want[i])
					}
					fill(x.Values, 123)
					if !slices.Equal(x.Rows, want[i].Rows) {
						t.Errorf("%s: after a change of the values, the rows are %d", name, x.Rows)
					}
					fill(x.Rows, 456)
					if !slices.Equal(x.Values, repeated(len(x.Values), 123)) || !slices.Equal(x.Pivots, want[i].Pivots) {
						t.Errorf("%s: after a change of the rows, the column is %v", name, x)
					}
					fillColumn(x)
				}
				for i, x := range lists {
					if !slices.Equal(x, wantLists[i]) {
						t.Errorf("%s: after a change of the arguments and of other answers, the swaps are %v, want %v", name, x, wantLists[i])
					}
					fillSwaps(x)
				}
			}
		}
	}
}

// TestOneListForValuesAndRows gives a column whose rows are the same memory as its values.
func TestOneListForValuesAndRows(t *testing.T) {
	list := spare([]int{3, 0, 2, 1})
	c := impl.Cracker{Values: list, Rows: list}
	want := inRows([]int{1, 0, 2, 3}, 1, 0, 2, 3)
	got, ok := impl.ApplySwaps(c, swaps(0, 3))
	back, backOK := impl.UndoSwaps(c, swaps(0, 3))
	divided, l, dividedOK := impl.CrackAt(c, 2)
	if !ok || !backOK || !impl.EqualCrackers(got, want) || !impl.EqualCrackers(back, want) {
		t.Errorf("the swapped columns are %v and %v", got, back)
	}
	if !dividedOK || !slices.Equal(l, swaps(0, 3)) || impl.FormatCracker(divided) != "1 0 [2] 2 3" || !slices.Equal(divided.Rows, want.Rows) {
		t.Errorf("the divided column is %v, the swaps are %v", divided, l)
	}
	if !slices.Equal(list[:cap(list)][:7], []int{3, 0, 2, 1, 777, 888, 555}) {
		t.Errorf("the list has become %d", list[:cap(list)])
	}
}
