package tests

import (
	"fmt"
	"math"
	"reflect"
	"slices"
	"strings"
	"testing"

	"loop.example/g01984/impl"
)

// Promise 6: every swap is charged to exactly one query, and a ledger can be replayed. Promises 4 and 5 are asked of the same queries.

// charges is short for a list of charges: the five fields of the first one, of the next one and so on.
func charges(numbers ...int) []impl.Charge {
	var l []impl.Charge
	for n := range slices.Chunk(numbers, 5) {
		l = append(l, impl.Charge{Query: n[0], Value: n[1], From: n[2], To: n[3], Swaps: n[4]})
	}
	return l
}

// ledgerText writes all charges, whatever their fields are.
func ledgerText(ledger []impl.Charge) string {
	var l []string
	for _, x := range ledger {
		l = append(l, fmt.Sprintf("%d at %d in %d..%d swaps %d", x.Query, x.Value, x.From, x.To, x.Swaps))
	}
	return strings.Join(l, ", ")
}

// formatCharge has a condition for each one of the document.
func formatCharge(x impl.Charge) string {
	if x.Query < 0 || x.Query > 29 || x.Value < -1000 || x.Value > 1000 {
		return ""
	}
	if x.Swaps < 0 || x.Swaps > 64 || !(0 <= x.From && x.From <= x.To && x.To <= 64) {
		return ""
	}
	return ledgerText([]impl.Charge{x})
}

// chargeOf is what a division of a valid column costs, by the readers of the chapters 4 and 5.
func chargeOf(c impl.Cracker, query, v int) (impl.Cracker, impl.Charge) {
	from, to := pieceOf(c, v)
	next, l, _ := crackColumn(c, v)
	return next, impl.Charge{Query: query, Value: v, From: from, To: to, Swaps: len(l)}
}

// ledgerOf lets the reader of chapter 7 find the values at which each query divides, and then charges one division after another.
func ledgerOf(values []int, s impl.Settings, ranges []impl.Range) []impl.Charge {
	if !areQueries(values, s, ranges) {
		return nil
	}
	var ledger []impl.Charge
	x := policyRun{c: withoutNil(cracked(values)), s: s}
	for i, r := range ranges {
		c := x.c
		x.at = nil
		x.crackBy(r.From)
		x.crackBy(r.To)
		for _, v := range x.at {
			next, charge := chargeOf(c, i, v)
			if len(next.Pivots) > len(c.Pivots) {
				ledger = append(ledger, charge)
			}
			c = next
		}
	}
	return ledger
}

// replayLedger has a condition for each one of the document.
func replayLedger(values []int, ledger []impl.Charge) (impl.Cracker, bool) {
	if !areQueries(values, plain(1, 0), nil) {
		return impl.Cracker{}, false
	}
	c := withoutNil(cracked(values))
	for _, x := range ledger {
		if x.Value < -1000 || x.Value > 1000 {
			return impl.Cracker{}, false
		}
		if slices.ContainsFunc(c.Pivots, func(p impl.Pivot) bool { return p.Value == x.Value }) {
			return impl.Cracker{}, false
		}
		next, charge := chargeOf(c, 0, x.Value)
		if charge.From != x.From || charge.To != x.To || charge.Swaps != x.Swaps {
			return impl.Cracker{}, false
		}
		c = next
	}
	return c, true
}

func totalSwaps(ledger []impl.Charge) int {
	var swaps []int
	for _, x := range ledger {
		swaps = append(swaps, x.Swaps)
	}
	return total(swaps)
}

// swapsOf leaves out all charges of other queries.
func swapsOf(ledger []impl.Charge, query int) int {
	other := func(x impl.Charge) bool { return x.Query != query }
	return totalSwaps(slices.DeleteFunc(slices.Clone(ledger), other))
}

// ownerOf goes from the last charge to the first one, so that the first one decides.
func ownerOf(ledger []impl.Charge, value int) int {
	owner := -1
	for _, x := range slices.Backward(ledger) {
		if x.Value == value {
			owner = x.Query
		}
	}
	return owner
}

// checkLedger compares with the functions above, and asks for everything that the promises say of these queries.
func checkLedger(t *testing.T, values []int, s impl.Settings, ranges []impl.Range) []impl.Charge {
	t.Helper()
	run := checkRunQueries(t, values, s, ranges)
	got, want := impl.LedgerOf(values, s, ranges), ledgerOf(values, s, ranges)
	if !slices.Equal(got, want) {
		t.Errorf("LedgerOf(%d, %v, %v) = %s, want %s", values, s, ranges, ledgerText(got), ledgerText(want))
	}
	if !areQueries(values, s, ranges) {
		return got
	}
	checkCharges(t, values, s, ranges, got)
	if sum := impl.TotalSwaps(got); sum != total(run.costs) || sum > swapBound(len(values), s, len(ranges)) {
		t.Errorf("LedgerOf(%d, %v, %v) = %s, whose sum is %d, but the swaps are %d", values, s, ranges, ledgerText(got), sum, run.costs)
	}
	if c, ok := impl.ReplayLedger(values, got); !ok || !impl.EqualCrackers(c, run.c) {
		t.Errorf("ReplayLedger(%d, %s) = %v, %t, but the queries %v lead to %v", values, ledgerText(got), c, ok, ranges, run.c)
	}
	for _, x := range got {
		if text := impl.FormatCharge(x); text == "" || text != formatCharge(x) {
			t.Errorf("FormatCharge(%v) = %q", x, text)
		}
	}
	return got
}

// checkCharges goes from query to query, and from division to division as far as CrackWith shows them: each column has as many pivots as there are charges up to it.
func checkCharges(t *testing.T, values []int, s impl.Settings, ranges []impl.Range, ledger []impl.Charge) {
	t.Helper()
	c := impl.NewCracker(values)
	for i, r := range ranges {
		middle, _, _ := impl.CrackWith(c, s, r.From)
		next, left, rows, n := impl.SelectWith(c, s, r)
		if len(next.Pivots) > len(ledger) {
			t.Errorf("after query %d of %d, %v, %v there are %d charges for the pivots %v", i, values, s, ranges, len(ledger), next.Pivots)
			return
		}
		for _, x := range []impl.Cracker{middle, next} {
			if got, ok := impl.ReplayLedger(values, ledger[:len(x.Pivots)]); !ok || !impl.EqualCrackers(got, x) {
				t.Errorf("the first %d charges of %s are replayed to %v, %t, want %v", len(x.Pivots), ledgerText(ledger), got, ok, x)
			}
		}
		if got := impl.SwapsOf(ledger, i); got != n || !slices.Equal(rows, scanValues(values, r)) {
			t.Errorf("query %d of %d, %v, %v makes %d swaps and answers %d, but SwapsOf(%s) = %d", i, values, s, ranges, n, rows, ledgerText(ledger), got)
		}
		checkOwners(t, c, next, i, ledger)
		c, s = next, left
	}
	if len(c.Pivots) != len(ledger) {
		t.Errorf("there are %d charges for the pivots %v", len(ledger), c.Pivots)
	}
	for _, query := range []int{math.MinInt, -1, len(ranges), 30, math.MaxInt} {
		if got := impl.SwapsOf(ledger, query); got != 0 {
			t.Errorf("SwapsOf(%s, %d) = %d", ledgerText(ledger), query, got)
		}
	}
}

// checkOwners asks for the charges of all pivots that one query adds, and of no others.
func checkOwners(t *testing.T, before, after impl.Cracker, query int, ledger []impl.Charge) {
	t.Helper()
	for _, p := range after.Pivots {
		added := !slices.Contains(before.Pivots, p)
		if owner := impl.OwnerOf(ledger, p.Value); (owner == query) != added {
			t.Errorf("query %d adds %v: %t, but OwnerOf(%s) = %d", query, p, added, ledgerText(ledger), owner)
		}
	}
	for i, x := range ledger {
		if got := len(before.Pivots) <= i && i < len(after.Pivots); got != (x.Query == query) {
			t.Errorf("charge %d of %s belongs to query %d: %t", i, ledgerText(ledger), query, got)
		}
	}
}

// checkReplay compares with the function above.
func checkReplay(t *testing.T, values []int, ledger []impl.Charge) (impl.Cracker, bool) {
	t.Helper()
	want, wantOK := replayLedger(values, ledger)
	got, ok := impl.ReplayLedger(values, ledger)
	if !impl.EqualCrackers(got, want) || ok != wantOK {
		t.Errorf("ReplayLedger(%d, %s) = %v, %t, want %v, %t", values, ledgerText(ledger), got, ok, want, wantOK)
	}
	return got, ok
}

func checkNoReplay(t *testing.T, name string, values []int, ledger []impl.Charge) {
	t.Helper()
	if got, ok := checkReplay(t, values, ledger); ok || !impl.EqualCrackers(got, impl.Cracker{}) {
		t.Errorf("%s: ReplayLedger(%d, %s) = %v, %t", name, values, ledgerText(ledger), got, ok)
	}
}

// A ledgerExample is the ledger that some queries have, the column to which they and the ledger lead, and the swaps of each query.
type ledgerExample struct {
	values []int
	s      impl.Settings
	ranges []impl.Range
	want   string
	column string
	costs  []int
}

func (x ledgerExample) check(t *testing.T, name string) {
	t.Helper()
	got := checkLedger(t, x.values, x.s, x.ranges)
	if ledgerText(got) != x.want {
		t.Errorf("%s: LedgerOf(%d, %v, %v) = %s, want %s", name, x.values, x.s, x.ranges, ledgerText(got), x.want)
	}
	if c, ok := impl.ReplayLedger(x.values, got); !ok || impl.FormatCracker(c) != x.column {
		t.Errorf("%s: ReplayLedger(%d, %s) = %s, %t, want %s", name, x.values, ledgerText(got), impl.FormatCracker(c), ok, x.column)
	}
	if sum := impl.TotalSwaps(got); sum != total(x.costs) {
		t.Errorf("%s: TotalSwaps(%s) = %d, want the sum of %d", name, ledgerText(got), sum, x.costs)
	}
	for i, n := range x.costs {
		if swaps := impl.SwapsOf(got, i); swaps != n {
			t.Errorf("%s: SwapsOf(%s, %d) = %d, want %d", name, ledgerText(got), i, swaps, n)
		}
	}
}

func TestLedgerExamples(t *testing.T) {
	five, negative := repeated(5, 5), []int{-5, 3, -9, 0, -1, 7}
	ten, edges := []int{4, 9, 1, 7, 3, 8, 2, 6, 5, 0}, []int{999, -999, 0, 998, -998}
	for name, x := range map[string]ledgerExample{
		"plain":                                 {eight, plain(4, 0), spans(3, 8, 3, 4), "0 at 3 in 0..8 swaps 2, 0 at 8 in 3..8 swaps 1, 1 at 4 in 3..6 swaps 0", "1 2 2 [3] 3 [4] 7 5 [8] 8 9", []int{3, 0}},
		"center":                                {eight, center(2, 5), spans(3, 8, 3, 4), "0 at 3 in 0..8 swaps 2, 0 at 4 in 3..8 swaps 1, 0 at 7 in 4..8 swaps 1, 0 at 8 in 5..8 swaps 0", "1 2 2 [3] 3 [4] 5 [7] 7 [8] 8 9", []int{4, 0}},
		"random":                                {eight, random(2, 5), spans(3, 8, 3, 4), "0 at 7 in 0..8 swaps 2, 0 at 8 in 5..8 swaps 0, 0 at 2 in 0..5 swaps 1, 0 at 3 in 1..5 swaps 1, 1 at 4 in 3..5 swaps 0", "1 [2] 2 2 [3] 3 [4] 5 [7] 7 [8] 8 9", []int{4, 0}},
		"random, the greatest seed":             {eight, random(1, 10006), spans(7, 8, 1, 2, 2, 9), "0 at 9 in 0..8 swaps 1, 0 at 10 in 7..8 swaps 0, 0 at 2 in 0..7 swaps 1, 0 at 3 in 1..7 swaps 1, 0 at 7 in 3..7 swaps 1, 0 at 8 in 5..7 swaps 0, 1 at 1 in 0..1 swaps 0", "[1] 1 [2] 2 2 [3] 3 5 [7] 7 [8] 8 [9] 9 [10]", []int{4, 0, 0}},
		"center, a threshold of 1":              {eight, center(1, 0), spans(7, 8, 1, 2, 2, 9), "0 at 3 in 0..8 swaps 2, 0 at 4 in 3..8 swaps 1, 0 at 7 in 4..8 swaps 1, 0 at 8 in 5..8 swaps 0, 1 at 2 in 0..3 swaps 0, 1 at 1 in 0..1 swaps 0, 2 at 9 in 6..8 swaps 0", "[1] 1 [2] 2 2 [3] 3 [4] 5 [7] 7 [8] 8 [9] 9", []int{4, 0, 0}},
		"center, one element more":              {eight, center(7, 5), spans(2, 7), "0 at 3 in 0..8 swaps 2, 0 at 4 in 3..8 swaps 1, 0 at 2 in 0..3 swaps 0, 0 at 7 in 4..8 swaps 1", "1 [2] 2 2 [3] 3 [4] 5 [7] 7 8 9", []int{4}},
		"random, one element more":              {eight, random(7, 5), spans(2, 7), "0 at 7 in 0..8 swaps 2, 0 at 8 in 5..8 swaps 0, 0 at 2 in 0..5 swaps 1", "1 [2] 2 3 2 5 [7] 7 [8] 8 9", []int{3}},
		"plain, no ranges":                      {eight, plain(4, 0), nil, "", "5 2 9 2 7 1 8 3", nil},
		"random, no ranges":                     {eight, random(4, 5), nil, "", "5 2 9 2 7 1 8 3", nil},
		"plain, no values":                      {nil, plain(4, 0), spans(3, 8, 5, 6, 3, 5), "0 at 3 in 0..0 swaps 0, 0 at 8 in 0..0 swaps 0, 1 at 5 in 0..0 swaps 0, 1 at 6 in 0..0 swaps 0", "[3] [5] [6] [8]", []int{0, 0, 0}},
		"random, no values":                     {nil, random(1, 5), spans(3, 8, 5, 6, 3, 5), "0 at 3 in 0..0 swaps 0, 0 at 8 in 0..0 swaps 0, 1 at 5 in 0..0 swaps 0, 1 at 6 in 0..0 swaps 0", "[3] [5] [6] [8]", []int{0, 0, 0}},
		"plain, each range twice":               {eight, plain(4, 0), spans(5, 8, 5, 8, 2, 3, 2, 3), "0 at 5 in 0..8 swaps 2, 0 at 8 in 4..8 swaps 1, 2 at 2 in 0..4 swaps 1, 2 at 3 in 1..4 swaps 1", "1 [2] 2 2 [3] 3 [5] 7 5 [8] 8 9", []int{3, 0, 2, 0}},
		"center, each range twice":              {eight, center(2, 0), spans(5, 8, 5, 8, 2, 3, 2, 3), "0 at 3 in 0..8 swaps 2, 0 at 4 in 3..8 swaps 1, 0 at 7 in 4..8 swaps 1, 0 at 8 in 5..8 swaps 0, 0 at 5 in 4..5 swaps 0, 2 at 2 in 0..3 swaps 0", "1 [2] 2 2 [3] 3 [4] [5] 5 [7] 7 [8] 8 9", []int{4, 0, 0, 0}},
		"random, each range twice":              {eight, random(2, 9), spans(5, 8, 5, 8, 2, 3, 2, 3), "0 at 2 in 0..8 swaps 1, 0 at 3 in 1..8 swaps 1, 0 at 5 in 3..8 swaps 1, 0 at 6 in 4..8 swaps 1, 0 at 9 in 5..8 swaps 0, 0 at 10 in 7..8 swaps 0, 0 at 8 in 5..7 swaps 0", "1 [2] 2 2 [3] 3 [5] 5 [6] 7 [8] 8 [9] 9 [10]", []int{4, 0, 0, 0}},
		"plain, empty ranges":                   {eight, plain(4, 0), spans(4, 4, 4, 4, -1000, -1000, 1000, 1000), "0 at 4 in 0..8 swaps 2, 2 at -1000 in 0..4 swaps 0, 3 at 1000 in 4..8 swaps 0", "[-1000] 3 2 1 2 [4] 7 9 8 5 [1000]", []int{2, 0, 0, 0}},
		"center, empty ranges":                  {eight, center(2, 0), spans(4, 4, 4, 4, -1000, -1000, 1000, 1000), "0 at 3 in 0..8 swaps 2, 0 at 4 in 3..8 swaps 1, 2 at 2 in 0..3 swaps 0, 2 at -1000 in 0..1 swaps 0, 3 at 7 in 4..8 swaps 1, 3 at 8 in 5..8 swaps 0, 3 at 1000 in 6..8 swaps 0", "[-1000] 1 [2] 2 2 [3] 3 [4] 5 [7] 7 [8] 8 9 [1000]", []int{3, 0, 0, 1}},
		"random, empty ranges":                  {eight, random(2, 5), spans(4, 4, 4, 4, -1000, -1000, 1000, 1000), "0 at 7 in 0..8 swaps 2, 0 at 8 in 5..8 swaps 0, 0 at 2 in 0..5 swaps 1, 0 at 3 in 1..5 swaps 1, 0 at 4 in 3..5 swaps 0, 2 at -1000 in 0..1 swaps 0, 3 at 1000 in 6..8 swaps 0", "[-1000] 1 [2] 2 2 [3] 3 [4] 5 [7] 7 [8] 8 9 [1000]", []int{4, 0, 0, 0}},
		"plain, everything first":               {negative, plain(1, 0), spans(-1000, 1000, -6, 0, -1, 4), "0 at -1000 in 0..6 swaps 0, 0 at 1000 in 0..6 swaps 0, 1 at -6 in 0..6 swaps 1, 1 at 0 in 1..6 swaps 1, 2 at -1 in 1..3 swaps 1, 2 at 4 in 3..6 swaps 0", "[-1000] -9 [-6] -5 [-1] -1 [0] 0 3 [4] 7 [1000]", []int{0, 2, 1}},
		"center, everything first":              {negative, center(1, 0), spans(-1000, 1000, -6, 0, -1, 4), "0 at -1 in 0..6 swaps 1, 0 at 0 in 2..6 swaps 1, 0 at -9 in 0..2 swaps 0, 0 at -8 in 0..2 swaps 1, 0 at -1000 in 0..0 swaps 0, 0 at 3 in 3..6 swaps 0, 0 at 4 in 4..6 swaps 0, 0 at 1000 in 5..6 swaps 0, 1 at -6 in 1..2 swaps 0", "[-1000] [-9] -9 [-8] [-6] -5 [-1] -1 [0] 0 [3] 3 [4] 7 [1000]", []int{3, 0, 0}},
		"random, everything first":              {negative, random(1, 3), spans(-1000, 1000, -6, 0, -1, 4), "0 at -9 in 0..6 swaps 0, 0 at -8 in 0..6 swaps 1, 0 at -1000 in 0..0 swaps 0, 0 at -5 in 1..6 swaps 0, 0 at -4 in 1..6 swaps 1, 0 at -1 in 2..6 swaps 0, 0 at 0 in 2..6 swaps 1, 0 at 7 in 3..6 swaps 0, 0 at 8 in 5..6 swaps 0, 0 at 1000 in 6..6 swaps 0, 1 at -6 in 1..1 swaps 0, 2 at 3 in 3..5 swaps 0, 2 at 4 in 4..5 swaps 0", "[-1000] [-9] -9 [-8] [-6] [-5] -5 [-4] [-1] -1 [0] 0 [3] 3 [4] [7] 7 [8] [1000]", []int{3, 0, 0}},
		"plain, everything last":                {negative, plain(1, 0), spans(-1, 4, -6, 0, -1000, 1000), "0 at -1 in 0..6 swaps 1, 0 at 4 in 2..6 swaps 0, 1 at -6 in 0..2 swaps 1, 1 at 0 in 2..5 swaps 1, 2 at -1000 in 0..1 swaps 0, 2 at 1000 in 5..6 swaps 0", "[-1000] -9 [-6] -5 [-1] -1 [0] 0 3 [4] 7 [1000]", []int{1, 2, 0}},
		"center, equal values":                  {five, center(2, 0), spans(5, 6, 4, 5, 6, 7, 0, 9), "0 at 5 in 0..5 swaps 0, 0 at 6 in 0..5 swaps 0, 1 at 4 in 0..0 swaps 0, 2 at 7 in 5..5 swaps 0, 3 at 0 in 0..0 swaps 0, 3 at 9 in 5..5 swaps 0", "[0] [4] [5] 5 5 5 5 5 [6] [7] [9]", []int{0, 0, 0, 0}},
		"random, equal values":                  {five, random(2, 5), spans(5, 6, 4, 5, 6, 7, 0, 9), "0 at 5 in 0..5 swaps 0, 0 at 6 in 0..5 swaps 0, 1 at 4 in 0..0 swaps 0, 2 at 7 in 5..5 swaps 0, 3 at 0 in 0..0 swaps 0, 3 at 9 in 5..5 swaps 0", "[0] [4] [5] 5 5 5 5 5 [6] [7] [9]", []int{0, 0, 0, 0}},
		"plain, the limits":                     {edges, plain(1, 0), spans(-1000, -998, 998, 1000, -999, 999), "0 at -1000 in 0..5 swaps 0, 0 at -998 in 0..5 swaps 1, 1 at 998 in 1..5 swaps 1, 1 at 1000 in 3..5 swaps 0, 2 at -999 in 0..1 swaps 0, 2 at 999 in 3..5 swaps 0", "[-1000] [-999] -999 [-998] -998 0 [998] 998 [999] 999 [1000]", []int{1, 1, 0}},
		"center, the limits":                    {edges, center(1, 0), spans(-1000, -998, 998, 1000, -999, 999), "0 at 0 in 0..5 swaps 1, 0 at 1 in 2..5 swaps 0, 0 at -999 in 0..2 swaps 0, 0 at -998 in 0..2 swaps 1, 0 at -1000 in 0..0 swaps 0, 1 at 998 in 3..5 swaps 0, 1 at 999 in 3..5 swaps 0, 1 at 1000 in 4..5 swaps 0", "[-1000] [-999] -999 [-998] -998 [0] 0 [1] [998] 998 [999] 999 [1000]", []int{2, 0, 0}},
		"random, the limits":                    {edges, random(1, 3), spans(-1000, -998, 998, 1000, -999, 999), "0 at -998 in 0..5 swaps 1, 0 at -997 in 1..5 swaps 1, 0 at -1000 in 0..1 swaps 0, 1 at 999 in 2..5 swaps 0, 1 at 1000 in 4..5 swaps 0, 1 at 0 in 2..4 swaps 0, 1 at 1 in 2..4 swaps 0, 1 at 998 in 3..4 swaps 0, 2 at -999 in 0..1 swaps 0", "[-1000] [-999] -999 [-998] -998 [-997] [0] 0 [1] [998] 998 [999] 999 [1000]", []int{2, 0, 0}},
		"plain, ascending":                      {ten, plain(3, 0), spans(0, 2, 2, 4, 4, 6, 6, 8, 8, 10), "0 at 0 in 0..10 swaps 0, 0 at 2 in 0..10 swaps 2, 1 at 4 in 2..10 swaps 2, 2 at 6 in 4..10 swaps 2, 3 at 8 in 6..10 swaps 1, 4 at 10 in 8..10 swaps 0", "[0] 0 1 [2] 2 3 [4] 4 5 [6] 7 6 [8] 8 9 [10]", []int{2, 2, 2, 1, 0}},
		"plain, descending":                     {ten, plain(3, 0), spans(8, 10, 6, 8, 4, 6, 2, 4, 0, 2), "0 at 8 in 0..10 swaps 2, 0 at 10 in 8..10 swaps 0, 1 at 6 in 0..8 swaps 1, 2 at 4 in 0..6 swaps 1, 3 at 2 in 0..4 swaps 1, 4 at 0 in 0..2 swaps 0", "[0] 1 0 [2] 3 2 [4] 4 5 [6] 7 6 [8] 8 9 [10]", []int{2, 1, 1, 1, 0}},
		"center, ascending":                     {ten, center(3, 0), spans(0, 2, 2, 4, 4, 6, 6, 8, 8, 10), "0 at 4 in 0..10 swaps 3, 0 at 5 in 4..10 swaps 1, 0 at 1 in 0..4 swaps 0, 0 at 2 in 1..4 swaps 1, 0 at 0 in 0..1 swaps 0, 2 at 7 in 5..10 swaps 2, 2 at 8 in 7..10 swaps 1, 2 at 6 in 5..7 swaps 0, 4 at 10 in 8..10 swaps 0", "[0] 0 [1] 1 [2] 2 3 [4] 4 [5] 5 [6] 6 [7] 7 [8] 8 9 [10]", []int{5, 0, 3, 0, 0}},
		"random, ascending":                     {ten, random(3, 9), spans(0, 2, 2, 4, 4, 6, 6, 8, 8, 10), "0 at 8 in 0..10 swaps 2, 0 at 9 in 8..10 swaps 0, 0 at 0 in 0..8 swaps 0, 0 at 1 in 0..8 swaps 1, 0 at 4 in 1..8 swaps 2, 0 at 5 in 4..8 swaps 1, 0 at 2 in 1..4 swaps 1, 2 at 6 in 5..8 swaps 0, 4 at 10 in 9..10 swaps 0", "[0] 0 [1] 1 [2] 2 3 [4] 4 [5] 5 [6] 7 6 [8] 8 [9] 9 [10]", []int{7, 0, 0, 0, 0}},
		"plain, from the inside":                {ten, plain(3, 0), spans(4, 6, 3, 7, 2, 8, 1, 9, 0, 10), "0 at 4 in 0..10 swaps 3, 0 at 6 in 4..10 swaps 2, 1 at 3 in 0..4 swaps 0, 1 at 7 in 6..10 swaps 1, 2 at 2 in 0..3 swaps 1, 2 at 8 in 7..10 swaps 1, 3 at 1 in 0..2 swaps 0, 3 at 9 in 8..10 swaps 0, 4 at 0 in 0..1 swaps 0, 4 at 10 in 9..10 swaps 0", "[0] 0 [1] 1 [2] 2 [3] 3 [4] 4 5 [6] 6 [7] 7 [8] 8 [9] 9 [10]", []int{5, 1, 2, 0, 0}},
		"random, a choice in each query":        {ten, random(3, 5), spans(9, 10, 5, 6, 2, 3, 0, 9), "0 at 4 in 0..10 swaps 3, 0 at 5 in 4..10 swaps 1, 0 at 6 in 5..10 swaps 1, 0 at 9 in 6..10 swaps 1, 0 at 10 in 9..10 swaps 0, 2 at 0 in 0..4 swaps 0, 2 at 1 in 0..4 swaps 0, 2 at 2 in 1..4 swaps 1, 2 at 3 in 2..4 swaps 0", "[0] 0 [1] 1 [2] 2 [3] 3 [4] 4 [5] 5 [6] 7 6 8 [9] 9 [10]", []int{6, 0, 1, 0}},
		"random, the other order":               {ten, random(3, 5), spans(2, 3, 5, 6, 9, 10, 0, 9), "0 at 4 in 0..10 swaps 3, 0 at 5 in 4..10 swaps 1, 0 at 3 in 0..4 swaps 0, 0 at 2 in 0..3 swaps 1, 1 at 6 in 5..10 swaps 1, 1 at 7 in 6..10 swaps 1, 2 at 9 in 7..10 swaps 1, 2 at 10 in 9..10 swaps 0, 3 at 0 in 0..2 swaps 0", "[0] 0 1 [2] 2 [3] 3 [4] 4 [5] 5 [6] 6 [7] 7 8 [9] 9 [10]", []int{5, 2, 1, 0}},
		"center, the second one makes no pivot": {eight, center(2, 0), spans(3, 8, 4, 7, 2, 9), "0 at 3 in 0..8 swaps 2, 0 at 4 in 3..8 swaps 1, 0 at 7 in 4..8 swaps 1, 0 at 8 in 5..8 swaps 0, 2 at 2 in 0..3 swaps 0, 2 at 9 in 6..8 swaps 0", "1 [2] 2 2 [3] 3 [4] 5 [7] 7 [8] 8 [9] 9", []int{4, 0, 0}},
		"plain, one value":                      {[]int{7}, plain(1, 0), spans(7, 8, 5, 7, 8, 9), "0 at 7 in 0..1 swaps 0, 0 at 8 in 0..1 swaps 0, 1 at 5 in 0..0 swaps 0, 2 at 9 in 1..1 swaps 0", "[5] [7] 7 [8] [9]", []int{0, 0, 0}},
		"center, two values":                    {[]int{9, 1}, center(1, 0), spans(5, 9, 1, 2), "0 at 1 in 0..2 swaps 0, 0 at 2 in 0..2 swaps 1, 0 at 5 in 1..2 swaps 0, 0 at 9 in 1..2 swaps 0", "[1] 1 [2] [5] [9] 9", []int{1, 0}},
		"center, three values":                  {[]int{6, 7, 1}, center(2, 5), spans(5, 9), "0 at 6 in 0..3 swaps 1, 0 at 7 in 1..3 swaps 1, 0 at 5 in 0..1 swaps 0, 0 at 9 in 2..3 swaps 0", "1 [5] [6] 6 [7] 7 [9]", []int{2}},
	} {
		x.check(t, name)
	}
}

// TestChargesWithoutSwaps has divisions that move nothing; PolicyPlain divides only at the ends of the ranges.
func TestChargesWithoutSwaps(t *testing.T) {
	for name, x := range map[string]ledgerExample{
		"ascending values":                     {[]int{1, 2, 3}, plain(1, 0), spans(2, 3), "0 at 2 in 0..3 swaps 0, 0 at 3 in 1..3 swaps 0", "1 [2] 2 [3] 3", []int{0}},
		"a piece that is divided already":      {[]int{1, 3, 2, 8, 9, 7}, plain(1, 0), spans(5, 5), "0 at 5 in 0..6 swaps 0", "1 3 2 [5] 8 9 7", []int{0}},
		"divided already behind a division":    {[]int{9, 1, 8, 2}, plain(1, 0), spans(5, 9), "0 at 5 in 0..4 swaps 1, 0 at 9 in 2..4 swaps 0", "2 1 [5] 8 [9] 9", []int{1}},
		"a piece of lesser values":             {[]int{3, 1, 2}, plain(1, 0), spans(9, 9), "0 at 9 in 0..3 swaps 0", "3 1 2 [9]", []int{0}},
		"a piece of greater values":            {[]int{3, 1, 2}, plain(1, 0), spans(0, 0), "0 at 0 in 0..3 swaps 0", "[0] 3 1 2", []int{0}},
		"the least value":                      {[]int{3, 1, 2}, plain(1, 0), spans(1, 1), "0 at 1 in 0..3 swaps 0", "[1] 3 1 2", []int{0}},
		"the limits":                           {[]int{3, 1, 2}, plain(1, 0), spans(-1000, 1000), "0 at -1000 in 0..3 swaps 0, 0 at 1000 in 0..3 swaps 0", "[-1000] 3 1 2 [1000]", []int{0}},
		"one element":                          {[]int{7}, plain(1, 0), spans(3, 7, 8, 8), "0 at 3 in 0..1 swaps 0, 0 at 7 in 0..1 swaps 0, 1 at 8 in 0..1 swaps 0", "[3] [7] 7 [8]", []int{0, 0}},
		"equal values":                         {repeated(3, 5), plain(1, 0), spans(5, 5), "0 at 5 in 0..3 swaps 0", "[5] 5 5 5", []int{0}},
		"around equal values":                  {repeated(3, 5), plain(1, 0), spans(4, 6), "0 at 4 in 0..3 swaps 0, 0 at 6 in 0..3 swaps 0", "[4] 5 5 5 [6]", []int{0}},
		"equal values that are divided first":  {[]int{7, 5, 7, 5}, plain(1, 0), spans(5, 6, 7, 8), "0 at 5 in 0..4 swaps 0, 0 at 6 in 0..4 swaps 1, 1 at 7 in 2..4 swaps 0, 1 at 8 in 2..4 swaps 0", "[5] 5 5 [6] [7] 7 7 [8]", []int{1, 0}},
		"no values":                            {nil, plain(1, 0), spans(3, 8), "0 at 3 in 0..0 swaps 0, 0 at 8 in 0..0 swaps 0", "[3] [8]", []int{0}},
		"an empty piece in the middle":         {[]int{2, 1, 9, 7}, plain(1, 0), spans(3, 7, 5, 5), "0 at 3 in 0..4 swaps 0, 0 at 7 in 2..4 swaps 0, 1 at 5 in 2..2 swaps 0", "2 1 [3] [5] [7] 9 7", []int{0, 0}},
		"an empty piece at the beginning":      {[]int{4, 3}, plain(1, 0), spans(3, 3, 1, 1), "0 at 3 in 0..2 swaps 0, 1 at 1 in 0..0 swaps 0", "[1] [3] 4 3", []int{0, 0}},
		"an empty piece at the end":            {[]int{4, 3}, plain(1, 0), spans(5, 5, 7, 7), "0 at 5 in 0..2 swaps 0, 1 at 7 in 2..2 swaps 0", "4 3 [5] [7]", []int{0, 0}},
		"pivots everywhere":                    {[]int{2, 1}, plain(1, 0), spans(1, 2, 3, 3, 2, 3, 1, 3), "0 at 1 in 0..2 swaps 0, 0 at 2 in 0..2 swaps 1, 1 at 3 in 1..2 swaps 0", "[1] 1 [2] 2 [3]", []int{1, 0, 0, 0}},
		"a query between two that make swaps":  {[]int{4, 3, 2, 1}, plain(1, 0), spans(2, 2, 1, 5, 3, 3), "0 at 2 in 0..4 swaps 1, 1 at 1 in 0..1 swaps 0, 1 at 5 in 1..4 swaps 0, 2 at 3 in 1..4 swaps 1", "[1] 1 [2] 2 [3] 3 4 [5]", []int{1, 0, 1}},
		"center, both divisions at the median": {[]int{1, 2, 3}, center(1, 0), spans(0, 0), "0 at 2 in 0..3 swaps 0, 0 at 3 in 1..3 swaps 0, 0 at 0 in 0..1 swaps 0", "[0] 1 [2] 2 [3] 3", []int{0}},
		"random, equal values":                 {repeated(3, 5), random(1, 0), spans(5, 6, 0, 9), "0 at 5 in 0..3 swaps 0, 0 at 6 in 0..3 swaps 0, 1 at 0 in 0..0 swaps 0, 1 at 9 in 3..3 swaps 0", "[0] [5] 5 5 5 [6] [9]", []int{0, 0}},
	} {
		x.check(t, name)
		ledger := impl.LedgerOf(x.values, x.s, x.ranges)
		for i, charge := range ledger {
			if charge.Swaps != 0 {
				continue
			}
			if text := impl.FormatCharge(charge); text != strings.Split(x.want, ", ")[i] || !strings.HasSuffix(text, " swaps 0") {
				t.Errorf("%s: FormatCharge(%v) = %q", name, charge, text)
			}
			without := slices.Delete(slices.Clone(ledger), i, i+1)
			if sum, rest := impl.TotalSwaps(ledger), impl.TotalSwaps(without); sum != rest || impl.OwnerOf(without, charge.Value) != -1 {
				t.Errorf("%s: the swaps of %s are %d, but %d without charge %d", name, ledgerText(ledger), sum, rest, i)
			}
			for _, n := range []int{-1, 1, 64} {
				l := slices.Clone(ledger)
				l[i].Swaps = n
				checkNoReplay(t, name, x.values, l)
			}
		}
	}
}

// TestDivisionsWithoutCharges asks for pivots that are there already, which is charged to nobody.
func TestDivisionsWithoutCharges(t *testing.T) {
	for _, s := range sweptSettings {
		once := checkLedger(t, eight, s, spans(3, 8))
		for _, ranges := range [][]impl.Range{spans(3, 8, 3, 8), spans(3, 8, 3, 3), spans(3, 8, 8, 8, 3, 8)} {
			if got := checkLedger(t, eight, s, ranges); !slices.Equal(got, once) {
				t.Errorf("LedgerOf(%d, %v, %v) = %s, want %s", eight, s, ranges, ledgerText(got), ledgerText(once))
			}
		}
	}
}

func TestLedgersThatAreNotValid(t *testing.T) {
	everyInvalidRun(func(name string, values []int, s impl.Settings, ranges []impl.Range) {
		if got := impl.LedgerOf(values, s, ranges); len(got) != 0 || areQueries(values, s, ranges) {
			t.Errorf("%s: LedgerOf(%d, %v, %v) = %s", name, values, s, ranges, ledgerText(got))
		}
	})
}

func TestLedgersOfTheLimits(t *testing.T) {
	for _, values := range queryValues {
		for _, ranges := range queryRanges {
			for _, s := range []impl.Settings{plain(1, 5), center(1, 0), random(2, 10006), center(64, 10006), random(64, 0)} {
				checkLedger(t, values, s, ranges)
			}
		}
	}
	for _, values := range [][]int{upTo(65), repeated(64, 999), replaced(eight, 7, 1000)} {
		for _, ranges := range [][]impl.Range{nil, spans(3, 8), pairs()[1:], pairs(), append(pairs(), span(3, 8)), append(pairs()[1:], span(8, 3))} {
			for _, s := range append([]impl.Settings{{}, center(65, 0), random(1, 10007), settings(3, 1, 0)}, sweptSettings...) {
				checkLedger(t, values, s, ranges)
			}
		}
	}
	for _, s := range validSettings {
		checkLedger(t, eight, s, spans(3, 8, 2, 5, 0, 1))
	}
}

func TestLedgersOfEverySmallColumn(t *testing.T) {
	some := []impl.Settings{plain(1, 5), center(1, 5), center(2, 5), random(1, 0), random(2, 1)}
	everyList([]int{0, 1, 2}, 4, func(values []int) {
		for _, s := range some {
			for _, ranges := range [][]impl.Range{spans(1, 2, 0, 1, 2, 3), spans(-1, 4, 1, 2), spans(2, 2, 1, 1, 1, 2)} {
				checkLedger(t, values, s, ranges)
			}
		}
	})
	everyOrder([]int{1, 3, 4, 6, 9}, func(values []int) {
		for _, s := range some {
			checkLedger(t, values, s, spans(3, 5, 1, 9, 6, 7, 0, 4))
		}
	})
}

func TestLedgersInEveryOrder(t *testing.T) {
	everyOrderOfSpans(func(l []impl.Range) {
		for _, s := range []impl.Settings{plain(1, 5), center(1, 0), center(3, 7), random(1, 0), random(2, 10006)} {
			for _, values := range [][]int{eight, repeated(5, 5), nil} {
				once := checkLedger(t, values, s, l)
				if twice := impl.LedgerOf(values, s, append(slices.Clone(l), l...)); !slices.Equal(twice, once) {
					t.Errorf("LedgerOf(%d, %v, %v) = %s, and %s if all is asked twice", values, s, l, ledgerText(once), ledgerText(twice))
				}
			}
		}
	})
}

func TestLedgersOfManyQueries(t *testing.T) {
	for _, values := range [][]int{upTo(64), downFrom(64), costly(0, 64), shuffled(), spread(64), spread(9), append(repeated(40, 0), spread(24)...), {999, -999}} {
		for _, ranges := range [][]impl.Range{pairs(), backward(pairs()), nested(), backward(nested()), slices.Repeat(spans(20, 40), 30)} {
			for _, s := range []impl.Settings{plain(1, 0), center(1, 0), center(8, 0), random(1, 5), random(8, 10006)} {
				checkLedger(t, values, s, ranges)
			}
		}
	}
}

func TestLedgersOfTheCostliestQueries(t *testing.T) {
	for _, values := range [][]int{costly(0, 64), shuffled(), downFrom(64)} {
		for _, s := range []impl.Settings{plain(1, 0), center(1, 0), center(4, 0), random(1, 5), random(4, 77)} {
			ranges := costliest(values, s)
			ledger := checkLedger(t, values, s, ranges)
			if sum := impl.TotalSwaps(ledger); sum == 0 || sum > impl.SwapBound(64, s, len(ranges)) {
				t.Errorf("TotalSwaps(%s) = %d", ledgerText(ledger), sum)
			}
			for i := range ranges {
				if impl.SwapsOf(ledger, i) == 0 {
					t.Errorf("SwapsOf(%s, %d) = 0, but this query makes swaps", ledgerText(ledger), i)
				}
			}
		}
	}
}

// documentLedger is that of the values eight, divided at 3, 8 and 4.
func documentLedger() []impl.Charge { return charges(0, 3, 0, 8, 2, 0, 8, 3, 8, 1, 1, 4, 3, 6, 0) }

func TestReplayExamples(t *testing.T) {
	divided, four := "1 2 2 [3] 3 [4] 7 5 [8] 8 9", []int{2, 1, 9, 7}
	for name, x := range map[string]struct {
		values []int
		ledger []impl.Charge
		want   string
		rows   []int
	}{
		"three charges":                   {eight, documentLedger(), divided, []int{5, 1, 3, 7, 4, 0, 6, 2}},
		"the first two of them":           {eight, documentLedger()[:2], "1 2 2 [3] 3 7 5 [8] 8 9", []int{5, 1, 3, 7, 4, 0, 6, 2}},
		"the first one of them":           {eight, documentLedger()[:1], "1 2 2 [3] 9 7 5 8 3", []int{5, 1, 3, 2, 4, 0, 6, 7}},
		"no charges":                      {eight, nil, "5 2 9 2 7 1 8 3", upTo(8)},
		"an empty list":                   {eight, []impl.Charge{}, "5 2 9 2 7 1 8 3", upTo(8)},
		"no charges and no values":        {nil, nil, "none", nil},
		"no values":                       {nil, charges(0, 3, 0, 0, 0, 0, 8, 0, 0, 0), "[3] [8]", nil},
		"another order":                   {eight, charges(0, 8, 0, 8, 1, 1, 3, 0, 6, 2, 2, 4, 3, 6, 0), divided, []int{5, 1, 3, 7, 4, 0, 6, 2}},
		"another order, another column":   {eight, charges(0, 4, 0, 8, 2, 1, 8, 4, 8, 1, 2, 3, 0, 4, 1), "2 2 1 [3] 3 [4] 7 5 [8] 8 9", []int{3, 1, 5, 7, 4, 0, 6, 2}},
		"the left piece first":            {eight, charges(0, 5, 0, 8, 2, 1, 3, 0, 4, 1, 2, 8, 4, 8, 1), "2 2 1 [3] 3 [5] 7 5 [8] 8 9", []int{3, 1, 5, 7, 4, 0, 6, 2}},
		"the right piece first":           {eight, charges(0, 5, 0, 8, 2, 2, 8, 4, 8, 1, 1, 3, 0, 4, 1), "2 2 1 [3] 3 [5] 7 5 [8] 8 9", []int{3, 1, 5, 7, 4, 0, 6, 2}},
		"another Value in the same piece": {eight, charges(0, 3, 0, 8, 2, 0, 8, 3, 8, 1, 1, 5, 3, 6, 0), "1 2 2 [3] 3 [5] 7 5 [8] 8 9", []int{5, 1, 3, 7, 4, 0, 6, 2}},
		"queries below 0":                 {eight, charges(-1, 3, 0, 8, 2, -5, 8, 3, 8, 1, math.MinInt, 4, 3, 6, 0), divided, []int{5, 1, 3, 7, 4, 0, 6, 2}},
		"queries that are too large":      {eight, charges(30, 3, 0, 8, 2, math.MaxInt, 8, 3, 8, 1, 31, 4, 3, 6, 0), divided, []int{5, 1, 3, 7, 4, 0, 6, 2}},
		"queries out of order":            {eight, charges(7, 3, 0, 8, 2, 2, 8, 3, 8, 1, 5, 4, 3, 6, 0), divided, []int{5, 1, 3, 7, 4, 0, 6, 2}},
		"the limits as Values":            {eight, charges(0, -1000, 0, 8, 0, 0, 1000, 0, 8, 0), "[-1000] 5 2 9 2 7 1 8 3 [1000]", upTo(8)},
		"the limits as Values, backward":  {eight, charges(0, 1000, 0, 8, 0, 0, -1000, 0, 8, 0), "[-1000] 5 2 9 2 7 1 8 3 [1000]", upTo(8)},
		"ends first, an empty piece":      {four, charges(0, 3, 0, 4, 0, 0, 7, 2, 4, 0, 1, 5, 2, 2, 0), "2 1 [3] [5] [7] 9 7", upTo(4)},
		"from the left, no empty piece":   {four, charges(0, 3, 0, 4, 0, 0, 5, 2, 4, 0, 1, 7, 2, 4, 0), "2 1 [3] [5] [7] 9 7", upTo(4)},
		"all elements exchanged":          {downFrom(8), charges(0, 4, 0, 8, 4), "0 1 2 3 [4] 4 5 6 7", downFrom(8)},
		"charges of a policy":             {eight, charges(0, 7, 0, 8, 2, 0, 8, 5, 8, 0, 0, 2, 0, 5, 1), "1 [2] 2 3 2 5 [7] 7 [8] 8 9", []int{5, 1, 7, 3, 0, 4, 6, 2}},
		"no charge of the right piece":    {eight, charges(0, 3, 0, 8, 2, 1, 2, 0, 3, 0), "1 [2] 2 2 [3] 9 7 5 8 3", []int{5, 1, 3, 2, 4, 0, 6, 7}},
	} {
		got, ok := checkReplay(t, x.values, x.ledger)
		if !ok || impl.FormatCracker(got) != x.want || !slices.Equal(got.Rows, x.rows) {
			t.Errorf("%s: ReplayLedger(%d, %s) = %s in the rows %d, %t, want %s in %d", name, x.values, ledgerText(x.ledger), impl.FormatCracker(got), got.Rows, ok, x.want, x.rows)
		}
	}
}

func TestReplaysThatAreNotPossible(t *testing.T) {
	for name, ledger := range map[string][]impl.Charge{
		"Value of -1001":                  charges(0, -1001, 0, 8, 0),
		"Value of 1001":                   charges(0, 1001, 0, 8, 0),
		"Value of -1001, no piece":        charges(0, -1001, 0, 0, 0),
		"Value of 1001, no piece":         charges(0, 1001, 0, 0, 0),
		"Value of 1001, the last place":   charges(0, 1001, 8, 8, 0),
		"Value of the least int":          charges(0, math.MinInt, 0, 0, 0),
		"Value of the greatest int":       charges(0, math.MaxInt, 0, 0, 0),
		"Value of -1001 at the end":       append(documentLedger(), charges(1, -1001, 0, 3, 0)...),
		"Value of 1001, no piece, at end": append(documentLedger(), charges(1, 1001, 0, 0, 0)...),
		"Value of -1001 in the middle":    slices.Insert(documentLedger(), 1, charges(1, -1001, 0, 0, 0)...),
		"a pivot, its At":                 charges(0, 3, 0, 8, 2, 1, 3, 3, 3, 0),
		"a pivot, the same charge":        charges(0, 3, 0, 8, 2, 0, 3, 0, 8, 2),
		"a pivot, its piece before":       charges(0, 3, 0, 8, 2, 1, 3, 0, 3, 0),
		"a pivot, its piece behind":       charges(0, 3, 0, 8, 2, 1, 3, 3, 8, 0),
		"a pivot, at the end":             append(documentLedger(), charges(1, 8, 6, 6, 0)...),
		"a pivot, in the middle":          slices.Insert(documentLedger(), 2, charges(1, 3, 3, 3, 0)...),
		"From too small":                  charges(0, 3, -1, 8, 2),
		"From too large":                  charges(0, 3, 1, 8, 2),
		"To too small":                    charges(0, 3, 0, 7, 2),
		"To too large":                    charges(0, 3, 0, 9, 2),
		"Swaps too small":                 charges(0, 3, 0, 8, 1),
		"Swaps too large":                 charges(0, 3, 0, 8, 3),
		"no swaps":                        charges(0, 3, 0, 8, 0),
		"swaps below 0":                   charges(0, 3, 0, 8, -2),
		"From and To exchanged":           charges(0, 3, 8, 0, 2),
		"From and To too large":           charges(0, 3, 1, 9, 2),
		"an empty piece":                  charges(0, 3, 0, 0, 2),
		"the greatest ints":               charges(0, 3, math.MaxInt, math.MaxInt, math.MaxInt),
		"the least ints":                  charges(0, 3, math.MinInt, math.MinInt, math.MinInt),
		"the zero value":                  {{}},
		"From of a later piece":           charges(0, 3, 0, 8, 2, 0, 8, 0, 8, 1),
		"To of an earlier piece":          charges(0, 3, 0, 8, 2, 0, 8, 3, 8, 1, 1, 4, 3, 8, 0),
		"the last one first":              charges(1, 4, 3, 6, 0, 0, 3, 0, 8, 2, 0, 8, 3, 8, 1),
		"the first one last":              charges(0, 8, 3, 8, 1, 1, 4, 3, 6, 0, 0, 3, 0, 8, 2),
		"the last two exchanged":          charges(0, 3, 0, 8, 2, 1, 4, 3, 6, 0, 0, 8, 3, 8, 1),
		"the first two exchanged":         charges(0, 8, 3, 8, 1, 0, 3, 0, 8, 2, 1, 4, 3, 6, 0),
		"the first one is left out":       documentLedger()[1:],
		"the second one is left out":      slices.Delete(documentLedger(), 1, 2),
		"everything twice":                append(documentLedger(), documentLedger()...),
		"another Value in the first one":  charges(0, 4, 0, 8, 2, 0, 8, 3, 8, 1),
	} {
		checkNoReplay(t, name, eight, ledger)
	}
	for name, values := range noQueryValues {
		for _, ledger := range [][]impl.Charge{nil, charges(0, 1000, 0, len(values), 0), charges(0, -1000, 0, len(values), 0), charges(0, 3, 0, 0, 0)} {
			checkNoReplay(t, name, values, ledger)
		}
	}
	checkNoReplay(t, "a column with other values", []int{5, 2, 9, 2, 7, 8, 1, 3}, documentLedger())
	checkNoReplay(t, "a column with more values", append(slices.Clone(eight), 5), documentLedger())
	checkNoReplay(t, "a column without values", nil, documentLedger())
}

// TestReplaysOfEverySmallLedger has charges with all fields that can be right in so small columns, and some that cannot.
func TestReplaysOfEverySmallLedger(t *testing.T) {
	var all []impl.Charge
	for v := range 4 {
		for from := range 3 {
			for to := range 3 {
				for n := range 3 {
					all = append(all, charges(v-1, v, from, to, n-1)...)
				}
			}
		}
	}
	everyList([]int{0, 1, 2}, 2, func(values []int) {
		possible := 0
		everyList(upTo(len(all)), 2, func(places []int) {
			var ledger []impl.Charge
			for _, i := range places {
				ledger = append(ledger, all[i])
			}
			if _, ok := checkReplay(t, values, ledger); ok {
				possible++
			}
		})
		// Of the four Values, each one can stand alone, and each other one behind it.
		if possible != 1+4+4*3 {
			t.Errorf("%d ledgers of %d are possible", possible, values)
		}
	})
}

// TestReplaysWithEveryPivot divides at every value that is allowed.
func TestReplaysWithEveryPivot(t *testing.T) {
	for _, values := range [][]int{nil, {3, -2, 5}} {
		var ledger []impl.Charge
		c := withoutNil(cracked(values))
		for v := -1000; v <= 1000; v++ {
			next, charge := chargeOf(c, v, v)
			c, ledger = next, append(ledger, charge)
		}
		got, ok := impl.ReplayLedger(values, ledger)
		if !ok || !impl.EqualCrackers(got, c) || len(got.Pivots) != 2001 {
			t.Errorf("ReplayLedger of %d values and %d charges has %d pivots, %t", len(values), len(ledger), len(got.Pivots), ok)
		}
		checkNoReplay(t, "a charge more", values, append(ledger, charges(0, 3, 0, len(values), 0)...))
	}
}

// fieldsOf returns the fields of a charge, with their names.
func fieldsOf(x *impl.Charge) map[string]*int {
	return map[string]*int{"Query": &x.Query, "Value": &x.Value, "From": &x.From, "To": &x.To, "Swaps": &x.Swaps}
}

// checkChanged changes one field of one charge at a time.
func checkChanged(t *testing.T, values []int, ledger []impl.Charge) {
	t.Helper()
	want, _ := impl.ReplayLedger(values, ledger)
	for i, x := range ledger {
		for name, field := range fieldsOf(&x) {
			old := *field
			for _, n := range []int{old - 1, old + 1, old + 2, -old, old / 2, -1, 0, 1, 65, -1001, 1001, math.MinInt, math.MaxInt} {
				*field = n
				if n != old {
					checkChange(t, name, values, replacedCharge(ledger, i, x), want)
				}
			}
			*field = old
		}
	}
}

func replacedCharge(ledger []impl.Charge, i int, x impl.Charge) []impl.Charge {
	l := slices.Clone(ledger)
	l[i] = x
	return l
}

// checkChange asks for what a ledger with another field may still do: with another query, everything; with another Value, at most lead to another column.
func checkChange(t *testing.T, field string, values []int, ledger []impl.Charge, before impl.Cracker) {
	t.Helper()
	switch got, ok := checkReplay(t, values, ledger); field {
	case "Query":
		if !ok || !impl.EqualCrackers(got, before) {
			t.Errorf("with another query, ReplayLedger(%d, %s) = %v, %t", values, ledgerText(ledger), got, ok)
		}
	case "Value":
		if ok && (impl.EqualCrackers(got, before) || slices.Equal(got.Pivots, before.Pivots)) {
			t.Errorf("with another Value, ReplayLedger(%d, %s) = %v, as before", values, ledgerText(ledger), got)
		}
	default:
		if ok || !impl.EqualCrackers(got, impl.Cracker{}) {
			t.Errorf("with another %s, ReplayLedger(%d, %s) = %v, %t", field, values, ledgerText(ledger), got, ok)
		}
	}
}

func TestChangedLedgers(t *testing.T) {
	checkChanged(t, eight, documentLedger())
	for _, s := range sweptSettings {
		for _, values := range [][]int{eight, costly(0, 16), repeated(5, 5), {2, 1}, {7}, nil} {
			for _, ranges := range [][]impl.Range{spans(3, 8, 2, 5, 0, 9), spans(5, 6, 4, 5, 6, 7), spans(-1000, 1000, 4, 4)} {
				checkChanged(t, values, impl.LedgerOf(values, s, ranges))
			}
		}
	}
	checkChanged(t, shuffled(), impl.LedgerOf(shuffled(), center(8, 0), spans(20, 40, 10, 12)))
	checkChanged(t, costly(0, 64), impl.LedgerOf(costly(0, 64), random(16, 5), spans(20, 40, 10, 12)))
}

// TestChangedValuesThatCanBeReplayed has ledgers with another Value whose piece and swaps happen to be the same: the document does not refuse them, but the column is another one.
func TestChangedValuesThatCanBeReplayed(t *testing.T) {
	for _, x := range []struct {
		values []int
		ledger []impl.Charge
		other  []impl.Charge
		want   string
	}{
		{[]int{5}, charges(0, 3, 0, 1, 0), charges(0, 4, 0, 1, 0), "[4] 5"},
		{[]int{9, 1}, charges(0, 5, 0, 2, 1), charges(0, 6, 0, 2, 1), "1 [6] 9"},
		{eight, documentLedger(), append(documentLedger()[:2], charges(1, 5, 3, 6, 0)...), "1 2 2 [3] 3 [5] 7 5 [8] 8 9"},
	} {
		before, _ := impl.ReplayLedger(x.values, x.ledger)
		got, ok := checkReplay(t, x.values, x.other)
		if !ok || impl.FormatCracker(got) != x.want || impl.EqualCrackers(got, before) {
			t.Errorf("ReplayLedger(%d, %s) = %s, %t, want %s", x.values, ledgerText(x.other), impl.FormatCracker(got), ok, x.want)
		}
	}
}

// TestLedgersWithOtherCharges leaves out charges, repeats them and exchanges them.
func TestLedgersWithOtherCharges(t *testing.T) {
	for _, s := range sweptSettings {
		for _, values := range [][]int{eight, shuffled(), repeated(5, 5), nil} {
			ledger := impl.LedgerOf(values, s, spans(20, 40, 3, 8, 4, 5))
			whole, _ := impl.ReplayLedger(values, ledger)
			for i, x := range ledger {
				without, ok := checkReplay(t, values, slices.Delete(slices.Clone(ledger), i, i+1))
				if ok && len(without.Pivots) != len(whole.Pivots)-1 {
					t.Errorf("without charge %d, %s leads to %v", i, ledgerText(ledger), without)
				}
				for j := range ledger {
					exchanged := slices.Clone(ledger)
					exchanged[i], exchanged[j] = exchanged[j], exchanged[i]
					if got, ok := checkReplay(t, values, exchanged); ok && !slices.Equal(got.Pivots, whole.Pivots) {
						t.Errorf("with the charges %d and %d exchanged, %s leads to %v", i, j, ledgerText(ledger), got)
					}
					if j >= i {
						checkNoReplay(t, "a charge twice", values, slices.Insert(slices.Clone(ledger), j+1, x))
					}
				}
			}
			for i := range ledger {
				x, ok := checkReplay(t, values, ledger[:i])
				if !ok || len(x.Pivots) != i {
					t.Errorf("the first %d charges of %s lead to %v, %t", i, ledgerText(ledger), x, ok)
				}
			}
		}
	}
}

func TestSumExamples(t *testing.T) {
	several := charges(0, 3, 0, 8, 2, 4, 8, 3, 8, 1, 0, 4, 3, 6, 5, 2, 4, 0, 0, 0, 4, -7, 0, 1, 10)
	odd := charges(-1, 0, 9, 3, -5, -1, 5000, -1, -1, 7, math.MinInt, math.MaxInt, 0, 0, 100, math.MaxInt, math.MinInt, 0, 0, -100, 31, -1, 0, 0, 65)
	ends := charges(0, 1, 0, 0, math.MaxInt, 1, 2, 0, 0, math.MinInt, 0, 3, 0, 0, -1, 1, 4, 0, 0, 1)
	for name, x := range map[string]struct {
		ledger []impl.Charge
		total  int
		swaps  map[int]int
		owners map[int]int
	}{
		"no charges":                             {nil, 0, map[int]int{-1: 0, 0: 0, 1: 0, 29: 0, math.MinInt: 0, math.MaxInt: 0}, map[int]int{-1000: -1, -1: -1, 0: -1, 1: -1, 1000: -1, math.MinInt: -1, math.MaxInt: -1}},
		"an empty list":                          {[]impl.Charge{}, 0, map[int]int{-1: 0, 0: 0, 1: 0}, map[int]int{-1: -1, 0: -1, 1: -1}},
		"one charge":                             {charges(7, 5, 0, 8, 3), 3, map[int]int{7: 3, 0: 0, 5: 0, 8: 0, 3: 0, -7: 0, 6: 0}, map[int]int{5: 7, 0: -1, 7: -1, 8: -1, 3: -1, -5: -1, 4: -1, 6: -1}},
		"the zero value":                         {charges(0, 0, 0, 0, 0), 0, map[int]int{0: 0, 1: 0, -1: 0}, map[int]int{0: 0, 1: -1, -1: -1}},
		"no swaps":                               {charges(2, 5, 0, 8, 0), 0, map[int]int{2: 0, 0: 0}, map[int]int{5: 2, 0: -1}},
		"the document's":                         {documentLedger(), 3, map[int]int{0: 3, 1: 0, 2: 0, -1: 0}, map[int]int{3: 0, 8: 0, 4: 1, 5: -1, 0: -1, 2: -1, 6: -1}},
		"several of one query, and of one Value": {several, 18, map[int]int{0: 7, 4: 11, 2: 0, 1: 0, 3: 0, 5: 0, -1: 0}, map[int]int{3: 0, 8: 4, 4: 0, -7: 4, 7: -1, 0: -1, 5: -1}},
		"backward":                               {backwardCharges(several), 18, map[int]int{0: 7, 4: 11, 2: 0, 1: 0}, map[int]int{3: 0, 8: 4, 4: 2, -7: 4}},
		"charges that are not valid":             {odd, 67, map[int]int{-1: 2, math.MinInt: 100, math.MaxInt: -100, 31: 65, 0: 0}, map[int]int{0: -1, 5000: -1, math.MaxInt: math.MinInt, math.MinInt: math.MaxInt, -1: 31, 5: -1}},
		"the least and the greatest int":         {ends, -1, map[int]int{0: math.MaxInt - 1, 1: math.MinInt + 1, 2: 0}, map[int]int{1: 0, 2: 1, 3: 0, 4: 1, 5: -1}},
		"the same charge three times":            {charges(1, 2, 0, 4, 2, 1, 2, 0, 4, 2, 1, 2, 0, 4, 2), 6, map[int]int{1: 6, 2: 0, 0: 0}, map[int]int{2: 1, 1: -1}},
	} {
		if got := impl.TotalSwaps(x.ledger); got != x.total || got != totalSwaps(x.ledger) {
			t.Errorf("%s: TotalSwaps(%s) = %d, want %d", name, ledgerText(x.ledger), got, x.total)
		}
		for query, want := range x.swaps {
			if got := impl.SwapsOf(x.ledger, query); got != want || got != swapsOf(x.ledger, query) {
				t.Errorf("%s: SwapsOf(%s, %d) = %d, want %d", name, ledgerText(x.ledger), query, got, want)
			}
		}
		for value, want := range x.owners {
			if got := impl.OwnerOf(x.ledger, value); got != want || got != ownerOf(x.ledger, value) {
				t.Errorf("%s: OwnerOf(%s, %d) = %d, want %d", name, ledgerText(x.ledger), value, got, want)
			}
		}
	}
}

func backwardCharges(l []impl.Charge) []impl.Charge {
	l = slices.Clone(l)
	slices.Reverse(l)
	return l
}

// TestSumsOfAllLedgers has lists of charges that no queries lead to.
func TestSumsOfAllLedgers(t *testing.T) {
	all := charges(0, 1, 0, 2, 3, 1, 1, 5, 4, -2, 1, -1, 0, 0, 0, -1, 0, 7, 7, 10, 2, 2, 2, 2, 2)
	everyList(upTo(len(all)), 5, func(places []int) {
		var ledger []impl.Charge
		for _, i := range places {
			ledger = append(ledger, all[i])
		}
		sum := 0
		for query := -2; query <= 3; query++ {
			swaps := impl.SwapsOf(ledger, query)
			sum += swaps
			if want := swapsOf(ledger, query); swaps != want {
				t.Errorf("SwapsOf(%s, %d) = %d, want %d", ledgerText(ledger), query, swaps, want)
			}
			if got, want := impl.OwnerOf(ledger, query), ownerOf(ledger, query); got != want {
				t.Errorf("OwnerOf(%s, %d) = %d, want %d", ledgerText(ledger), query, got, want)
			}
		}
		// No query has another number, so each swap is charged to exactly one of them.
		if got := impl.TotalSwaps(ledger); got != sum || got != totalSwaps(ledger) {
			t.Errorf("TotalSwaps(%s) = %d, but those of all queries are %d", ledgerText(ledger), got, sum)
		}
	})
	long := slices.Repeat(all, 20000)
	if impl.TotalSwaps(long) != 13*20000 || impl.SwapsOf(long, 1) != -2*20000 || impl.OwnerOf(long, 7) != -1 {
		t.Errorf("the sums of %d charges are %d and %d", len(long), impl.TotalSwaps(long), impl.SwapsOf(long, 1))
	}
}

func TestFormatChargeExamples(t *testing.T) {
	for _, x := range []struct {
		charge []impl.Charge
		want   string
	}{
		{charges(0, 3, 0, 8, 2), "0 at 3 in 0..8 swaps 2"},
		{charges(0, 0, 0, 0, 0), "0 at 0 in 0..0 swaps 0"},
		{charges(12, -345, 6, 42, 18), "12 at -345 in 6..42 swaps 18"},
		// the query
		{charges(-1, 3, 0, 8, 2), ""}, {charges(1, 3, 0, 8, 2), "1 at 3 in 0..8 swaps 2"}, {charges(29, 3, 0, 8, 2), "29 at 3 in 0..8 swaps 2"},
		{charges(30, 3, 0, 8, 2), ""}, {charges(31, 3, 0, 8, 2), ""}, {charges(math.MinInt, 3, 0, 8, 2), ""}, {charges(math.MaxInt, 3, 0, 8, 2), ""},
		// Value
		{charges(0, -1001, 0, 8, 2), ""}, {charges(0, -1000, 0, 8, 2), "0 at -1000 in 0..8 swaps 2"}, {charges(0, -999, 0, 8, 2), "0 at -999 in 0..8 swaps 2"},
		{charges(0, 999, 0, 8, 2), "0 at 999 in 0..8 swaps 2"}, {charges(0, 1000, 0, 8, 2), "0 at 1000 in 0..8 swaps 2"}, {charges(0, 1001, 0, 8, 2), ""},
		{charges(0, math.MinInt, 0, 8, 2), ""}, {charges(0, math.MaxInt, 0, 8, 2), ""}, {charges(0, -1, 0, 8, 2), "0 at -1 in 0..8 swaps 2"},
		// Swaps
		{charges(0, 3, 0, 8, -1), ""}, {charges(0, 3, 0, 8, 0), "0 at 3 in 0..8 swaps 0"}, {charges(0, 3, 0, 8, 1), "0 at 3 in 0..8 swaps 1"},
		{charges(0, 3, 0, 8, 9), "0 at 3 in 0..8 swaps 9"}, {charges(0, 3, 0, 8, 64), "0 at 3 in 0..8 swaps 64"}, {charges(0, 3, 0, 8, 65), ""},
		{charges(0, 3, 0, 8, math.MinInt), ""}, {charges(0, 3, 0, 8, math.MaxInt), ""}, {charges(0, 3, 5, 5, 64), "0 at 3 in 5..5 swaps 64"},
		// From and To
		{charges(0, 3, -1, 8, 2), ""}, {charges(0, 3, -1, -1, 2), ""}, {charges(0, 3, -2, -1, 2), ""}, {charges(0, 3, 0, -1, 2), ""}, {charges(0, 3, -8, 0, 2), ""},
		{charges(0, 3, 8, 7, 2), ""}, {charges(0, 3, 8, 8, 2), "0 at 3 in 8..8 swaps 2"}, {charges(0, 3, 8, 9, 2), "0 at 3 in 8..9 swaps 2"}, {charges(0, 3, 8, 0, 2), ""},
		{charges(0, 3, 0, 63, 2), "0 at 3 in 0..63 swaps 2"}, {charges(0, 3, 0, 64, 2), "0 at 3 in 0..64 swaps 2"}, {charges(0, 3, 0, 65, 2), ""},
		{charges(0, 3, 64, 64, 2), "0 at 3 in 64..64 swaps 2"}, {charges(0, 3, 63, 64, 2), "0 at 3 in 63..64 swaps 2"}, {charges(0, 3, 64, 65, 2), ""}, {charges(0, 3, 65, 65, 2), ""},
		{charges(0, 3, 65, 64, 2), ""}, {charges(0, 3, 64, 63, 2), ""}, {charges(0, 3, math.MinInt, 8, 2), ""}, {charges(0, 3, 0, math.MaxInt, 2), ""},
		{charges(0, 3, math.MinInt, math.MaxInt, 2), ""}, {charges(0, 3, math.MaxInt, math.MinInt, 2), ""}, {charges(0, 3, math.MaxInt, math.MaxInt, 2), ""},
		// all limits at once
		{charges(29, 1000, 64, 64, 64), "29 at 1000 in 64..64 swaps 64"}, {charges(0, -1000, 0, 64, 0), "0 at -1000 in 0..64 swaps 0"},
		{charges(30, 1001, 65, 65, 65), ""}, {charges(-1, -1001, -1, -1, -1), ""},
	} {
		if got := impl.FormatCharge(x.charge[0]); got != x.want || got != formatCharge(x.charge[0]) {
			t.Errorf("FormatCharge(%v) = %q, want %q", x.charge[0], got, x.want)
		}
	}
}

func TestFormatChargeOfAllLimits(t *testing.T) {
	check := func(x impl.Charge) {
		if got, want := impl.FormatCharge(x), formatCharge(x); got != want {
			t.Errorf("FormatCharge(%v) = %q, want %q", x, got, want)
		}
	}
	for _, query := range []int{math.MinInt, -1, 0, 1, 9, 10, 28, 29, 30, 64, math.MaxInt} {
		for _, v := range []int{math.MinInt, -1001, -1000, -1, 0, 7, 999, 1000, 1001, math.MaxInt} {
			for _, from := range []int{math.MinInt, -1, 0, 1, 29, 63, 64, 65, math.MaxInt} {
				for _, to := range []int{math.MinInt, -1, 0, 1, 30, 63, 64, 65, math.MaxInt} {
					for _, n := range []int{math.MinInt, -1, 0, 1, 10, 63, 64, 65, math.MaxInt} {
						check(charges(query, v, from, to, n)[0])
					}
				}
			}
		}
	}
	for a := -3; a <= 70; a++ {
		for b := -3; b <= 70; b++ {
			check(charges(a, 3, a, b, b)[0])
			check(charges(3, 3, a, b, 2)[0])
			check(charges(a, b, 0, 8, 2)[0])
			check(charges(3, a, 0, 8, b)[0])
		}
	}
	for _, v := range bounds {
		check(charges(29, v, 0, 64, 0)[0])
	}
	for v := -1100; v <= 1100; v++ {
		check(charges(5, v, 3, 9, 4)[0])
	}
}

// TestLedgersKeepNoState asks for the same ledgers between others.
func TestLedgersKeepNoState(t *testing.T) {
	var first [][]impl.Charge
	for round := range 3 {
		for i, s := range sweptSettings {
			ledger := impl.LedgerOf(spread(64), s, nested())
			if round == 0 {
				first = append(first, ledger)
			}
			if !slices.Equal(ledger, first[i]) {
				t.Errorf("in round %d, the ledger of %v is %s, but it was %s", round, s, ledgerText(ledger), ledgerText(first[i]))
			}
			impl.LedgerOf(eight, random(1, i), spans(3, 8, 1, 2))
			impl.LedgerOf(eight, s, spans(8, 3))
			impl.ReplayLedger(eight, ledger)
			impl.ReplayLedger(spread(64), ledger[:i])
			impl.SwapsOf(ledger, round)
			impl.OwnerOf(ledger, i)
		}
	}
}

// charged performs the functions of chapter 9 that have values, successfully and not, and returns what they answer, the charges as lists of their fields.
func charged(c impl.Cracker) ([]impl.Cracker, [][]int) {
	var columns []impl.Cracker
	var lists [][]int
	for _, s := range append([]impl.Settings{{}, center(65, 5)}, sweptSettings...) {
		for _, ranges := range [][]impl.Range{nil, spans(0, 5, 4, 4, -1000, 1000), spans(0, 5, 8, 3)} {
			for _, values := range [][]int{c.Values, c.Rows} {
				ledger := impl.LedgerOf(values, s, ranges)
				x, _ := impl.ReplayLedger(values, ledger)
				y, _ := impl.ReplayLedger(values, charges(0, 3, 0, len(values)+1, 0))
				columns = append(columns, x, y)
				for _, x := range ledger {
					lists = append(lists, []int{x.Query, x.Value, x.From, x.To, x.Swaps})
				}
			}
		}
	}
	return columns, lists
}

func TestLedgerArgumentsStay(t *testing.T) { checkArgumentsStay(t, charged) }

func TestReplayedColumnsAreNewMemory(t *testing.T) { checkNewMemory(t, charged) }

// chargesWithSpare returns a copy of a ledger with marked capacity behind it.
func chargesWithSpare(l []impl.Charge) []impl.Charge {
	long := append(slices.Clone(l), charges(777, 888, 555, 444, 333, 1, 4, 3, 6, 0)...)
	return long[:len(l)]
}

// fillCharges overwrites a ledger, up to its capacity.
func fillCharges(l []impl.Charge) {
	l = l[:cap(l)]
	for i := range l {
		l[i] = charges(987, 654, 321, 123, 456)[0]
	}
}

// TestChargesStay gives ledgers and ranges with marked capacity behind them, and overwrites all answers.
func TestChargesStay(t *testing.T) {
	for _, s := range append([]impl.Settings{{}}, sweptSettings...) {
		for _, list := range [][]impl.Range{nil, spans(3, 8), spans(5, 8, 3, 4, 5, 8), spans(0, 5, 8, 3), pairs(), nested()} {
			long := append(slices.Clone(list), spans(777, 888, 555, 444)...)
			ranges := long[:len(list)]
			before := slices.Clone(long)
			ledger := impl.LedgerOf(eight, s, ranges)
			given := chargesWithSpare(ledger)
			all := slices.Clone(given[:cap(given)])
			for _, values := range [][]int{eight, {1, 2}, upTo(65)} {
				c, _ := impl.ReplayLedger(values, given)
				fillColumn(c)
			}
			impl.TotalSwaps(given)
			for n := range 9 {
				impl.SwapsOf(given, n)
				impl.OwnerOf(given, n)
			}
			fillCharges(ledger)
			if !slices.Equal(given[:cap(given)], all) {
				t.Errorf("the ledger has become %s, it was %s", ledgerText(given[:cap(given)]), ledgerText(all))
			}
			if !slices.Equal(long, before) {
				t.Errorf("the ranges have become %v, they were %v", long, before)
			}
		}
	}
	if !slices.Equal(eight, []int{5, 2, 9, 2, 7, 1, 8, 3}) {
		t.Errorf("the values have become %d", eight)
	}
}

// TestLedgersAreNewMemory overwrites arguments and other answers.
func TestLedgersAreNewMemory(t *testing.T) {
	for _, s := range sweptSettings {
		for _, list := range [][]int{eight, spread(64), {7}, nil} {
			values, ranges := spare(list), spans(-1000, 1000, 0, 5, 4, 4, 3, 8)
			want := impl.LedgerOf(list, s, ranges)
			wantColumn, _ := impl.ReplayLedger(list, want)
			first, second := impl.LedgerOf(values, s, ranges), impl.LedgerOf(values, s, ranges)
			given := slices.Clone(want)
			one, _ := impl.ReplayLedger(values, given)
			two, _ := impl.ReplayLedger(values, given)
			fill(values, 123)
			fillCharges(first)
			fillCharges(given)
			fillColumn(one)
			ranges[0], ranges[3] = span(1, 2), span(5, 6)
			if !slices.Equal(second, want) || !impl.EqualCrackers(two, wantColumn) {
				t.Errorf("after a change of the arguments and of other answers, the ledger is %s and the column %v", ledgerText(second), two)
			}
			fill(two.Values, 123)
			if !slices.Equal(two.Rows, wantColumn.Rows) || !reflect.DeepEqual(withoutNil(two).Pivots, withoutNil(wantColumn).Pivots) {
				t.Errorf("after a change of the values, the column is %v, want %v", two, wantColumn)
			}
		}
	}
}
