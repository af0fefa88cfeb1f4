package tests

import (
	"math"
	"reflect"
	"slices"
	"testing"

	"loop.example/g01984/impl"
)

// Promise 7: updates that are merged gradually never change an answer.

// items is short for a list of items: a value, its row, the next value, its row and so on.
func items(numbers ...int) []impl.Item {
	var l []impl.Item
	for i := 0; i < len(numbers); i += 2 {
		l = append(l, item(numbers[i], numbers[i+1]))
	}
	return l
}

// manyItems returns n items with values from all over the valid numbers, in the rows from 500 on.
func manyItems(n int) []impl.Item {
	var l []impl.Item
	for i, v := range spread(n) {
		l = append(l, item(v, 500+i))
	}
	return l
}

func updates(inserts []impl.Item, deletes ...int) impl.Pending {
	return impl.Pending{Inserts: inserts, Deletes: deletes}
}

func sameUpdates(a, b impl.Pending) bool {
	return slices.Equal(a.Inserts, b.Inserts) && slices.Equal(a.Deletes, b.Deletes)
}

func contains(r impl.Range, v int) bool { return isSpan(r) && r.From <= v && v < r.To }

// valueOf returns the value of the element with this row, which has to be there.
func valueOf(c impl.Cracker, row int) int { return c.Values[slices.Index(c.Rows, row)] }

// isPending has a condition for each one of the document.
func isPending(c impl.Cracker, p impl.Pending) bool {
	if !isColumn(c) || len(p.Inserts) > 20 || len(p.Deletes) > 20 || len(c.Values)+len(p.Inserts) > 64 {
		return false
	}
	for i, x := range p.Inserts {
		if !isItem(x) || slices.Contains(c.Rows, x.Row) {
			return false
		}
		for _, y := range p.Inserts[:i] {
			if x.Row == y.Row {
				return false
			}
		}
	}
	for i, row := range p.Deletes {
		if !slices.Contains(c.Rows, row) || slices.Contains(p.Deletes[:i], row) {
			return false
		}
	}
	return true
}

func addInsert(c impl.Cracker, p impl.Pending, x impl.Item) (impl.Pending, bool) {
	longer := updates(append(slices.Clone(p.Inserts), x), p.Deletes...)
	if !isPending(c, p) || !isPending(c, longer) {
		return p, false
	}
	return longer, true
}

func addDelete(c impl.Cracker, p impl.Pending, row int) (impl.Pending, bool) {
	i := 0
	for i < len(p.Inserts) && p.Inserts[i].Row != row {
		i++
	}
	next := updates(p.Inserts, append(slices.Clone(p.Deletes), row)...)
	if i < len(p.Inserts) {
		next = updates(append(slices.Clone(p.Inserts[:i]), p.Inserts[i+1:]...), p.Deletes...)
	}
	if !isPending(c, p) || !isPending(c, next) {
		return p, false
	}
	return next, true
}

// due parts the updates into those of a range and those that are left, before anything is moved.
func due(c impl.Cracker, p impl.Pending, r impl.Range) (inside, left impl.Pending) {
	for _, row := range p.Deletes {
		if contains(r, valueOf(c, row)) {
			inside.Deletes = append(inside.Deletes, row)
		} else {
			left.Deletes = append(left.Deletes, row)
		}
	}
	for _, x := range p.Inserts {
		if contains(r, x.Value) {
			inside.Inserts = append(inside.Inserts, x)
		} else {
			left.Inserts = append(left.Inserts, x)
		}
	}
	return inside, left
}

// mergeRange performs the updates of the range with the readers of chapter 10.
func mergeRange(c impl.Cracker, p impl.Pending, r impl.Range) (impl.Cracker, impl.Pending, int) {
	if !isPending(c, p) || !isSpan(r) {
		return withoutNil(c), p, 0
	}
	inside, left := due(c, p, r)
	moved := 0
	for _, row := range inside.Deletes {
		next, n, _ := deleteRow(c, row)
		c, moved = next, moved+n
	}
	for _, x := range inside.Inserts {
		next, n, _ := insertItem(c, x)
		c, moved = next, moved+n
	}
	return c, left, moved
}

// liveRows asks for every row whether it is live, so that nothing has to be sorted.
func liveRows(c impl.Cracker, p impl.Pending, r impl.Range) []int {
	if !isPending(c, p) {
		return nil
	}
	var rows []int
	for row := range 1000 {
		live := slices.Contains(c.Rows, row) && !slices.Contains(p.Deletes, row) && contains(r, valueOf(c, row))
		for _, x := range p.Inserts {
			live = live || x.Row == row && contains(r, x.Value)
		}
		if live {
			rows = append(rows, row)
		}
	}
	return rows
}

func checkIsPending(t *testing.T, c impl.Cracker, p impl.Pending) {
	t.Helper()
	if got := impl.IsPending(c, p); got != isPending(c, p) {
		t.Errorf("IsPending(%v, %v) = %t", c, p, got)
	}
}

func checkLiveRows(t *testing.T, c impl.Cracker, p impl.Pending, r impl.Range) {
	t.Helper()
	if got, want := impl.LiveRows(c, p, r), liveRows(c, p, r); !slices.Equal(got, want) {
		t.Errorf("LiveRows(%v, %v, %v) = %d, want %d", c, p, r, got, want)
	}
}

// fewRanges are asked for behind everything that must not change what is live.
func fewRanges(v int) []impl.Range {
	l := spans(-1000, 1000, 3, 8, -1000, 3)
	if -1000 <= v && v < 1000 {
		l = append(l, span(v, v+1), span(-1000, v), span(v, 1000))
	}
	return l
}

// sameLive asks whether what is live is the same in both, but for one row with this value that is only in the second one.
func sameLive(t *testing.T, what string, c, d impl.Cracker, p, q impl.Pending, x impl.Item) {
	t.Helper()
	for _, r := range fewRanges(x.Value) {
		want := impl.LiveRows(c, p, r)
		if contains(r, x.Value) && isItem(x) {
			want = sortNumbers(append(want, x.Row))
		}
		if got := impl.LiveRows(d, q, r); !slices.Equal(got, want) {
			t.Errorf("%s: LiveRows(%v, %v, %v) = %d, want %d", what, d, q, r, got, want)
		}
	}
}

// noItem is for sameLive where nothing may differ.
var noItem = item(2000, 2000)

// checkAddInsert compares with the function above, asks for what the promise says of an insert, and returns the updates.
func checkAddInsert(t *testing.T, c impl.Cracker, p impl.Pending, x impl.Item) impl.Pending {
	t.Helper()
	want, wantOK := addInsert(c, p, x)
	got, ok := impl.AddInsert(c, p, x)
	if !sameUpdates(got, want) || ok != wantOK {
		t.Errorf("AddInsert(%v, %v, %v) = %v, %t, want %v, %t", c, p, x, got, ok, want, wantOK)
	}
	if !ok {
		return got
	}
	if !impl.IsPending(c, got) {
		t.Errorf("AddInsert(%v, %v, %v) = %v, which is not valid", c, p, x, got)
	}
	sameLive(t, "insert", c, c, p, got, x)
	if back, backOK := impl.AddDelete(c, got, x.Row); !backOK || !sameUpdates(back, p) {
		t.Errorf("%v, with %v inserted and deleted, are %v, %t", p, x, back, backOK)
	}
	return got
}

// checkAddDelete does so for a delete.
func checkAddDelete(t *testing.T, c impl.Cracker, p impl.Pending, row int) impl.Pending {
	t.Helper()
	want, wantOK := addDelete(c, p, row)
	got, ok := impl.AddDelete(c, p, row)
	if !sameUpdates(got, want) || ok != wantOK {
		t.Errorf("AddDelete(%v, %v, %d) = %v, %t, want %v, %t", c, p, row, got, ok, want, wantOK)
	}
	if !ok {
		return got
	}
	if !impl.IsPending(c, got) {
		t.Errorf("AddDelete(%v, %v, %d) = %v, which is not valid", c, p, row, got)
	}
	for _, x := range p.Inserts {
		if x.Row == row {
			sameLive(t, "delete of an insert", c, c, got, p, x)
		}
	}
	if slices.Contains(c.Rows, row) {
		sameLive(t, "delete", c, c, got, p, item(valueOf(c, row), row))
	}
	if again, againOK := impl.AddDelete(c, got, row); againOK || !sameUpdates(again, got) {
		t.Errorf("AddDelete(%v, %v, %d), again, = %v, %t", c, got, row, again, againOK)
	}
	return got
}

// checkMerge compares with the function above, and asks for everything that the promise says; it returns the column and the updates that are left.
func checkMerge(t *testing.T, c impl.Cracker, p impl.Pending, r impl.Range) (impl.Cracker, impl.Pending) {
	t.Helper()
	want, wantLeft, wantMoved := mergeRange(c, p, r)
	got, left, moved := impl.MergeRange(c, p, r)
	if !impl.EqualCrackers(got, want) || !sameUpdates(left, wantLeft) || moved != wantMoved {
		t.Errorf("MergeRange(%v, %v, %v) = %v, %v, %d, want %v, %v, %d", c, p, r, got, left, moved, want, wantLeft, wantMoved)
	}
	if !isPending(c, p) || !isSpan(r) {
		return got, left
	}
	if !isPending(got, left) || !impl.IsPending(got, left) {
		t.Errorf("MergeRange(%v, %v, %v) = %v, %v, which are not valid", c, p, r, got, left)
		return got, left
	}
	if inside, _ := due(got, left, r); len(inside.Inserts)+len(inside.Deletes) > 0 {
		t.Errorf("behind MergeRange(%v, %v, %v), %v are pending in the range", c, p, r, inside)
	}
	sameLive(t, "merge", c, got, p, left, noItem)
	if again, againLeft, n := impl.MergeRange(got, left, r); !impl.EqualCrackers(again, got) || !sameUpdates(againLeft, left) || n != 0 {
		t.Errorf("MergeRange(%v, %v, %v), again, = %v, %v, %d", got, left, r, again, againLeft, n)
	}
	checkSteps(t, c, p, r)
	return got, left
}

// checkSteps performs the single steps with the functions of chapter 10.
func checkSteps(t *testing.T, c impl.Cracker, p impl.Pending, r impl.Range) {
	t.Helper()
	inside, _ := due(c, p, r)
	want, wantMoved, all := c, 0, true
	step := func(x impl.Cracker, n int, ok bool) { want, wantMoved, all = x, wantMoved+n, all && ok }
	for _, row := range inside.Deletes {
		step(impl.RippleDelete(want, row))
	}
	for _, x := range inside.Inserts {
		step(impl.RippleInsert(want, x))
	}
	got, _, moved := impl.MergeRange(c, p, r)
	if !all || !impl.EqualCrackers(got, want) || moved != wantMoved {
		t.Errorf("MergeRange(%v, %v, %v) = %v, after %d moves, but the single steps lead to %v, after %d", c, p, r, got, moved, want, wantMoved)
	}
}

// checkFresh compares with a merge and an answer, and with a scan of what is live; it returns the column and the updates that are left.
func checkFresh(t *testing.T, c impl.Cracker, p impl.Pending, r impl.Range) (impl.Cracker, impl.Pending) {
	t.Helper()
	checkLiveRows(t, c, p, r)
	got, left, rows := impl.SelectFresh(c, p, r)
	if !isPending(c, p) || !isSpan(r) {
		if !impl.EqualCrackers(got, c) || !sameUpdates(left, p) || len(rows) != 0 {
			t.Errorf("SelectFresh(%v, %v, %v) = %v, %v, %d", c, p, r, got, left, rows)
		}
		return got, left
	}
	merged, wantLeft, _ := mergeRange(c, p, r)
	want, _, _, _ := selectColumn(merged, r)
	if wantRows := liveRows(c, p, r); !impl.EqualCrackers(got, want) || !sameUpdates(left, wantLeft) || !slices.Equal(rows, wantRows) {
		t.Errorf("SelectFresh(%v, %v, %v) = %v, %v, %d, want %v, %v, %d", c, p, r, got, left, rows, want, wantLeft, wantRows)
	}
	if live := impl.LiveRows(c, p, r); !slices.Equal(rows, live) {
		t.Errorf("SelectFresh(%v, %v, %v) has the rows %d, but %d are live", c, p, r, rows, live)
	}
	if !isPending(got, left) || !impl.IsPending(got, left) {
		t.Errorf("SelectFresh(%v, %v, %v) = %v, %v, which are not valid", c, p, r, got, left)
		return got, left
	}
	sameLive(t, "selection", c, got, p, left, noItem)
	again, againLeft, againRows := impl.SelectFresh(got, left, r)
	if !impl.EqualCrackers(again, got) || !sameUpdates(againLeft, left) || !slices.Equal(againRows, rows) {
		t.Errorf("SelectFresh(%v, %v, %v), again, = %v, %v, %d", got, left, r, again, againLeft, againRows)
	}
	return got, left
}

func checkNoInsertAdded(t *testing.T, name string, c impl.Cracker, p impl.Pending, x impl.Item) {
	t.Helper()
	if got, ok := impl.AddInsert(c, p, x); ok || !sameUpdates(got, p) {
		t.Errorf("%s: AddInsert(%v, %v, %v) = %v, %t", name, c, p, x, got, ok)
	}
}

func checkNoDeleteAdded(t *testing.T, name string, c impl.Cracker, p impl.Pending, row int) {
	t.Helper()
	if got, ok := impl.AddDelete(c, p, row); ok || !sameUpdates(got, p) {
		t.Errorf("%s: AddDelete(%v, %v, %d) = %v, %t", name, c, p, row, got, ok)
	}
}

// checkNoMerge asks for the column and the updates unchanged, no moves and no rows.
func checkNoMerge(t *testing.T, name string, c impl.Cracker, p impl.Pending, r impl.Range) {
	t.Helper()
	if got, left, moved := impl.MergeRange(c, p, r); !impl.EqualCrackers(got, c) || !sameUpdates(left, p) || moved != 0 {
		t.Errorf("%s: MergeRange(%v, %v, %v) = %v, %v, %d", name, c, p, r, got, left, moved)
	}
	if got, left, rows := impl.SelectFresh(c, p, r); !impl.EqualCrackers(got, c) || !sameUpdates(left, p) || len(rows) != 0 {
		t.Errorf("%s: SelectFresh(%v, %v, %v) = %v, %v, %d", name, c, p, r, got, left, rows)
	}
	if rows := impl.LiveRows(c, p, r); len(rows) != 0 {
		t.Errorf("%s: LiveRows(%v, %v, %v) = %d", name, c, p, r, rows)
	}
}

// A waiting column is one with the updates that wait for it.
type waiting struct {
	c impl.Cracker
	p impl.Pending
}

// parts is the column 2 2 1 [3] 3 [5] 7 9 8 5, in the rows 3, 1, 5, 7, 4, 2, 6 and 0.
func parts() impl.Cracker { return crackedAt(eight, 5, 3) }

// mixed has inserts before, between and behind the pivots of parts, and a delete in both pieces of several elements.
func mixed() impl.Pending { return updates(items(4, 20, 6, 21, 0, 22, 9, 23), 0, 5, 2) }

func validUpdates() map[string]waiting {
	return map[string]waiting{
		"no updates":                        {parts(), updates(nil)},
		"empty lists":                       {parts(), updates([]impl.Item{}, []int{}...)},
		"no updates, no elements":           {impl.Cracker{}, updates(nil)},
		"an insert":                         {parts(), updates(items(4, 8))},
		"a delete":                          {parts(), updates(nil, 0)},
		"inserts and deletes":               {parts(), mixed()},
		"without pivots":                    {impl.NewCracker(eight), mixed()},
		"with many pivots":                  {divided(eight, upTo(11)...), mixed()},
		"inserts before deletes of a piece": {parts(), updates(items(9, 30, 8, 31, 7, 32), 4, 2, 6, 0)},
		"19 inserts":                        {parts(), updates(manyItems(19))},
		"20 inserts":                        {parts(), updates(manyItems(20))},
		"19 deletes":                        {divided(spread(64), 0), updates(nil, upTo(64)[45:]...)},
		"20 deletes":                        {divided(spread(64), 0), updates(nil, upTo(20)...)},
		"20 inserts and 20 deletes":         {divided(spread(44), -500, 0, 500), updates(manyItems(20), upTo(44)[24:]...)},
		"20 of 20 elements deleted":         {divided(spread(20), 0), updates(manyItems(20), upTo(20)...)},
		"63 values, an insert":              {divided(spread(63), 0), updates(items(4, 500))},
		"64 values, a delete":               {divided(spread(64), 0), updates(nil, 63)},
		"64 values, no updates":             {divided(spread(64), 0), updates(nil)},
		"43 values, 20 inserts":             {impl.NewCracker(spread(43)), updates(manyItems(20))},
		"no elements, 20 inserts":           {divided(nil, -1000, 0, 1000), updates(manyItems(20))},
		"no elements, an insert":            {impl.Cracker{}, updates(items(4, 0))},
		"inserts of the limits":             {inRows([]int{5, 6}, 1, 998), updates(items(-999, 999, 999, 0), 998)},
		"inserts with equal values":         {parts(), updates(items(5, 40, 5, 41, 5, 42))},
		"inserts in descending rows":        {parts(), updates(items(1, 42, 2, 41, 3, 40))},
		"an insert equal to each pivot":     {parts(), updates(items(3, 40, 5, 41))},
		"an insert equal to a deleted one":  {parts(), updates(items(5, 8), 0)},
		"a row that is a value":             {parts(), updates(items(4, 9))},
		"a delete of the row 0":             {inRows([]int{5, 6}, 999, 0), updates(nil, 0)},
		"a delete of the row 999":           {inRows([]int{5, 6}, 999, 0), updates(nil, 999)},
		"all elements deleted":              {parts(), updates(nil, 7, 6, 5, 4, 3, 2, 1, 0)},
		"all elements deleted and others":   {parts(), updates(items(2, 100, 4, 101, 6, 102), 0, 1, 2, 3, 4, 5, 6, 7)},
		"the only element deleted":          {cracked([]int{7}, 7, 0, 8, 1), updates(nil, 0)},
		"equal values, some deleted":        {divided(repeated(20, 7), 7, 8), updates(items(7, 20, 7, 21), 3, 19, 0)},
		"all pivots":                        {divided(spread(30), steps(50)...), updates(manyItems(20), 29, 0, 15)},
	}
}

// invalidUpdates are not valid for one reason only, as far as one is possible without another.
func invalidUpdates() map[string]waiting {
	twice := append(manyItems(19), item(3, 500))
	return map[string]waiting{
		"21 inserts":                             {parts(), updates(manyItems(21))},
		"21 inserts, no elements":                {impl.Cracker{}, updates(manyItems(21))},
		"40 inserts":                             {parts(), updates(manyItems(40))},
		"21 deletes":                             {divided(spread(64), 0), updates(nil, upTo(21)...)},
		"64 deletes":                             {divided(spread(64), 0), updates(nil, upTo(64)...)},
		"21 inserts and 21 deletes":              {divided(spread(40), 0), updates(manyItems(21), upTo(21)...)},
		"64 values, an insert":                   {divided(spread(64), 0), updates(items(4, 500))},
		"64 values, an insert and a delete":      {divided(spread(64), 0), updates(items(4, 500), 0)},
		"64 values, an insert and 20 deletes":    {divided(spread(64), 0), updates(items(4, 500), upTo(20)...)},
		"63 values, two inserts":                 {divided(spread(63), 0), updates(items(4, 500, 4, 501))},
		"45 values, 20 inserts":                  {divided(spread(45), 0), updates(manyItems(20))},
		"45 values, 20 inserts and 20 deletes":   {divided(spread(45), 0), updates(manyItems(20), upTo(20)...)},
		"an insert of 1000":                      {parts(), updates(items(1000, 8))},
		"an insert of -1000":                     {parts(), updates(items(-1000, 8))},
		"an insert of the greatest int":          {parts(), updates(items(math.MaxInt, 8))},
		"an insert of the least int":             {parts(), updates(items(math.MinInt, 8))},
		"an insert of 1000 among others":         {parts(), updates(items(4, 20, 1000, 8, 6, 21))},
		"an insert of 1000 at last":              {parts(), updates(items(4, 20, 1000, 8))},
		"the row -1 of an insert":                {parts(), updates(items(4, -1))},
		"the row 1000 of an insert":              {parts(), updates(items(4, 1000))},
		"the greatest int as a row":              {parts(), updates(items(4, math.MaxInt))},
		"the least int as a row":                 {parts(), updates(items(4, math.MinInt))},
		"the row -1 of a later insert":           {parts(), updates(items(4, 20, 4, -1))},
		"an insert whose row is in the column":   {parts(), updates(items(4, 3))},
		"an insert whose row is there at last":   {parts(), updates(items(4, 0))},
		"a later insert whose row is there":      {parts(), updates(items(4, 20, 9, 23, 4, 7))},
		"an insert that is in the column":        {parts(), updates(items(9, 2))},
		"a row of inserts twice":                 {parts(), updates(items(4, 20, 5, 20))},
		"an insert twice":                        {parts(), updates(items(4, 20, 4, 20))},
		"a row twice, others between":            {parts(), updates(items(4, 20, 5, 21, 6, 22, 7, 20))},
		"a row twice of 20":                      {parts(), updates(twice)},
		"a row twice, no elements":               {impl.Cracker{}, updates(items(4, 20, 5, 20))},
		"an insert of a row that is deleted":     {parts(), updates(items(4, 0), 0)},
		"an insert of an element deleted":        {parts(), updates(items(5, 0), 0)},
		"a delete of a row that is not there":    {parts(), updates(nil, 8)},
		"a later delete that is not there":       {parts(), updates(nil, 0, 1, 77)},
		"an earlier delete that is not there":    {parts(), updates(nil, 77, 0)},
		"a delete without elements":              {impl.Cracker{}, updates(nil, 0)},
		"a delete twice":                         {parts(), updates(nil, 0, 0)},
		"a delete twice, others between":         {parts(), updates(nil, 0, 1, 2, 0)},
		"the only element deleted twice":         {inRows([]int{5}, 7), updates(nil, 7, 7)},
		"a delete of a value":                    {inRows([]int{5, 6}, 1, 2), updates(nil, 5)},
		"a delete of an insert":                  {parts(), updates(items(4, 20), 20)},
		"a delete of a later insert":             {parts(), updates(items(4, 20, 5, 21), 0, 21)},
		"a delete of an insert without elements": {impl.Cracker{}, updates(items(4, 20), 20)},
		"a delete of -1":                         {parts(), updates(nil, -1)},
		"a delete of -1 at last":                 {parts(), updates(nil, 0, 1, -1)},
		"a delete of 1000":                       {parts(), updates(nil, 1000)},
		"a delete of the least int":              {parts(), updates(nil, math.MinInt)},
		"a delete of the greatest int":           {parts(), updates(nil, math.MaxInt)},
	}
}

// everyInvalidUpdate also has updates that would be valid if their column were.
func everyInvalidUpdate(visit func(name string, x waiting)) {
	for name, x := range invalidUpdates() {
		visit(name, x)
	}
	for name, c := range invalidColumns {
		visit(name, waiting{c, updates(nil)})
		visit(name, waiting{c, updates(items(4, 700))})
		if len(c.Rows) > 0 {
			visit(name, waiting{c, updates(nil, c.Rows[0])})
			visit(name, waiting{c, updates(items(4, 700), c.Rows[len(c.Rows)-1])})
		}
	}
}

func TestIsPendingExamples(t *testing.T) {
	if impl.MaxPending != 20 {
		t.Errorf("MaxPending = %d", impl.MaxPending)
	}
	for name, x := range validUpdates() {
		if !impl.IsPending(x.c, x.p) || !isPending(x.c, x.p) {
			t.Errorf("%s: IsPending(%v, %v) = false", name, x.c, x.p)
		}
	}
	everyInvalidUpdate(func(name string, x waiting) {
		if impl.IsPending(x.c, x.p) || isPending(x.c, x.p) {
			t.Errorf("%s: IsPending(%v, %v) = true", name, x.c, x.p)
		}
	})
	for name, c := range validColumns {
		if !impl.IsPending(c, impl.Pending{}) {
			t.Errorf("%s: IsPending(%v) without updates = false", name, c)
		}
		for _, row := range c.Rows {
			checkIsPending(t, c, updates(nil, row))
			checkIsPending(t, c, updates(items(4, row)))
		}
		for _, n := range bounds {
			checkIsPending(t, c, updates(nil, n))
			checkIsPending(t, c, updates(items(4, n)))
			checkIsPending(t, c, updates(items(n, 700)))
		}
	}
}

func TestIsPendingOfAllLimits(t *testing.T) {
	for _, n := range []int{0, 1, 19, 20, 21, 22, 42, 43, 44, 45, 46, 62, 63, 64, 65} {
		c := divided(spread(n), -300, 0, 300)
		for inserts := range 24 {
			for deletes := range min(n, 23) + 1 {
				checkIsPending(t, c, updates(manyItems(inserts), upTo(n)[n-deletes:]...))
			}
		}
	}
}

func TestEverySmallUpdate(t *testing.T) {
	everyList([]int{0, 1}, 2, func(values []int) {
		c := divided(values, 1)
		everyList([]int{0, 1, 2, 3, 4, 5, 6, 7}, 2, func(codes []int) {
			var inserts []impl.Item
			for _, n := range codes {
				inserts = append(inserts, item(n/4, n%4))
			}
			everyList([]int{0, 1, 2, 3}, 3, func(deletes []int) {
				p := updates(inserts, deletes...)
				checkIsPending(t, c, p)
				for row := -1; row <= 4; row++ {
					checkAddInsert(t, c, p, item(1, row))
					checkAddDelete(t, c, p, row)
				}
			})
		})
	})
}

func TestAddInsertExamples(t *testing.T) {
	for name, x := range map[string]struct {
		c    impl.Cracker
		p    impl.Pending
		x    impl.Item
		want impl.Pending
	}{
		"the first insert":                   {parts(), updates(nil), item(4, 8), updates(items(4, 8))},
		"a second insert":                    {parts(), updates(items(4, 8)), item(6, 9), updates(items(4, 8, 6, 9))},
		"with a lesser value and row":        {parts(), updates(items(4, 20)), item(-4, 10), updates(items(4, 20, -4, 10))},
		"an insert behind deletes":           {parts(), updates(nil, 0, 5), item(4, 8), updates(items(4, 8), 0, 5)},
		"an insert among others":             {parts(), mixed(), item(3, 24), updates(items(4, 20, 6, 21, 0, 22, 9, 23, 3, 24), 0, 5, 2)},
		"a value that is in the column":      {parts(), updates(nil), item(9, 8), updates(items(9, 8))},
		"a value that is pending":            {parts(), updates(items(4, 8)), item(4, 9), updates(items(4, 8, 4, 9))},
		"the least value, the greatest row":  {parts(), updates(nil), item(-999, 999), updates(items(-999, 999))},
		"the greatest value":                 {parts(), updates(nil), item(999, 8), updates(items(999, 8))},
		"the least row":                      {inRows([]int{5}, 1), updates(nil), item(7, 0), updates(items(7, 0))},
		"without elements":                   {impl.Cracker{}, updates(nil), item(7, 0), updates(items(7, 0))},
		"into empty lists":                   {parts(), updates([]impl.Item{}, []int{}...), item(7, 8), updates(items(7, 8))},
		"the 20th insert":                    {parts(), updates(manyItems(19)), item(7, 8), updates(append(manyItems(19), item(7, 8)))},
		"the 20th insert behind 20 deletes":  {divided(spread(44), 0), updates(manyItems(19), upTo(20)...), item(7, 99), updates(append(manyItems(19), item(7, 99)), upTo(20)...)},
		"the 64th with the elements":         {divided(spread(63), 0), updates(nil), item(7, 63), updates(items(7, 63))},
		"the 64th with elements and inserts": {divided(spread(60), 0), updates(manyItems(3)), item(7, 63), updates(append(manyItems(3), item(7, 63)))},
	} {
		got, ok := impl.AddInsert(x.c, x.p, x.x)
		if !ok || !sameUpdates(got, x.want) {
			t.Errorf("%s: AddInsert(%v, %v, %v) = %v, %t, want %v", name, x.c, x.p, x.x, got, ok, x.want)
		}
		checkAddInsert(t, x.c, x.p, x.x)
		if live := impl.LiveRows(x.c, got, span(x.x.Value, x.x.Value+1)); !slices.Contains(live, x.x.Row) {
			t.Errorf("%s: with %v inserted, only %d are live", name, x.x, live)
		}
	}
}

func TestInsertsThatAreNotPossible(t *testing.T) {
	good := []impl.Item{item(4, 800), item(-999, 997), item(999, 801), item(0, 802)}
	for name, x := range validUpdates() {
		for _, n := range bounds {
			if n < -999 || n > 999 {
				checkNoInsertAdded(t, name, x.c, x.p, item(n, 800))
			}
			if n < 0 || n > 999 {
				checkNoInsertAdded(t, name, x.c, x.p, item(4, n))
				checkNoInsertAdded(t, name, x.c, x.p, item(n, n))
			}
		}
		// The row is in the column, among the inserts or among the deletes.
		for _, row := range append(slices.Clone(x.c.Rows), x.p.Deletes...) {
			checkNoInsertAdded(t, name, x.c, x.p, item(4, row))
			checkNoInsertAdded(t, name, x.c, x.p, item(valueOf(x.c, row), row))
		}
		for _, y := range x.p.Inserts {
			checkNoInsertAdded(t, name, x.c, x.p, y)
			checkNoInsertAdded(t, name, x.c, x.p, item(-y.Value/2, y.Row))
		}
		for _, y := range good {
			if len(x.p.Inserts) == 20 || len(x.c.Values)+len(x.p.Inserts) == 64 {
				checkNoInsertAdded(t, name, x.c, x.p, y)
			} else if _, ok := impl.AddInsert(x.c, x.p, y); !ok {
				t.Errorf("%s: AddInsert(%v, %v, %v) = false", name, x.c, x.p, y)
			}
		}
	}
	everyInvalidUpdate(func(name string, x waiting) {
		for _, y := range append(slices.Clone(good), item(1000, 5), item(5, -1), item(0, 0), item(4, 20), item(4, 500), item(0, 3)) {
			checkNoInsertAdded(t, name, x.c, x.p, y)
		}
	})
}

func TestAddDeleteExamples(t *testing.T) {
	for name, x := range map[string]struct {
		c    impl.Cracker
		p    impl.Pending
		row  int
		want impl.Pending
	}{
		"the first delete":                {parts(), updates(nil), 0, updates(nil, 0)},
		"a second delete":                 {parts(), updates(nil, 5), 0, updates(nil, 5, 0)},
		"a delete behind inserts":         {parts(), updates(items(4, 20)), 3, updates(items(4, 20), 3)},
		"a delete among others":           {parts(), mixed(), 7, updates(items(4, 20, 6, 21, 0, 22, 9, 23), 0, 5, 2, 7)},
		"the first insert":                {parts(), mixed(), 20, updates(items(6, 21, 0, 22, 9, 23), 0, 5, 2)},
		"a middle insert":                 {parts(), mixed(), 21, updates(items(4, 20, 0, 22, 9, 23), 0, 5, 2)},
		"another middle insert":           {parts(), mixed(), 22, updates(items(4, 20, 6, 21, 9, 23), 0, 5, 2)},
		"the last insert":                 {parts(), mixed(), 23, updates(items(4, 20, 6, 21, 0, 22), 0, 5, 2)},
		"the only insert":                 {parts(), updates(items(4, 20)), 20, updates(nil)},
		"the only insert, with deletes":   {parts(), updates(items(4, 20), 0, 5), 20, updates(nil, 0, 5)},
		"the only insert, no elements":    {impl.Cracker{}, updates(items(4, 0)), 0, updates(nil)},
		"the first of two equal inserts":  {parts(), updates(items(4, 20, 4, 21)), 20, updates(items(4, 21))},
		"the last of two equal inserts":   {parts(), updates(items(4, 20, 4, 21)), 21, updates(items(4, 20))},
		"one of 20 inserts":               {parts(), updates(manyItems(20)), 519, updates(manyItems(19))},
		"an insert of the row 999":        {parts(), updates(items(4, 999)), 999, updates(nil)},
		"the row 999":                     {inRows([]int{5, 6}, 999, 0), updates(nil), 999, updates(nil, 999)},
		"the only element":                {inRows([]int{5}, 7), updates(nil), 7, updates(nil, 7)},
		"the 19th delete":                 {divided(spread(64), 0), updates(nil, upTo(18)...), 63, updates(nil, append(upTo(18), 63)...)},
		"the 20th delete":                 {divided(spread(64), 0), updates(nil, upTo(19)...), 63, updates(nil, append(upTo(19), 63)...)},
		"an insert behind 20 deletes":     {divided(spread(44), 0), updates(manyItems(20), upTo(20)...), 519, updates(manyItems(19), upTo(20)...)},
		"an element behind 20 inserts":    {divided(spread(44), 0), updates(manyItems(20)), 43, updates(manyItems(20), 43)},
		"an element with an equal insert": {parts(), updates(items(5, 20)), 0, updates(items(5, 20), 0)},
		"an insert equal to an element":   {parts(), updates(items(5, 20)), 20, updates(nil)},
	} {
		got, ok := impl.AddDelete(x.c, x.p, x.row)
		if !ok || !sameUpdates(got, x.want) {
			t.Errorf("%s: AddDelete(%v, %v, %d) = %v, %t, want %v", name, x.c, x.p, x.row, got, ok, x.want)
		}
		checkAddDelete(t, x.c, x.p, x.row)
		if live := impl.LiveRows(x.c, got, span(-1000, 1000)); slices.Contains(live, x.row) {
			t.Errorf("%s: with %d deleted, %d are live", name, x.row, live)
		}
	}
}

func TestDeletesThatAreNotPossible(t *testing.T) {
	for name, x := range validUpdates() {
		// The row is among the deletes already.
		for _, row := range x.p.Deletes {
			checkNoDeleteAdded(t, name, x.c, x.p, row)
		}
		// The row is nowhere.
		for _, row := range append([]int{-1, 64, 777, 998, 1000}, bounds...) {
			inserted := slices.ContainsFunc(x.p.Inserts, func(y impl.Item) bool { return y.Row == row })
			if !inserted && !slices.Contains(x.c.Rows, row) {
				checkNoDeleteAdded(t, name, x.c, x.p, row)
			}
		}
		for _, row := range x.c.Rows {
			if len(x.p.Deletes) == 20 {
				checkNoDeleteAdded(t, name, x.c, x.p, row)
			}
			checkAddDelete(t, x.c, x.p, row)
		}
		for _, y := range x.p.Inserts {
			checkAddDelete(t, x.c, x.p, y.Row)
		}
	}
	// The updates are not valid, and what is left may be valid or not.
	everyInvalidUpdate(func(name string, x waiting) {
		rows := append([]int{-1, 0, 1, 20, 500, 520, 700, 777, 999, 1000, math.MinInt, math.MaxInt}, x.c.Rows...)
		for _, y := range x.p.Inserts {
			rows = append(rows, y.Row)
		}
		for _, row := range append(rows, x.p.Deletes...) {
			checkNoDeleteAdded(t, name, x.c, x.p, row)
		}
	})
}

// TestDeletesThatWouldLeaveValidUpdates removes just the insert for which the updates are not valid.
func TestDeletesThatWouldLeaveValidUpdates(t *testing.T) {
	for name, x := range map[string]struct {
		waiting
		row  int
		left impl.Pending
	}{
		"the 21st insert":                 {waiting{parts(), updates(manyItems(21))}, 520, updates(manyItems(20))},
		"the first of 21 inserts":         {waiting{parts(), updates(manyItems(21))}, 500, updates(manyItems(21)[1:])},
		"the 65th with the elements":      {waiting{divided(spread(64), 0), updates(items(4, 500))}, 500, updates(nil)},
		"the 65th with all inserts":       {waiting{divided(spread(45), 0), updates(manyItems(20))}, 519, updates(manyItems(19))},
		"a value of 1000":                 {waiting{parts(), updates(items(4, 20, 1000, 21))}, 21, updates(items(4, 20))},
		"a value of -1000":                {waiting{parts(), updates(items(-1000, 20, 4, 21))}, 20, updates(items(4, 21))},
		"the row -1":                      {waiting{parts(), updates(items(4, 20, 4, -1))}, -1, updates(items(4, 20))},
		"the row 1000":                    {waiting{parts(), updates(items(4, 1000))}, 1000, updates(nil)},
		"a row that is in the column":     {waiting{parts(), updates(items(4, 20, 4, 3))}, 3, updates(items(4, 20))},
		"a row that is deleted":           {waiting{parts(), updates(items(4, 0), 0)}, 0, updates(nil, 0)},
		"a row twice":                     {waiting{parts(), updates(items(4, 20, 5, 20))}, 20, updates(items(5, 20))},
		"a row twice, both removed":       {waiting{parts(), updates(items(4, 20, 5, 20))}, 20, updates(nil)},
		"an insert twice, others between": {waiting{parts(), updates(items(4, 20, 5, 21, 4, 20))}, 20, updates(items(5, 21, 4, 20))},
	} {
		if isPending(x.c, x.p) || !isPending(x.c, x.left) || !impl.IsPending(x.c, x.left) {
			t.Errorf("%s: %v or %v", name, x.p, x.left)
		}
		checkNoDeleteAdded(t, name, x.c, x.p, x.row)
	}
}

// TestInsertsDeletedBeforeTheyAreMerged has the first, a middle, the last and the only insert, with and without merges of the others.
func TestInsertsDeletedBeforeTheyAreMerged(t *testing.T) {
	everything := span(-1000, 1000)
	for name, x := range validUpdates() {
		want, _, wantMoved := impl.MergeRange(x.c, x.p, everything)
		for i := range len(x.p.Inserts) {
			// As if the insert had never been there.
			without := updates(slices.Delete(slices.Clone(x.p.Inserts), i, i+1), x.p.Deletes...)
			y := x.p.Inserts[i]
			got := checkAddDelete(t, x.c, x.p, y.Row)
			if !sameUpdates(got, without) {
				t.Errorf("%s: without %v, %v are %v", name, y, x.p, got)
			}
			withoutColumn, _, withoutMoved := impl.MergeRange(x.c, without, everything)
			c, left, moved := impl.MergeRange(x.c, got, everything)
			if !impl.EqualCrackers(c, withoutColumn) || moved != withoutMoved || !sameUpdates(left, impl.Pending{}) || impl.FindRow(c, y.Row) >= 0 {
				t.Errorf("%s: without %v, the column is %v, %v", name, y, c, left)
			}
			// The row is free again, with this value or another; the insert comes to the end.
			for _, v := range []int{y.Value, -y.Value, 4} {
				again := checkAddInsert(t, x.c, got, item(v, y.Row))
				if !sameUpdates(again, updates(append(slices.Clone(without.Inserts), item(v, y.Row)), without.Deletes...)) {
					t.Errorf("%s: with the row %d again, %v are %v", name, y.Row, got, again)
				}
				checkFresh(t, x.c, again, everything)
			}
			checkDeletedBetween(t, name, x, y, elements(withoutColumn))
		}
		p := x.p
		for round := range 5 {
			if len(p.Inserts) < 20 && len(x.c.Values)+len(p.Inserts) < 64 {
				p = checkAddInsert(t, x.c, p, item(round*100, 900))
				p = checkAddDelete(t, x.c, p, 900)
			}
			checkNoDeleteAdded(t, name, x.c, p, 900)
		}
		if c, _, moved := impl.MergeRange(x.c, p, everything); !sameUpdates(p, x.p) || !impl.EqualCrackers(c, want) || moved != wantMoved {
			t.Errorf("%s: an insert that was deleted again and again leaves %v and %v, want %v and %v", name, p, c, x.p, want)
		}
	}
}

// checkDeletedBetween merges all other values before the insert is deleted, and then the insert, too, which leads to the same elements.
func checkDeletedBetween(t *testing.T, name string, x waiting, y impl.Item, want [][2]int) {
	t.Helper()
	c, p := checkMerge(t, x.c, x.p, span(-1000, y.Value))
	c, p = checkMerge(t, c, p, span(y.Value+1, 1000))
	if !slices.Contains(p.Inserts, y) || impl.FindRow(c, y.Row) >= 0 {
		t.Errorf("%s: behind merges of all other values, %v is not pending in %v", name, y, p)
	}
	late, lateLeft := checkMerge(t, c, p, span(y.Value, y.Value+1))
	for _, z := range []waiting{{c, p}, {late, lateLeft}} {
		left := checkAddDelete(t, z.c, z.p, y.Row)
		got, _ := checkMerge(t, z.c, left, span(-1000, 1000))
		if !slices.Equal(elements(got), want) {
			t.Errorf("%s: with %v deleted from %v, %v, the column is %v, want the elements %d", name, y, z.c, z.p, got, want)
		}
	}
}

// TestRowsAreFreeBehindMerges deletes an element, whose row can be taken only when the delete was merged.
func TestRowsAreFreeBehindMerges(t *testing.T) {
	c := parts()
	p := checkAddDelete(t, c, updates(nil), 0)
	checkNoInsertAdded(t, "the delete is pending", c, p, item(4, 0))
	c, p = checkMerge(t, c, p, span(3, 5))
	checkNoInsertAdded(t, "another range was merged", c, p, item(4, 0))
	c, p = checkMerge(t, c, p, span(5, 6))
	checkNoDeleteAdded(t, "the delete was merged", c, p, 0)
	p = checkAddInsert(t, c, p, item(4, 0))
	c, p = checkFresh(t, c, p, span(4, 5))
	if impl.FormatCracker(c) != "2 2 1 [3] 3 [4] 4 [5] 9 8 7" || impl.FindRow(c, 0) != 4 || !sameUpdates(p, impl.Pending{}) {
		t.Errorf("the column is %s, in the rows %d, with %v", impl.FormatCracker(c), c.Rows, p)
	}
	checkNoInsertAdded(t, "the insert was merged", c, p, item(4, 0))
	p = checkAddDelete(t, c, p, 0)
	if !sameUpdates(p, updates(nil, 0)) {
		t.Errorf("the delete of a merged insert is %v", p)
	}
	// A full column has a place again only when a delete was merged.
	full := divided(spread(64), 0)
	q := checkAddDelete(t, full, updates(nil), 63)
	checkNoInsertAdded(t, "64 elements", full, q, item(4, 100))
	full, q = checkMerge(t, full, q, span(-1000, 1000))
	q = checkAddInsert(t, full, q, item(4, 100))
	checkNoInsertAdded(t, "63 elements and an insert", full, q, item(4, 101))
	if full, q = checkMerge(t, full, q, span(-1000, 1000)); len(full.Values) != 64 || len(q.Inserts) != 0 {
		t.Errorf("the column is %v, with %v", full, q)
	}
}

// A freshExample is what MergeRange, and then SelectFresh, have to return for a column that was divided before.
type freshExample struct {
	values     []int
	before     []int
	p          impl.Pending
	r          impl.Range
	merged     string
	mergedRows []int
	left       impl.Pending
	moved      int
	want       string
	rows       []int
}

func (x freshExample) check(t *testing.T, name string) {
	t.Helper()
	c := crackedAt(x.values, x.before...)
	got, left, moved := impl.MergeRange(c, x.p, x.r)
	if impl.FormatCracker(got) != x.merged || !slices.Equal(got.Rows, x.mergedRows) || !sameUpdates(left, x.left) || moved != x.moved {
		t.Errorf("%s: MergeRange(%s, %v, %v) = %s, in the rows %d, %v, %d, want %s, in %d, %v, %d",
			name, impl.FormatCracker(c), x.p, x.r, impl.FormatCracker(got), got.Rows, left, moved, x.merged, x.mergedRows, x.left, x.moved)
	}
	answer, left, rows := impl.SelectFresh(c, x.p, x.r)
	if impl.FormatCracker(answer) != x.want || !sameUpdates(left, x.left) || !slices.Equal(rows, x.rows) {
		t.Errorf("%s: SelectFresh(%s, %v, %v) = %s, %v, %d, want %s, %v, %d",
			name, impl.FormatCracker(c), x.p, x.r, impl.FormatCracker(answer), left, rows, x.want, x.left, x.rows)
	}
	for _, y := range []waiting{{c, x.p}, {got, x.left}, {answer, x.left}} {
		if live := impl.LiveRows(y.c, y.p, x.r); !slices.Equal(live, x.rows) {
			t.Errorf("%s: LiveRows(%v, %v, %v) = %d, want %d", name, y.c, y.p, x.r, live, x.rows)
		}
	}
	checkMerge(t, c, x.p, x.r)
	checkFresh(t, c, x.p, x.r)
}

func TestFreshExamples(t *testing.T) {
	for name, x := range map[string]freshExample{
		"all updates":                                 {eight, nil, mixed(), span(-1000, 1000), "3 2 8 2 7 4 6 0 9", []int{7, 1, 6, 3, 4, 20, 21, 22, 23}, updates(nil), 3, "[-1000] 3 2 8 2 7 4 6 0 9 [1000]", []int{1, 3, 4, 6, 7, 20, 21, 22, 23}},
		"all updates, divided":                        {eight, []int{5, 3}, mixed(), span(-1000, 1000), "2 2 0 [3] 4 3 [5] 8 6 7 9", []int{3, 1, 22, 20, 7, 6, 21, 4, 23}, updates(nil), 5, "[-1000] 2 2 0 [3] 4 3 [5] 8 6 7 9 [1000]", []int{1, 3, 4, 6, 7, 20, 21, 22, 23}},
		"some of the updates":                         {eight, []int{5, 3}, mixed(), span(3, 8), "2 2 1 [3] 3 4 [5] 9 8 7 6", []int{3, 1, 5, 7, 20, 2, 6, 4, 21}, updates(items(0, 22, 9, 23), 5, 2), 1, "2 2 1 [3] 3 4 [5] 6 7 [8] 8 9", []int{4, 7, 20, 21}},
		"some of the updates, no pivots":              {eight, nil, mixed(), span(3, 8), "3 2 9 2 7 1 8 4 6", []int{7, 1, 2, 3, 4, 5, 6, 20, 21}, updates(items(0, 22, 9, 23), 5, 2), 1, "1 2 2 [3] 6 7 3 4 [8] 8 9", []int{4, 7, 20, 21}},
		"some of the updates, many pivots":            {eight, []int{3, 8, 2, 5, 9}, mixed(), span(3, 8), "1 [2] 2 2 [3] 3 4 [5] 7 6 [8] 8 [9] 9", []int{5, 1, 3, 7, 20, 4, 21, 6, 2}, updates(items(0, 22, 9, 23), 5, 2), 7, "1 [2] 2 2 [3] 3 4 [5] 7 6 [8] 8 [9] 9", []int{4, 7, 20, 21}},
		"only an insert":                              {eight, []int{5, 3}, mixed(), span(4, 5), "2 2 1 [3] 3 4 [5] 9 8 5 7", []int{3, 1, 5, 7, 20, 2, 6, 0, 4}, updates(items(6, 21, 0, 22, 9, 23), 0, 5, 2), 1, "2 2 1 [3] 3 [4] 4 [5] 9 8 5 7", []int{20}},
		"only a delete":                               {eight, []int{5, 3}, mixed(), span(5, 6), "2 2 1 [3] 3 [5] 7 9 8", []int{3, 1, 5, 7, 4, 2, 6}, updates(items(4, 20, 6, 21, 0, 22, 9, 23), 5, 2), 0, "2 2 1 [3] 3 [5] [6] 7 9 8", nil},
		"only deletes of several":                     {eight, []int{5, 3}, updates(nil, 4, 7, 1, 3), span(2, 8), "1 [3] [5] 5 9 8", []int{5, 0, 2, 6}, updates(nil), 6, "1 [2] [3] [5] 5 [8] 9 8", []int{0}},
		"only inserts of several":                     {eight, []int{5, 3}, updates(items(7, 40, 2, 41, 5, 42, 2, 43)), span(2, 8), "2 2 1 2 2 [3] 3 [5] 8 5 7 7 5 9", []int{3, 1, 5, 41, 43, 7, 6, 0, 40, 4, 42, 2}, updates(nil), 4, "1 [2] 2 2 2 2 [3] 3 [5] 5 5 7 7 [8] 8 9", []int{0, 1, 3, 4, 7, 40, 41, 42, 43}},
		"the deletes in another order":                {eight, []int{5, 3}, updates(nil, 3, 1, 7, 4), span(2, 8), "1 [3] [5] 9 8 5", []int{5, 2, 6, 0}, updates(nil), 6, "1 [2] [3] [5] 5 [8] 8 9", []int{0}},
		"the inserts in another order":                {eight, []int{5, 3}, updates(items(2, 43, 5, 42, 2, 41, 7, 40)), span(2, 8), "2 2 1 2 2 [3] 3 [5] 8 5 7 5 9 7", []int{3, 1, 5, 43, 41, 7, 6, 0, 4, 42, 2, 40}, updates(nil), 4, "1 [2] 2 2 2 2 [3] 3 [5] 7 5 7 5 [8] 9 8", []int{0, 1, 3, 4, 7, 40, 41, 42, 43}},
		"no updates":                                  {eight, []int{5, 3}, updates(nil), span(-1000, 1000), "2 2 1 [3] 3 [5] 7 9 8 5", []int{3, 1, 5, 7, 4, 2, 6, 0}, updates(nil), 0, "[-1000] 2 2 1 [3] 3 [5] 7 9 8 5 [1000]", []int{0, 1, 2, 3, 4, 5, 6, 7}},
		"an insert for each delete":                   {eight, []int{5, 3}, updates(items(5, 30, 1, 31, 9, 32), 0, 5, 2), span(-1000, 1000), "2 2 1 [3] 3 [5] 7 5 8 9", []int{3, 1, 31, 7, 4, 30, 6, 32}, updates(nil), 4, "[-1000] 2 2 1 [3] 3 [5] 7 5 8 9 [1000]", []int{1, 3, 4, 6, 7, 30, 31, 32}},
		"all elements are deleted":                    {[]int{7, 3, 5}, []int{4}, updates(nil, 2, 0, 1), span(-1000, 1000), "[4]", nil, updates(nil), 0, "[-1000] [4] [1000]", nil},
		"all elements are deleted, others inserted":   {[]int{7, 3, 5}, []int{4}, updates(items(1, 3, 9, 4), 2, 0, 1), span(-1000, 1000), "1 [4] 9", []int{3, 4}, updates(nil), 0, "[-1000] 1 [4] 9 [1000]", []int{3, 4}},
		"no elements":                                 {nil, []int{3, 7}, updates(items(5, 9, 1, 8, 7, 0)), span(-1000, 1000), "1 [3] 5 [7] 7", []int{8, 9, 0}, updates(nil), 1, "[-1000] 1 [3] 5 [7] 7 [1000]", []int{0, 8, 9}},
		"no elements, some of the inserts":            {nil, []int{3, 7}, updates(items(5, 9, 1, 8, 7, 0)), span(3, 7), "[3] 5 [7]", []int{9}, updates(items(1, 8, 7, 0)), 0, "[3] 5 [7]", []int{9}},
		"equal values":                                {[]int{5, 5, 5}, []int{5, 6}, updates(items(5, 3, 5, 4), 1), span(5, 6), "[5] 5 5 5 5 [6]", []int{0, 2, 3, 4}, updates(nil), 1, "[5] 5 5 5 5 [6]", []int{0, 2, 3, 4}},
		"equal values, one deleted and not asked for": {[]int{5, 5, 5}, []int{5, 6}, updates(items(4, 3, 6, 4), 1), span(6, 7), "[5] 5 5 5 [6] 6", []int{0, 1, 2, 4}, updates(items(4, 3), 1), 0, "[5] 5 5 5 [6] 6 [7]", []int{4}},
		"values of the limits":                        {[]int{999, -999, 0}, []int{0}, updates(items(-999, 999, 999, 3), 0), span(-1000, 1000), "-999 -999 [0] 0 999", []int{1, 999, 2, 3}, updates(nil), 2, "[-1000] -999 -999 [0] 0 999 [1000]", []int{1, 2, 3, 999}},
	} {
		x.check(t, name)
	}
}

// TestFreshRangesAtUpdates has ranges whose ends are the values of updates, and ranges without updates.
func TestFreshRangesAtUpdates(t *testing.T) {
	for name, x := range map[string]freshExample{
		"none of the updates":                      {eight, []int{5, 3}, mixed(), span(1, 1), "2 2 1 [3] 3 [5] 7 9 8 5", []int{3, 1, 5, 7, 4, 2, 6, 0}, mixed(), 0, "[1] 2 2 1 [3] 3 [5] 7 9 8 5", nil},
		"a range without updates":                  {eight, []int{5, 3}, mixed(), span(2, 4), "2 2 1 [3] 3 [5] 7 9 8 5", []int{3, 1, 5, 7, 4, 2, 6, 0}, mixed(), 0, "1 [2] 2 2 [3] 3 [4] [5] 7 9 8 5", []int{1, 3, 7}},
		"From is the value of an insert":           {eight, []int{5, 3}, mixed(), span(6, 8), "2 2 1 [3] 3 [5] 7 9 8 5 6", []int{3, 1, 5, 7, 4, 2, 6, 0, 21}, updates(items(4, 20, 0, 22, 9, 23), 0, 5, 2), 0, "2 2 1 [3] 3 [5] 5 [6] 6 7 [8] 8 9", []int{4, 21}},
		"To is the value of an insert":             {eight, []int{5, 3}, mixed(), span(2, 6), "2 2 1 [3] 3 4 [5] 9 8 7", []int{3, 1, 5, 7, 20, 2, 6, 4}, updates(items(6, 21, 0, 22, 9, 23), 5, 2), 1, "1 [2] 2 2 [3] 3 4 [5] [6] 9 8 7", []int{1, 3, 7, 20}},
		"From is the value of a delete":            {eight, []int{5, 3}, mixed(), span(5, 6), "2 2 1 [3] 3 [5] 7 9 8", []int{3, 1, 5, 7, 4, 2, 6}, updates(items(4, 20, 6, 21, 0, 22, 9, 23), 5, 2), 0, "2 2 1 [3] 3 [5] [6] 7 9 8", nil},
		"To is the value of a delete":              {eight, []int{5, 3}, mixed(), span(4, 5), "2 2 1 [3] 3 4 [5] 9 8 5 7", []int{3, 1, 5, 7, 20, 2, 6, 0, 4}, updates(items(6, 21, 0, 22, 9, 23), 0, 5, 2), 1, "2 2 1 [3] 3 [4] 4 [5] 9 8 5 7", []int{20}},
		"an empty range at the value of an insert": {eight, []int{5, 3}, mixed(), span(4, 4), "2 2 1 [3] 3 [5] 7 9 8 5", []int{3, 1, 5, 7, 4, 2, 6, 0}, mixed(), 0, "2 2 1 [3] 3 [4] [5] 7 9 8 5", nil},
		"an empty range at the value of a delete":  {eight, []int{5, 3}, mixed(), span(9, 9), "2 2 1 [3] 3 [5] 7 9 8 5", []int{3, 1, 5, 7, 4, 2, 6, 0}, mixed(), 0, "2 2 1 [3] 3 [5] 7 5 8 [9] 9", nil},
		"the greatest value is not in the range":   {[]int{999, -999, 0}, []int{0}, updates(items(-999, 999, 999, 3), 0), span(-1000, 999), "-999 -999 [0] 0 999", []int{1, 999, 2, 0}, updates(items(999, 3), 0), 1, "[-1000] -999 -999 [0] 0 [999] 999", []int{1, 2, 999}},
		"the least value is not in the range":      {[]int{999, -999, 0}, []int{0}, updates(items(-999, 999, 999, 3), 1), span(-998, 1000), "-999 [0] 999 0 999", []int{1, 0, 2, 3}, updates(items(-999, 999), 1), 0, "-999 [-998] [0] 999 0 999 [1000]", []int{0, 2, 3}},
	} {
		x.check(t, name)
	}
}

func TestMergesThatAreNotPossible(t *testing.T) {
	for _, r := range invalidRanges {
		for name, x := range validUpdates() {
			checkNoMerge(t, name, x.c, x.p, r)
		}
		everyInvalidUpdate(func(name string, x waiting) { checkNoMerge(t, name, x.c, x.p, r) })
	}
	everyInvalidUpdate(func(name string, x waiting) {
		for _, r := range validRanges {
			checkNoMerge(t, name, x.c, x.p, r)
		}
		for _, r := range spans(5, 6, 5, 10, 4, 5, 1, 10) {
			checkNoMerge(t, name, x.c, x.p, r)
		}
	})
	// An insert has the row of an element that is deleted in the same range, or outside of it.
	for _, y := range []impl.Item{item(4, 0), item(5, 0), item(9, 0)} {
		for _, r := range spans(-1000, 1000, 4, 6, 5, 6, 4, 5, 9, 10) {
			checkNoMerge(t, "a row that is deleted", parts(), updates([]impl.Item{y}, 0), r)
		}
	}
	// The ends are the wrong way around, with updates on both sides, at them and between them.
	checkNoMerge(t, "the wrong way around", parts(), mixed(), span(10, 0))
	checkNoMerge(t, "the wrong way around by 1", parts(), mixed(), span(5, 4))
	checkNoMerge(t, "To beyond all updates", parts(), mixed(), span(0, 1001))
	checkNoMerge(t, "From beyond all updates", parts(), mixed(), span(-1001, 10))
}

// updateRanges returns ranges with ends at the limits and around a few of the values of the updates.
func updateRanges(x waiting) []impl.Range {
	ends := []int{-1001, -1000, 0, 1000, 1001}
	for i := 0; i < len(x.p.Inserts); i += len(x.p.Inserts)/3 + 1 {
		ends = append(ends, x.p.Inserts[i].Value, x.p.Inserts[i].Value+1)
	}
	for i := 0; i < len(x.p.Deletes); i += len(x.p.Deletes)/3 + 1 {
		v := valueOf(x.c, x.p.Deletes[i])
		ends = append(ends, v, v+1)
	}
	slices.Sort(ends)
	ends = slices.Compact(ends)
	var l []impl.Range
	for i, from := range ends {
		for _, to := range ends[i:] {
			l = append(l, span(from, to))
		}
		l = append(l, span(from, ends[0]))
	}
	return l
}

func TestMergesOfAllUpdates(t *testing.T) {
	for name, x := range validUpdates() {
		for _, r := range updateRanges(x) {
			checkMerge(t, x.c, x.p, r)
			checkMerge(t, withoutNil(x.c), x.p, r)
			checkFresh(t, x.c, x.p, r)
			checkLiveRows(t, x.c, x.p, r)
		}
		if c, left := checkMerge(t, x.c, x.p, span(-1000, 1000)); !sameUpdates(left, impl.Pending{}) {
			t.Errorf("%s: behind all merges, the column is %v, with %v", name, c, left)
		}
	}
	for name, c := range validColumns {
		for _, r := range validRanges {
			if got, left := checkMerge(t, c, impl.Pending{}, r); !impl.EqualCrackers(got, c) || !sameUpdates(left, impl.Pending{}) {
				t.Errorf("%s: without updates, %v leads to %v, %v", name, r, got, left)
			}
			want, wantRows := impl.AnswerRange(c, r)
			if got, _, rows := impl.SelectFresh(c, impl.Pending{}, r); !impl.EqualCrackers(got, want) || !slices.Equal(rows, wantRows) {
				t.Errorf("%s: without updates, SelectFresh(%v) = %v, %d, want %v, %d", name, r, got, rows, want, wantRows)
			}
		}
	}
}

// TestUpdatesThatAreLeftKeepTheirOrder merges one of two values, so that every second update is left.
func TestUpdatesThatAreLeftKeepTheirOrder(t *testing.T) {
	c := crackedAt([]int{10, 20, 10, 20, 10, 20, 10, 20}, 15)
	p := updates(items(20, 90, 10, 91, 20, 80, 10, 81, 10, 70, 20, 71), 7, 0, 1, 6, 3, 4)
	for _, x := range []struct {
		r     impl.Range
		rows  []int
		left  impl.Pending
		moved int
	}{
		{span(0, 15), []int{2, 91, 81, 70, 3, 5, 1, 7}, updates(items(20, 90, 20, 80, 20, 71), 7, 1, 3), 9},
		{span(15, 30), []int{0, 6, 2, 4, 5, 90, 80, 71}, updates(items(10, 91, 10, 81, 10, 70), 0, 6, 4), 1},
		{span(0, 30), []int{2, 91, 81, 70, 80, 90, 5, 71}, updates(nil), 11},
		{span(11, 20), []int{0, 6, 2, 4, 3, 5, 1, 7}, p, 0},
	} {
		checkMerge(t, c, p, x.r)
		got, left, moved := impl.MergeRange(c, p, x.r)
		if impl.FormatCracker(got) != "10 10 10 10 [15] 20 20 20 20" || !slices.Equal(got.Rows, x.rows) || !sameUpdates(left, x.left) || moved != x.moved {
			t.Errorf("MergeRange(%v, %v, %v) = %v, %v, %d, want the rows %d, %v, %d", c, p, x.r, got, left, moved, x.rows, x.left, x.moved)
		}
	}
}

// TestEverySmallMerge has up to two deletes and two inserts, in every order.
func TestEverySmallMerge(t *testing.T) {
	ranges := spans(-1, 3, 0, 1, 1, 2, 0, 2, 1, 1, 2, 3)
	everyList([]int{0, 1, 2}, 3, func(values []int) {
		for _, at := range [][]int{nil, {1}, {0, 2}, {1, 2}} {
			c := divided(values, at...)
			everyList(upTo(len(values)), 2, func(deletes []int) {
				everyList([]int{0, 1, 2}, 2, func(inserted []int) {
					var inserts []impl.Item
					for i, v := range inserted {
						inserts = append(inserts, item(v, 9-i))
					}
					for _, r := range ranges {
						checkMerge(t, c, updates(inserts, deletes...), r)
						checkFresh(t, c, updates(inserts, deletes...), r)
					}
				})
			})
		}
	})
}

func TestLiveRowsExamples(t *testing.T) {
	for name, x := range map[string]struct {
		waiting
		r    impl.Range
		want []int
	}{
		"everything":                         {waiting{parts(), mixed()}, span(-1000, 1000), []int{1, 3, 4, 6, 7, 20, 21, 22, 23}},
		"some of the updates":                {waiting{parts(), mixed()}, span(3, 8), []int{4, 7, 20, 21}},
		"just an insert":                     {waiting{parts(), mixed()}, span(4, 5), []int{20}},
		"just a deleted element":             {waiting{parts(), mixed()}, span(5, 6), nil},
		"an insert for a deleted element":    {waiting{parts(), updates(items(5, 8), 0)}, span(5, 6), []int{8}},
		"To is the value of an insert":       {waiting{parts(), mixed()}, span(3, 6), []int{7, 20}},
		"From is the value of an insert":     {waiting{parts(), mixed()}, span(6, 9), []int{4, 6, 21}},
		"To is the value of an element":      {waiting{parts(), mixed()}, span(2, 3), []int{1, 3}},
		"an empty range":                     {waiting{parts(), mixed()}, span(4, 4), nil},
		"a range without elements":           {waiting{parts(), mixed()}, span(10, 20), nil},
		"no updates":                         {waiting{parts(), updates(nil)}, span(3, 8), []int{0, 4, 7}},
		"no elements":                        {waiting{impl.Cracker{}, updates(items(4, 9, 3, 2, 8, 1))}, span(3, 8), []int{2, 9}},
		"nothing at all":                     {waiting{impl.Cracker{}, updates(nil)}, span(-1000, 1000), nil},
		"all elements deleted":               {waiting{parts(), updates(nil, upTo(8)...)}, span(-1000, 1000), nil},
		"inserts before elements":            {waiting{inRows([]int{5, 6}, 900, 800), updates(items(5, 850, 6, 10))}, span(5, 7), []int{10, 800, 850, 900}},
		"the limits":                         {waiting{inRows([]int{-999, 999}, 999, 0), updates(items(-999, 1, 999, 998))}, span(-1000, 1000), []int{0, 1, 998, 999}},
		"the limits without the greatest":    {waiting{inRows([]int{-999, 999}, 999, 0), updates(items(-999, 1, 999, 998))}, span(-1000, 999), []int{1, 999}},
		"the limits without the least":       {waiting{inRows([]int{-999, 999}, 999, 0), updates(items(-999, 1, 999, 998))}, span(-998, 1000), []int{0, 998}},
		"valid updates, From of -1001":       {waiting{parts(), mixed()}, span(-1001, 8), nil},
		"valid updates, To of 1001":          {waiting{parts(), mixed()}, span(3, 1001), nil},
		"valid updates, To less than From":   {waiting{parts(), mixed()}, span(8, 3), nil},
		"valid updates, all ints":            {waiting{parts(), mixed()}, span(math.MinInt, math.MaxInt), nil},
		"an insert of 1000":                  {waiting{parts(), updates(items(1000, 20))}, span(3, 8), nil},
		"an insert whose row is there":       {waiting{parts(), updates(items(4, 3))}, span(3, 8), nil},
		"a row that is deleted and inserted": {waiting{parts(), updates(items(4, 0), 0)}, span(3, 8), nil},
		"a delete that is not there":         {waiting{parts(), updates(nil, 8)}, span(3, 8), nil},
		"a delete twice":                     {waiting{parts(), updates(nil, 0, 0)}, span(3, 8), nil},
		"a column that is not valid":         {waiting{cracked([]int{9, 2}, 3, 1), updates(nil)}, span(3, 10), nil},
	} {
		if got := impl.LiveRows(x.c, x.p, x.r); !slices.Equal(got, x.want) {
			t.Errorf("%s: LiveRows(%v, %v, %v) = %d, want %d", name, x.c, x.p, x.r, got, x.want)
		}
		checkLiveRows(t, x.c, x.p, x.r)
	}
}

func TestLiveRowsOfAllUpdates(t *testing.T) {
	for _, x := range validUpdates() {
		for _, r := range updateRanges(x) {
			checkLiveRows(t, x.c, x.p, r)
		}
		for _, r := range invalidRanges {
			checkLiveRows(t, x.c, x.p, r)
		}
	}
	everyInvalidUpdate(func(name string, x waiting) {
		for _, r := range append(spans(-1000, 1000, 3, 8, 0, 1, 8, 3, -1001, 0, 0, 1001), validRanges["one number"]) {
			checkLiveRows(t, x.c, x.p, r)
		}
	})
}

// A fresh column has the values that have to be live, by row, and the updates that lead to them.
type fresh struct {
	updated
	p impl.Pending
}

func newFresh(values []int) *fresh { return &fresh{updated: *newUpdated(values)} }

func (x *fresh) insert(t *testing.T, y impl.Item) {
	t.Helper()
	if _, ok := addInsert(x.c, x.p, y); ok {
		x.values[y.Row] = y.Value
	}
	x.p = checkAddInsert(t, x.c, x.p, y)
}

func (x *fresh) delete(t *testing.T, row int) {
	t.Helper()
	if _, ok := addDelete(x.c, x.p, row); ok {
		delete(x.values, row)
	}
	x.p = checkAddDelete(t, x.c, x.p, row)
}

func (x *fresh) merge(t *testing.T, r impl.Range) {
	t.Helper()
	x.c, x.p = checkMerge(t, x.c, x.p, r)
}

// ask compares an answer with the values, which know nothing of places, pivots and updates.
func (x *fresh) ask(t *testing.T, r impl.Range) {
	t.Helper()
	want := x.scan(r)
	if _, _, rows := impl.SelectFresh(x.c, x.p, r); !slices.Equal(rows, want) {
		t.Errorf("SelectFresh(%v, %v, %v) has the rows %d, want %d", x.c, x.p, r, rows, want)
	}
	if rows := impl.LiveRows(x.c, x.p, r); !slices.Equal(rows, want) {
		t.Errorf("LiveRows(%v, %v, %v) = %d, want %d", x.c, x.p, r, rows, want)
	}
	c, _, _ := impl.MergeRange(x.c, x.p, r)
	if _, rows := impl.AnswerRange(c, r); !slices.Equal(rows, want) {
		t.Errorf("behind MergeRange(%v, %v, %v), AnswerRange has the rows %d, want %d", x.c, x.p, r, rows, want)
	}
}

// query goes on with the column and the updates of the answer.
func (x *fresh) query(t *testing.T, r impl.Range) {
	t.Helper()
	x.ask(t, r)
	x.c, x.p = checkFresh(t, x.c, x.p, r)
}

// check asks for several ranges, and for the elements behind all updates.
func (x *fresh) check(t *testing.T) {
	t.Helper()
	for _, r := range spans(-1000, 1000, 3, 8, 2, 5, 5, 5, 5, 6, 0, 3, 8, 20) {
		x.ask(t, r)
	}
	var want [][2]int
	for _, row := range x.scan(span(-1000, 1000)) {
		want = append(want, [2]int{row, x.values[row]})
	}
	c, left, _ := impl.MergeRange(x.c, x.p, span(-1000, 1000))
	if !slices.Equal(elements(c), want) || !sameUpdates(left, impl.Pending{}) {
		t.Errorf("behind all updates, the column is %v, with %v, want the elements %d", c, left, want)
	}
}

// TestUpdatesAndQueriesInEveryOrder has inserts, deletes of elements and of inserts, merges and queries; what is possible depends on the order.
func TestUpdatesAndQueriesInEveryOrder(t *testing.T) {
	steps := []func(*fresh){
		func(x *fresh) { x.insert(t, item(4, 20)) },
		func(x *fresh) { x.delete(t, 20) },
		func(x *fresh) { x.delete(t, 0) },
		func(x *fresh) { x.insert(t, item(8, 0)) },
		func(x *fresh) { x.query(t, span(3, 8)) },
		func(x *fresh) { x.merge(t, span(5, 9)) },
	}
	everyOrder(upTo(len(steps)), func(order []int) {
		x := newFresh(eight)
		for _, i := range order {
			steps[i](x)
		}
		x.check(t)
	})
	// These are possible in every order, and lead to the same elements.
	steps = []func(*fresh){
		func(x *fresh) { x.insert(t, item(4, 20)) },
		func(x *fresh) { x.insert(t, item(0, 21)) },
		func(x *fresh) { x.delete(t, 1) },
		func(x *fresh) { x.delete(t, 0) },
		func(x *fresh) { x.query(t, span(2, 5)) },
		func(x *fresh) { x.query(t, span(5, 8)) },
	}
	var first impl.Cracker
	everyOrder(upTo(len(steps)), func(order []int) {
		x := newFresh(eight)
		for _, i := range order {
			steps[i](x)
		}
		x.check(t)
		x.merge(t, span(-1000, 1000))
		if first.Rows == nil {
			first = x.c
		}
		if !slices.Equal(x.c.Pivots, first.Pivots) || !slices.Equal(elements(x.c), elements(first)) {
			t.Errorf("in the order %d, the column is %v, in another %v", order, x.c, first)
		}
	})
}

// TestMergingGradually merges parts of everything in every order, which leads to the elements of one merge.
func TestMergingGradually(t *testing.T) {
	ranges := spans(-1000, 1, 1, 5, 5, 8, 8, 1000, 3, 6)
	for name, x := range validUpdates() {
		want, _, _ := impl.MergeRange(x.c, x.p, span(-1000, 1000))
		everyOrder(upTo(len(ranges)), func(order []int) {
			c, p := x.c, x.p
			for _, i := range order {
				c, p, _ = impl.MergeRange(c, p, ranges[i])
			}
			if !sameUpdates(p, impl.Pending{}) || !slices.Equal(elements(c), elements(want)) || !slices.Equal(c.Pivots, want.Pivots) {
				t.Errorf("%s: in the order %d, the column is %v, with %v, want %v", name, order, c, p, want)
			}
		})
		c, p := x.c, x.p
		for _, r := range ranges {
			c, p = checkMerge(t, c, p, r)
			sameLive(t, name, x.c, c, x.p, p, noItem)
			c, p = checkFresh(t, c, p, r)
			sameLive(t, name, x.c, c, x.p, p, noItem)
		}
	}
}

// TestManyUpdates mixes inserts, deletes of elements and of inserts, merges and queries, up to the limits and beyond.
func TestManyUpdates(t *testing.T) {
	for n, values := range [][]int{nil, {7}, eight, spread(40), repeated(30, 7), spread(64)} {
		x := newFresh(values)
		mostInserts, mostDeletes := 0, 0
		for i := range 400 {
			row := (i*577 + n) % 1000
			from := (i*577+i*i*31)%2001 - 1000
			r := span(from, min(1000, from+i*i%401))
			live := x.scan(span(-1000, 1000))
			switch {
			case i%40 == 39:
				x.merge(t, r)
			case i%20 == 19:
				x.query(t, r)
			case i%100 == 98:
				x.merge(t, span(-1000, 1000))
			case i%7 == 6 && len(x.p.Inserts) > 0:
				x.delete(t, x.p.Inserts[i%len(x.p.Inserts)].Row)
			case i/100%2 == 0 && i%3 != 2:
				x.insert(t, item((i*577+i*i*i)%1999-999, row))
			case len(live) > 0 && i%11 != 0:
				x.delete(t, live[i*31%len(live)])
			default:
				x.delete(t, row)
			}
			mostInserts, mostDeletes = max(mostInserts, len(x.p.Inserts)), max(mostDeletes, len(x.p.Deletes))
			for _, r := range spans(from, min(1000, from+300), -1000, 1000) {
				x.ask(t, r)
			}
		}
		x.check(t)
		if mostInserts < 15 || mostDeletes < 15 {
			t.Errorf("there were at most %d inserts and %d deletes", mostInserts, mostDeletes)
		}
	}
}

// TestUpdatesKeepNoState asks for the same updates between others.
func TestUpdatesKeepNoState(t *testing.T) {
	first := map[string]impl.Cracker{}
	for range 3 {
		for name, x := range validUpdates() {
			c, left, rows := impl.SelectFresh(x.c, x.p, span(-3, 7))
			if _, found := first[name]; !found {
				first[name] = c
			}
			_, wantLeft, _ := mergeRange(x.c, x.p, span(-3, 7))
			if !impl.EqualCrackers(c, first[name]) || !sameUpdates(left, wantLeft) || !slices.Equal(rows, liveRows(x.c, x.p, span(-3, 7))) {
				t.Errorf("%s: SelectFresh = %v, %v, %d", name, c, left, rows)
			}
			impl.AddInsert(x.c, x.p, item(4, 600))
			impl.AddDelete(x.c, x.p, 0)
			impl.LiveRows(x.c, left, span(0, 7))
		}
	}
}

// insertsWithSpare returns a copy of a list with marked capacity behind it.
func insertsWithSpare(l []impl.Item) []impl.Item {
	long := append(slices.Clone(l), items(777, 888, 555, 444, 333, 222)...)
	return long[:len(l)]
}

func updatesWithSpare(p impl.Pending) impl.Pending {
	return updates(insertsWithSpare(p.Inserts), spare(p.Deletes)...)
}

// wholeUpdates returns a copy of the updates in which all capacity is in use.
func wholeUpdates(p impl.Pending) impl.Pending {
	return updates(slices.Clone(p.Inserts[:cap(p.Inserts)]), slices.Clone(p.Deletes[:cap(p.Deletes)])...)
}

// fillInserts overwrites a list, up to its capacity.
func fillInserts(l []impl.Item, x impl.Item) {
	l = l[:cap(l)]
	for i := range l {
		l[i] = x
	}
}

func fillUpdates(p impl.Pending) {
	fillInserts(p.Inserts, item(987, 654))
	fill(p.Deletes, 456)
}

// A freshAnswer has everything that one of the functions of chapter 11 returns, but for numbers.
type freshAnswer struct {
	c    impl.Cracker
	p    impl.Pending
	rows []int
}

func (x freshAnswer) same(y freshAnswer) bool {
	return impl.EqualCrackers(x.c, y.c) && sameUpdates(x.p, y.p) && slices.Equal(x.rows, y.rows)
}

func (x freshAnswer) overwrite() {
	fillColumn(x.c)
	fillUpdates(x.p)
	fill(x.rows, 789)
}

// freshAnswers performs all functions of chapter 11, successfully and not.
func freshAnswers(c impl.Cracker, p impl.Pending) []freshAnswer {
	var l []freshAnswer
	impl.IsPending(c, p)
	for _, x := range []impl.Item{item(4, 800), item(-999, 999), item(1000, 5), item(4, -1), item(4, 0), item(4, 20)} {
		longer, _ := impl.AddInsert(c, p, x)
		l = append(l, freshAnswer{p: longer})
	}
	rows := append([]int{-1, 0, 3, 20, 21, 700, 999, 1000}, p.Deletes...)
	for _, x := range p.Inserts {
		rows = append(rows, x.Row)
	}
	for _, row := range rows {
		next, _ := impl.AddDelete(c, p, row)
		l = append(l, freshAnswer{p: next})
	}
	for _, r := range spans(-1000, 1000, 3, 8, 0, 5, 4, 4, 990, 1000, 8, 3, -1001, 5, 3, 1001) {
		merged, left, _ := impl.MergeRange(c, p, r)
		l = append(l, freshAnswer{c: merged, p: left})
		answer, left, rows := impl.SelectFresh(c, p, r)
		l = append(l, freshAnswer{answer, left, rows}, freshAnswer{rows: impl.LiveRows(c, p, r)})
	}
	return l
}

// everyUpdate has all updates of the tables.
func everyUpdate(visit func(name string, x waiting)) {
	for name, x := range validUpdates() {
		visit(name, x)
	}
	everyInvalidUpdate(visit)
}

func TestUpdateArgumentsStay(t *testing.T) {
	everyUpdate(func(name string, x waiting) {
		c, p := columnWithSpare(x.c), updatesWithSpare(x.p)
		before, updatesBefore := wholeColumn(c), wholeUpdates(p)
		answers := freshAnswers(c, p)
		if !reflect.DeepEqual(wholeColumn(c), before) || !sameUpdates(wholeUpdates(p), updatesBefore) {
			t.Errorf("%s: the arguments have become %v and %v, they were %v and %v", name, wholeColumn(c), wholeUpdates(p), before, updatesBefore)
		}
		for _, y := range answers {
			y.overwrite()
		}
		if !reflect.DeepEqual(wholeColumn(c), before) || !sameUpdates(wholeUpdates(p), updatesBefore) {
			t.Errorf("%s: after a change of the answers, the arguments have become %v and %v, they were %v and %v", name, wholeColumn(c), wholeUpdates(p), before, updatesBefore)
		}
	})
}

func TestFreshAnswersAreNewMemory(t *testing.T) {
	everyUpdate(func(name string, x waiting) {
		c, p := columnWithSpare(x.c), updatesWithSpare(x.p)
		want := freshAnswers(x.c, x.p)
		got := freshAnswers(c, p)
		fillColumn(c)
		fillUpdates(p)
		for i, y := range got {
			if !y.same(want[i]) {
				t.Errorf("%s: after a change of the arguments and of other answers, an answer is %v, want %v", name, y, want[i])
			}
			y.overwrite()
		}
	})
}

// checkApart overwrites one list after another, up to the capacity, and asks whether each keeps its own number.
func checkApart(t *testing.T, name string, lists ...[]int) {
	t.Helper()
	forward := upTo(len(lists))
	backward := slices.Clone(forward)
	slices.Reverse(backward)
	for _, order := range [][]int{forward, backward} {
		for _, i := range order {
			fill(lists[i], i)
		}
		for i, l := range lists {
			if !slices.Equal(l, repeated(len(l), i)) {
				t.Errorf("%s: list %d shares memory with another one", name, i)
			}
		}
	}
}

// TestListsOfFreshAnswersAreApart has the pivots and the inserts, too, which are lists of other types.
func TestListsOfFreshAnswersAreApart(t *testing.T) {
	everyUpdate(func(name string, x waiting) {
		want := freshAnswers(x.c, x.p)
		for i, y := range freshAnswers(columnWithSpare(x.c), updatesWithSpare(x.p)) {
			checkApart(t, name, y.c.Values, y.c.Rows, y.p.Deletes, y.rows)
			if !slices.Equal(y.c.Pivots, want[i].c.Pivots) || !slices.Equal(y.p.Inserts, want[i].p.Inserts) {
				t.Errorf("%s: after a change of other lists, the pivots are %v and the inserts %v", name, y.c.Pivots, y.p.Inserts)
			}
		}
	})
}

// TestUpdatesThatAreTheListsOfTheColumn gives deletes that lie in the rows or the values of the column, with the rest of the list as their capacity.
func TestUpdatesThatAreTheListsOfTheColumn(t *testing.T) {
	rows := []int{3, 1, 5, 7, 4, 2, 6, 0}
	for _, n := range []int{0, 1, 2, 7, 8} {
		c := parts()
		p := updates(items(4, 20), c.Rows[:n]...)
		for _, row := range append([]int{20, 21}, rows...) {
			checkAddDelete(t, c, p, row)
		}
		checkAddInsert(t, c, p, item(3, 21))
		for _, r := range spans(-1000, 1000, 3, 8, 4, 5, 1, 3, 8, 3) {
			checkMerge(t, c, p, r)
			checkFresh(t, c, p, r)
			checkLiveRows(t, c, p, r)
		}
		if !slices.Equal(c.Rows, rows) || !slices.Equal(p.Deletes, rows[:n]) {
			t.Errorf("the rows have become %d, and the deletes %d", c.Rows, p.Deletes)
		}
	}
	list := []int{1, 0, 2, 3}
	c := impl.Cracker{Values: list, Rows: list, Pivots: pivots(2, 2)}
	p := updates(items(-5, 9), list[:2]...)
	got, left := checkMerge(t, c, p, span(-1000, 1000))
	if impl.FormatCracker(got) != "-5 [2] 3 2" || !slices.Equal(got.Rows, []int{9, 3, 2}) || !sameUpdates(left, impl.Pending{}) {
		t.Errorf("behind the updates, the column is %v, with %v", got, left)
	}
	if !slices.Equal(list, []int{1, 0, 2, 3}) {
		t.Errorf("the list has become %d", list)
	}
}

// TestUpdatesWithTheSameBeginning adds to the same updates twice, of which no answer may change another one.
func TestUpdatesWithTheSameBeginning(t *testing.T) {
	c, p := parts(), updatesWithSpare(mixed())
	a, _ := impl.AddInsert(c, p, item(1, 30))
	b, _ := impl.AddInsert(c, p, item(2, 31))
	d, _ := impl.AddDelete(c, p, 7)
	e, _ := impl.AddDelete(c, p, 6)
	f, _ := impl.AddDelete(c, p, 21)
	inserts := mixed().Inserts
	for name, x := range map[string][2]impl.Pending{
		"an insert":            {a, updates(append(slices.Clone(inserts), item(1, 30)), 0, 5, 2)},
		"another insert":       {b, updates(append(slices.Clone(inserts), item(2, 31)), 0, 5, 2)},
		"a delete":             {d, updates(inserts, 0, 5, 2, 7)},
		"another delete":       {e, updates(inserts, 0, 5, 2, 6)},
		"a delete of an added": {f, updates(items(4, 20, 0, 22, 9, 23), 0, 5, 2)},
		"the updates":          {p, mixed()},
	} {
		if !sameUpdates(x[0], x[1]) {
			t.Errorf("%s: %v, want %v", name, x[0], x[1])
		}
	}
}
