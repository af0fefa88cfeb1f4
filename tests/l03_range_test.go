package tests

import (
	"math"
	"regexp"
	"slices"
	"strconv"
	"strings"
	"testing"

	"loop.example/g01984/impl"
)

// Promise 2, for ranges: they can be parsed from their string format; no other strings are accepted.

// span is short for a range with its fields.
func span(from, to int) impl.Range {
	return impl.Range{From: from, To: to}
}

var (
	validRanges = map[string]impl.Range{
		"an ordinary range":           span(3, 7),
		"a range below 0":             span(-7, -3),
		"a range around 0":            span(-3, 7),
		"one number":                  span(5, 6),
		"the number 0":                span(0, 1),
		"all numbers":                 span(-1000, 1000),
		"the least number":            span(-1000, -999),
		"the greatest number":         span(999, 1000),
		"the zero value":              {},
		"an empty range":              span(4, 4),
		"an empty range below 0":      span(-5, -5),
		"an empty range at -1000":     span(-1000, -1000),
		"an empty range at 1000":      span(1000, 1000),
		"an empty range next to 1000": span(999, 999),
	}

	invalidRanges = map[string]impl.Range{
		"From of -1001":                   span(-1001, 0),
		"From of 1001":                    span(1001, 1002),
		"To of 1001":                      span(0, 1001),
		"To of -1001":                     span(-1002, -1001),
		"an empty range at -1001":         span(-1001, -1001),
		"an empty range at 1001":          span(1001, 1001),
		"From of -1001, To of 1001":       span(-1001, 1001),
		"From of -1001, To of -1000":      span(-1001, -1000),
		"From of 1000, To of 1001":        span(1000, 1001),
		"To less by one":                  span(3, 2),
		"To less by one around 0":         span(0, -1),
		"To less by one at -1000":         span(-1000, -1001),
		"To less by one next to -1000":    span(-999, -1000),
		"To less by one at 1000":          span(1000, 999),
		"To less by one at 1001":          span(1001, 1000),
		"To much less":                    span(7, 3),
		"the limits the wrong way around": span(1000, -1000),
		"the least int":                   span(math.MinInt, 0),
		"the greatest int":                span(0, math.MaxInt),
		"all ints":                        span(math.MinInt, math.MaxInt),
		"all ints the wrong way around":   span(math.MaxInt, math.MinInt),
		"an empty range at the least int": span(math.MinInt, math.MinInt),
		"an empty range at the greatest":  span(math.MaxInt, math.MaxInt),
	}
)

// bounds are numbers on both sides of every limit, of 0, and of every number of digits.
var bounds = []int{
	math.MinInt, math.MinInt + 1, -2000, -1002, -1001, -1000, -999, -998, -101, -100, -99, -11, -10, -9, -2, -1,
	0, 1, 2, 3, 9, 10, 11, 99, 100, 101, 998, 999, 1000, 1001, 1002, 2000, math.MaxInt - 1, math.MaxInt,
}

func everyRange(visit func(impl.Range)) {
	for _, from := range bounds {
		for _, to := range bounds {
			visit(span(from, to))
		}
	}
}

// isSpan tells from each condition of its own whether a range is valid.
func isSpan(r impl.Range) bool {
	if r.From < -1000 || r.To > 1000 {
		return false
	}
	return r.To >= r.From
}

func TestIsRangeExamples(t *testing.T) {
	for name, r := range validRanges {
		if !impl.IsRange(r) {
			t.Errorf("%s: IsRange(%v) = false", name, r)
		}
	}
	for name, r := range invalidRanges {
		if impl.IsRange(r) {
			t.Errorf("%s: IsRange(%v) = true", name, r)
		}
	}
}

func TestIsRangeOfAllBounds(t *testing.T) {
	check := func(r impl.Range) {
		if got := impl.IsRange(r); got != isSpan(r) {
			t.Errorf("IsRange(%v) = %t", r, got)
		}
	}
	everyRange(check)
	for v := -1100; v <= 1100; v++ {
		for _, r := range []impl.Range{
			span(v, v), span(v, v+1), span(v, v-1), span(-1000, v), span(v, 1000), span(-1001, v), span(v, 1001), span(0, v), span(v, 0),
		} {
			check(r)
		}
	}
}

func TestInRangeExamples(t *testing.T) {
	for _, x := range []struct {
		r    impl.Range
		v    int
		want bool
	}{
		// From, one below, To, and one below
		{span(3, 7), 3, true},
		{span(3, 7), 2, false},
		{span(3, 7), 7, false},
		{span(3, 7), 6, true},
		{span(3, 7), 5, true},
		{span(3, 7), 8, false},
		{span(3, 7), -3, false},
		{span(-7, -3), -7, true},
		{span(-7, -3), -8, false},
		{span(-7, -3), -3, false},
		{span(-7, -3), -4, true},
		{span(5, 6), 5, true},
		{span(5, 6), 4, false},
		{span(5, 6), 6, false},
		// the limits
		{span(-1000, 1000), -1000, true},
		{span(-1000, 1000), -1001, false},
		{span(-1000, 1000), 1000, false},
		{span(-1000, 1000), 999, true},
		{span(-1000, 1000), math.MinInt, false},
		{span(-1000, 1000), math.MaxInt, false},
		// empty ranges
		{span(4, 4), 4, false},
		{span(4, 4), 3, false},
		{span(4, 4), 5, false},
		{impl.Range{}, 0, false},
		{span(-1000, -1000), -1000, false},
		{span(-1000, -1000), -1001, false},
		{span(1000, 1000), 1000, false},
		{span(1000, 1000), 999, false},
		// ranges that are not valid, with numbers between From and To
		{span(-1001, 7), 3, false},
		{span(-1001, 7), -1001, false},
		{span(3, 1001), 3, false},
		{span(3, 1001), 1000, false},
		{span(7, 3), 5, false},
		{span(7, 3), 7, false},
		{span(3, 2), 3, false},
		{span(3, 2), 2, false},
		{span(math.MinInt, math.MaxInt), 0, false},
	} {
		if got := impl.InRange(x.r, x.v); got != x.want {
			t.Errorf("InRange(%v, %d) = %t, want %t", x.r, x.v, got, x.want)
		}
	}
}

func TestInRangeOfAllBounds(t *testing.T) {
	everyRange(func(r impl.Range) {
		for _, v := range bounds {
			want := isSpan(r) && v >= r.From && v < r.To
			if got := impl.InRange(r, v); got != want {
				t.Errorf("InRange(%v, %d) = %t", r, v, got)
			}
		}
	})
	// A count over all numbers misses none at an end and adds none there.
	for name, r := range validRanges {
		count := 0
		for v := -1500; v <= 1500; v++ {
			if impl.InRange(r, v) {
				count++
			}
		}
		if count != r.To-r.From {
			t.Errorf("%s: %d numbers are in the range %v", name, count, r)
		}
	}
}

func TestMeetRangesExamples(t *testing.T) {
	for _, x := range []struct {
		a, b, want impl.Range
	}{
		// overlapping
		{span(3, 7), span(5, 9), span(5, 7)},
		{span(-9, 2), span(-3, 4), span(-3, 2)},
		{span(3, 7), span(6, 9), span(6, 7)},
		{span(-1000, 5), span(-5, 1000), span(-5, 5)},
		// touching
		{span(3, 7), span(7, 9), span(7, 7)},
		{span(-1000, 0), span(0, 1000), impl.Range{}},
		{span(5, 6), span(6, 7), span(6, 6)},
		// apart
		{span(3, 7), span(8, 9), span(8, 8)},
		{span(3, 7), span(20, 30), span(20, 20)},
		{span(-30, -20), span(3, 7), span(3, 3)},
		{span(-1000, -999), span(999, 1000), span(999, 999)},
		{span(-1000, -1000), span(1000, 1000), span(1000, 1000)},
		// one inside the other
		{span(3, 7), span(4, 6), span(4, 6)},
		{span(3, 7), span(3, 5), span(3, 5)},
		{span(3, 7), span(5, 7), span(5, 7)},
		{span(-1000, 1000), span(3, 7), span(3, 7)},
		{span(-1000, 1000), span(-1000, 1000), span(-1000, 1000)},
		{span(3, 7), span(3, 7), span(3, 7)},
		// empty ranges
		{span(3, 7), span(5, 5), span(5, 5)},
		{span(3, 7), span(3, 3), span(3, 3)},
		{span(3, 7), span(7, 7), span(7, 7)},
		{span(3, 7), span(2, 2), span(3, 3)},
		{span(3, 7), span(8, 8), span(8, 8)},
		{span(4, 4), span(4, 4), span(4, 4)},
		{span(4, 4), span(5, 5), span(5, 5)},
		{span(-1000, 1000), span(-1000, -1000), span(-1000, -1000)},
		{span(-1000, 1000), span(1000, 1000), span(1000, 1000)},
		// one that is not valid
		{span(3, 7), span(2, 1), impl.Range{}},
		{span(3, 7), span(7, 3), impl.Range{}},
		{span(3, 7), span(4, 3), impl.Range{}},
		{span(3, 7), span(-1001, 5), impl.Range{}},
		{span(3, 7), span(5, 1001), impl.Range{}},
		{span(3, 7), span(1001, 1001), impl.Range{}},
		{span(3, 7), span(-1001, -1001), impl.Range{}},
		{span(3, 7), span(math.MinInt, math.MaxInt), impl.Range{}},
		{span(2, 1), span(2, 1), impl.Range{}},
		{span(5, 1001), span(5, 1001), impl.Range{}},
	} {
		if got := impl.MeetRanges(x.a, x.b); got != x.want {
			t.Errorf("MeetRanges(%v, %v) = %v, want %v", x.a, x.b, got, x.want)
		}
		if got := impl.MeetRanges(x.b, x.a); got != x.want {
			t.Errorf("MeetRanges(%v, %v) = %v, want %v", x.b, x.a, got, x.want)
		}
	}
	for name, valid := range validRanges {
		for what, invalid := range invalidRanges {
			if got := impl.MeetRanges(valid, invalid); got != (impl.Range{}) {
				t.Errorf("MeetRanges of %s and of %s = %v", name, what, got)
			}
			if got := impl.MeetRanges(invalid, valid); got != (impl.Range{}) {
				t.Errorf("MeetRanges of %s and of %s = %v", what, name, got)
			}
		}
	}
}

// meetSpans follows the document word by word.
func meetSpans(a, b impl.Range) impl.Range {
	if !isSpan(a) || !isSpan(b) {
		return impl.Range{}
	}
	r := a
	if b.From > a.From {
		r.From = b.From
	}
	if b.To < a.To {
		r.To = b.To
	}
	if r.To < r.From {
		r.To = r.From
	}
	return r
}

func TestMeetRangesOfAllBounds(t *testing.T) {
	var all []impl.Range
	for _, from := range []int{-1001, -1000, -999, -1, 0, 1, 2, 3, 999, 1000, 1001} {
		for _, to := range []int{-1001, -1000, -999, -1, 0, 1, 2, 3, 999, 1000, 1001} {
			all = append(all, span(from, to))
		}
	}
	for _, a := range all {
		for _, b := range all {
			got := impl.MeetRanges(a, b)
			if got != meetSpans(a, b) {
				t.Errorf("MeetRanges(%v, %v) = %v, want %v", a, b, got, meetSpans(a, b))
			}
			for _, v := range bounds {
				if impl.InRange(got, v) != (impl.InRange(a, v) && impl.InRange(b, v)) {
					t.Errorf("MeetRanges(%v, %v) = %v, which is wrong for %d", a, b, got, v)
				}
			}
		}
	}
}

func TestFormatRangeExamples(t *testing.T) {
	for _, x := range []struct {
		r    impl.Range
		want string
	}{
		{span(3, 7), "3..7"},
		{span(-5, 7), "-5..7"},
		{span(-7, -3), "-7..-3"},
		{impl.Range{}, "0..0"},
		{span(4, 4), "4..4"},
		{span(-5, -5), "-5..-5"},
		{span(-1000, 1000), "-1000..1000"},
		{span(-1000, -1000), "-1000..-1000"},
		{span(1000, 1000), "1000..1000"},
		{span(-999, 10), "-999..10"},
		{span(9, 100), "9..100"},
	} {
		if got := impl.FormatRange(x.r); got != x.want {
			t.Errorf("FormatRange(%v) = %q, want %q", x.r, got, x.want)
		}
		if got, ok := impl.ParseRange(x.want); got != x.r || !ok {
			t.Errorf("ParseRange(%q) = %v, %t, want %v", x.want, got, ok, x.r)
		}
	}
	for name, r := range invalidRanges {
		if got := impl.FormatRange(r); got != "" {
			t.Errorf("%s: FormatRange(%v) = %q", name, r, got)
		}
	}
}

func TestRangeRoundTrip(t *testing.T) {
	check := func(r impl.Range) {
		s := impl.FormatRange(r)
		if isSpan(r) != (s != "") {
			t.Errorf("FormatRange(%v) = %q", r, s)
		}
		got, ok := impl.ParseRange(s)
		if ok != isSpan(r) || ok && got != r || !ok && got != (impl.Range{}) {
			t.Errorf("ParseRange(%q) = %v, %t, formatted from %v", s, got, ok, r)
		}
	}
	for _, r := range validRanges {
		check(r)
	}
	everyRange(check)
	for v := -1002; v <= 1002; v++ {
		for _, r := range []impl.Range{span(v, v), span(v, v+1), span(-1000, v), span(v, 1000), span(0, v), span(v, 0)} {
			check(r)
		}
	}
}

func TestParseRangeInvalid(t *testing.T) {
	long := strings.Repeat("1", 100000)
	for _, s := range []string{
		"", "0", "7", "-7", "none",
		// points
		"..", ".", "...", "....", "3.7", "3...7", "3....7", "3. .7", ".3..7", "3..7.", "..3..7", "3..7..", "3,7", "3-7", "3:7", "37", "3…7", "3‥7", "-..-",
		// one number missing
		"3..", "..7", "-3..", "..-7", "-..7", "3..-",
		// three numbers
		"1..2..3", "3..7..7", "0..0..0", "1..2.3", "1.2..3",
		// spaces
		" 3..7", "3..7 ", "3 ..7", "3.. 7", "3 .. 7", "3..7\n", "\n3..7", "3..\t7", "3..7\r\n", "3..7 8..9", "3..7\x00",
		// numbers
		"01..7", "3..07", "-0..7", "-5..-0", "+1..7", "3..+7", "+1..+7", "00..7", "3..00", "-01..7", "-7..-03", "--3..7", "3..--7", "3-..7",
		"0x3..7", "3..1e2", "3..1_0", "a..7", "3..b", "3..7a", "٣..٧", "３..７", "\xb3..7", "3..\xb7", "3..7\xff",
		// more than 9 digits
		"0..1000000000", "-1000000000..0", "0..0000000007", "0000000003..7", "0..4294967299", "0..18446744073709551623",
		"-18446744073709551613..7", "0..9223372036854775808", "-9223372036854775809..0", long + "..7", "3.." + long, "-" + long + "..7", long,
		// ranges that are not valid
		"7..3", "3..2", "0..-1", "1000..999", "-999..-1000", "1000..-1000", "-1001..0", "0..1001", "-1001..-1001", "1001..1001",
		"-1001..-1000", "1000..1001", "-1000..-1001", "1001..1000", "-1001..1001", "0..999999999", "-999999999..0", "-999999999..999999999",
	} {
		if got, ok := impl.ParseRange(s); got != (impl.Range{}) || ok {
			t.Errorf("ParseRange(%.40q) = %v, %t", s, got, ok)
		}
	}
}

// readRange reads a range in a way of its own: by a pattern, whose numbers have at most four digits.
var rangePattern = regexp.MustCompile(`^(0|-?[1-9][0-9]{0,3})\.\.(0|-?[1-9][0-9]{0,3})$`)

func readRange(s string) (impl.Range, bool) {
	numbers := rangePattern.FindStringSubmatch(s)
	if numbers == nil {
		return impl.Range{}, false
	}
	from, _ := strconv.Atoi(numbers[1])
	to, _ := strconv.Atoi(numbers[2])
	if !isSpan(span(from, to)) {
		return impl.Range{}, false
	}
	return span(from, to), true
}

func checkParseRange(t *testing.T, s string) {
	t.Helper()
	want, valid := readRange(s)
	got, ok := impl.ParseRange(s)
	if got != want || ok != valid || ok && impl.FormatRange(got) != s {
		t.Errorf("ParseRange(%q) = %v, %t, want %v, %t", s, got, ok, want, valid)
	}
}

func TestParseRangeAcceptsNothingElse(t *testing.T) {
	check := func(s string) { checkParseRange(t, s) }
	everyString(everyByte(), 2, check)
	everyString(".01-", 8, check)
	everyString(".-09 +", 6, check)
	everyString("019-", 6, func(s string) { check("-1000.." + s) })
	everyString("019-", 6, func(s string) { check(s + "..1000") })
}

// TestParseRangeNearFormats changes a format in one place, in all ways.
func TestParseRangeNearFormats(t *testing.T) {
	for _, s := range []string{"3..7", "0..0", "-5..-5", "10..99", "-100..-10", "-1000..1000", "-1000..-1000", "1000..1000", "999..1000", "-999..0"} {
		everyNearString(s, func(near string) { checkParseRange(t, near) })
	}
}

func TestScanRangeExamples(t *testing.T) {
	for _, x := range []struct {
		values []int
		r      impl.Range
		want   []int
	}{
		{[]int{5, 2, 9, 2, 7, 1, 8, 3}, span(3, 7), []int{0, 7}},
		{[]int{5, 2, 9, 2, 7, 1, 8, 3}, span(-1000, 1000), []int{0, 1, 2, 3, 4, 5, 6, 7}},
		{[]int{9, 8, 7, 6, 5}, span(6, 9), []int{1, 2, 3}},
		{[]int{-5, 0, 5}, span(-5, 5), []int{0, 1}},
		{[]int{1, 2, 3}, span(4, 9), nil},
		// From, one below, To, and one below
		{[]int{3, 2, 7, 6}, span(3, 7), []int{0, 3}},
		// equal values
		{[]int{5, 5, 5}, span(5, 6), []int{0, 1, 2}},
		{[]int{5, 4, 5, 6, 5}, span(5, 6), []int{0, 2, 4}},
		{[]int{5, 5, 5}, span(4, 5), nil},
		// an empty list
		{nil, span(3, 7), nil},
		{[]int{}, span(-1000, 1000), nil},
		// an empty range
		{[]int{3, 4, 5}, span(4, 4), nil},
		{[]int{0, 0}, impl.Range{}, nil},
		{[]int{-1000, -999}, span(-1000, -1000), nil},
		{[]int{1000, 999}, span(1000, 1000), nil},
		// numbers beyond the limits of values
		{[]int{-1001, -1000, -999, 999, 1000, 1001}, span(-1000, 1000), []int{1, 2, 3}},
		{[]int{math.MinInt, math.MaxInt, 0}, span(-1000, 1000), []int{2}},
		// ranges that are not valid
		{[]int{3, 4, 5}, span(7, 3), nil},
		{[]int{3, 4, 5}, span(4, 3), nil},
		{[]int{3, 4, 5}, span(-1001, 5), nil},
		{[]int{3, 4, 5}, span(3, 1001), nil},
		{[]int{-1001, 1000, math.MinInt}, span(math.MinInt, math.MaxInt), nil},
		{nil, span(7, 3), nil},
	} {
		if got := impl.ScanRange(x.values, x.r); !slices.Equal(got, x.want) {
			t.Errorf("ScanRange(%d, %v) = %d, want %d", x.values, x.r, got, x.want)
		}
	}
	for name, r := range invalidRanges {
		if got := impl.ScanRange(bounds, r); len(got) != 0 {
			t.Errorf("%s: ScanRange(%d, %v) = %d", name, bounds, r, got)
		}
	}
}

// TestScanRangeOfLongLists reads lists that are longer than a column, with numbers beyond the limits.
func TestScanRangeOfLongLists(t *testing.T) {
	for _, n := range []int{63, 64, 65, 66, 1000, 5000} {
		values := make([]int, n)
		for i := range values {
			values[i] = (i*577+i*i)%3001 - 1500
			if i%7 == 0 {
				values[i] = bounds[i/7%len(bounds)]
			}
		}
		everyRange(func(r impl.Range) {
			var want []int
			for i, v := range values {
				if isSpan(r) && v >= r.From && v < r.To {
					want = append(want, i)
				}
			}
			if got := impl.ScanRange(values, r); !slices.Equal(got, want) {
				t.Errorf("ScanRange of %d values, %v = %d, want %d", n, r, got, want)
			}
		})
	}
	if got := impl.ScanRange(repeated(100, 4), span(4, 5)); len(got) != 100 || got[0] != 0 || got[99] != 99 || !slices.IsSorted(got) {
		t.Errorf("ScanRange of 100 equal values = %d", got)
	}
}

func TestScanRangeIsNewMemory(t *testing.T) {
	// All indices are equal to the values here, so that a part of the argument would pass for an answer.
	for _, whole := range [][]int{{0, 1, 2, 3}, {0, 1, 2, 900}, {5, 2, 9, 2}, {7}, {}} {
		values := spare(whole)
		before := slices.Clone(values[:cap(values)])
		first := impl.ScanRange(values, span(0, 10))
		second := impl.ScanRange(values, span(0, 10))
		want := slices.Clone(second)
		fill(first, 123)
		if !slices.Equal(second, want) || !slices.Equal(values[:cap(values)], before) {
			t.Errorf("after a change of one answer, the other is %d, it was %d, and the list is %d, it was %d", second, want, values[:cap(values)], before)
		}
		fill(values, 321)
		if !slices.Equal(second, want) {
			t.Errorf("after a change of the list, the answer is %d, it was %d", second, want)
		}
	}
}
