package tests

import (
	"math"
	"reflect"
	"regexp"
	"slices"
	"strconv"
	"strings"
	"testing"
	"unsafe"

	"loop.example/g01984/impl"
)

// Promise 2, for tables: they can be parsed from their string format; no other strings are accepted.

// column is short for a column with its fields.
func column(name string, values ...int) impl.Column {
	return impl.Column{Name: name, Values: values}
}

func table(columns ...impl.Column) impl.Table {
	return impl.Table{Columns: columns}
}

// sameTable takes nil and empty slices as equal, as the document does.
func sameTable(a, b impl.Table) bool {
	return slices.EqualFunc(a.Columns, b.Columns, func(x, y impl.Column) bool {
		return x.Name == y.Name && slices.Equal(x.Values, y.Values)
	})
}

// repeated returns n times the number v.
func repeated(n, v int) []int {
	return slices.Repeat([]int{v}, n)
}

// numbered returns a table of valid names with values from all over the valid numbers.
func numbered(columns, rows int) impl.Table {
	var t impl.Table
	for i := range columns {
		c := impl.Column{Name: strings.Repeat(string(rune('a'+i)), 1+i*7/4)}
		for j := range rows {
			c.Values = append(c.Values, (i*613+j*577+j*j*j)%1999-999)
		}
		t.Columns = append(t.Columns, c)
	}
	return t
}

var (
	validTables = map[string]impl.Table{
		"one column":                  table(column("a", 1, 2, 3)),
		"two columns":                 table(column("a", 3, 0), column("price", -1, 999)),
		"four columns":                table(column("d", 4), column("c", 3), column("b", 2), column("a", 1)),
		"one column without rows":     table(column("a")),
		"empty lists of values":       table(column("a", []int{}...), column("b")),
		"four columns without rows":   table(column("a"), column("b"), column("c"), column("d")),
		"a name of eight bytes":       table(column("abcdefgh", 1)),
		"names that begin alike":      table(column("a", 1), column("aa", 2), column("ab", 3), column("b", 4)),
		"64 rows":                     table(column("a", repeated(64, 7)...), column("b", repeated(64, -7)...)),
		"four columns of 64 rows":     numbered(4, 64),
		"the greatest and the least":  table(column("a", 999, -999), column("b", -999, 999)),
		"equal values":                table(column("a", 5, 5), column("b", 5, 5)),
		"the first and last letter":   table(column("az", 1), column("za", 2)),
		"longest names and wide rows": table(column("aaaaaaaa", -999), column("zzzzzzzz", -999)),
	}

	invalidTables = map[string]impl.Table{
		"no columns":                     {},
		"an empty list of columns":       {Columns: []impl.Column{}},
		"five columns":                   numbered(5, 1),
		"five columns without rows":      numbered(5, 0),
		"65 rows":                        table(column("a", repeated(65, 1)...)),
		"four columns of 65 rows":        numbered(4, 65),
		"a second column that is longer": table(column("a", 1), column("b", 1, 2)),
		"a shorter second column":        table(column("a", 1, 2), column("b", 1)),
		"a shorter last column":          table(column("a", 1, 2), column("b", 1, 2), column("c", 1, 2), column("d", 1)),
		"a shorter column in the middle": table(column("a", 1, 2), column("b", 1), column("c", 1, 2)),
		"a second column without values": table(column("a", 1), column("b")),
		"a first column without values":  table(column("a"), column("b", 1)),
		"two columns of one name":        table(column("a", 1), column("a", 1)),
		"one name at both ends":          table(column("a", 1), column("b", 2), column("c", 3), column("a", 1)),
		"one name without rows":          table(column("b"), column("a"), column("a")),
		"no name":                        table(column("", 1)),
		"no second name":                 table(column("a", 1), column("", 2)),
		"a name of nine bytes":           table(column("abcdefghi", 1)),
		"a capital":                      table(column("A", 1)),
		"a digit":                        table(column("a", 1), column("b2", 1)),
		"a space in a name":              table(column("a b", 1)),
		"a newline in a name":            table(column("a\n1\nb", 1)),
		"a byte of 128 and more":         table(column("a\x80", 1)),
		"a letter of two bytes":          table(column("é", 1)),
		"1000":                           table(column("a", 1, 1000)),
		"-1000":                          table(column("a", -1000, 1)),
		"1000 in the last column":        table(column("a", 1), column("b", 1000)),
		"the greatest int":               table(column("a", math.MaxInt)),
		"the least int":                  table(column("a", math.MinInt)),
	}
)

func TestIsNameExamples(t *testing.T) {
	for _, s := range []string{"a", "z", "az", "price", "abcdefg", "abcdefgh", "zzzzzzzz"} {
		if !impl.IsName(s) {
			t.Errorf("IsName(%q) = false", s)
		}
	}
	for _, s := range []string{
		"", "abcdefghi", "abcdefghij", strings.Repeat("a", 1000),
		"A", "Z", "aB", "Ab", "aBc", "1", "a1", "1a", "0", "`", "{", "a`", "a{", "@", "[",
		" ", "a ", " a", "a b", "a\n", "\na", "a\x00", "\x00", "_", "a-b", "a.b",
		"\x80", "\xff", "a\x80", "\xe1", "\xfa", "é", "aé", "ａ", "ª", "abcdefg\xff",
	} {
		if impl.IsName(s) {
			t.Errorf("IsName(%q) = true", s)
		}
	}
}

func TestIsNameOfAllBytes(t *testing.T) {
	pattern := regexp.MustCompile(`^[a-z]{1,8}$`)
	check := func(s string) {
		if got := impl.IsName(s); got != pattern.MatchString(s) {
			t.Errorf("IsName(%q) = %t", s, got)
		}
	}
	everyString(everyByte(), 2, check)
	for length := range 12 {
		s := strings.Repeat("m", length)
		check(s)
		for i := range length {
			for b := range 256 {
				check(s[:i] + string([]byte{byte(b)}) + s[i+1:])
			}
		}
	}
}

func TestAreValuesExamples(t *testing.T) {
	for _, l := range [][]int{
		nil, {}, {0}, {999}, {-999}, {999, -999, 0}, {5, 5, 5},
		repeated(63, 1), repeated(64, 1), repeated(64, 999), repeated(64, -999),
	} {
		if !impl.AreValues(l) {
			t.Errorf("AreValues(%d) = false", l)
		}
	}
	for _, l := range [][]int{
		{1000}, {-1000}, {math.MaxInt}, {math.MinInt}, {0, 1000}, {1000, 0}, {0, -1000, 0},
		repeated(65, 0), repeated(65, 999), repeated(1000, 0), append(repeated(63, 0), 1000),
	} {
		if impl.AreValues(l) {
			t.Errorf("AreValues(%d) = true", l)
		}
	}
}

func TestAreValuesOfAllNumbers(t *testing.T) {
	for v := -2100; v <= 2100; v++ {
		if got := impl.AreValues([]int{v}); got != (-999 <= v && v <= 999) {
			t.Errorf("AreValues of %d = %t", v, got)
		}
	}
	for n := range 130 {
		if got := impl.AreValues(make([]int, n)); got != (n <= 64) {
			t.Errorf("AreValues of %d numbers = %t", n, got)
		}
	}
	for i := range 64 {
		for _, v := range []int{-1000, 1000, math.MinInt, math.MaxInt} {
			l := make([]int, 64)
			l[i] = v
			if impl.AreValues(l) {
				t.Errorf("AreValues with %d at %d = true", v, i)
			}
		}
	}
}

func TestIsTable(t *testing.T) {
	for name, x := range validTables {
		if !impl.IsTable(x) {
			t.Errorf("%s: IsTable = false", name)
		}
	}
	for name, x := range invalidTables {
		if impl.IsTable(x) {
			t.Errorf("%s: IsTable = true", name)
		}
	}
	for columns := range 8 {
		for _, rows := range []int{0, 1, 2, 63, 64, 65, 66, 128} {
			want := 1 <= columns && columns <= 4 && rows <= 64
			if got := impl.IsTable(numbered(columns, rows)); got != want {
				t.Errorf("IsTable of %d columns with %d rows = %t", columns, rows, got)
			}
		}
	}
}

// TestIsTableOfEachColumn spoils one column of a valid table at a time.
func TestIsTableOfEachColumn(t *testing.T) {
	for i := range 4 {
		for what, spoil := range map[string]func(*impl.Column){
			"shorter":      func(c *impl.Column) { c.Values = c.Values[:len(c.Values)-1] },
			"longer":       func(c *impl.Column) { c.Values = append(c.Values, 1) },
			"empty":        func(c *impl.Column) { c.Values = nil },
			"too great":    func(c *impl.Column) { c.Values[2] = 1000 },
			"too small":    func(c *impl.Column) { c.Values[0] = -1000 },
			"unnamed":      func(c *impl.Column) { c.Name = "" },
			"in capitals":  func(c *impl.Column) { c.Name = "AB" },
			"as the third": func(c *impl.Column) { c.Name = []string{"ccc", "ccc", "a", "ccc"}[i] },
		} {
			x := table(column("a", 1, 2, 3), column("bb", 1, 2, 3), column("ccc", 1, 2, 3), column("d", 1, 2, 3))
			if !impl.IsTable(x) {
				t.Fatal("the table is valid before")
			}
			spoil(&x.Columns[i])
			if impl.IsTable(x) || impl.RowCount(x) != 0 || impl.FormatTable(x) != "" {
				t.Errorf("column %d %s: IsTable = %t, RowCount = %d, FormatTable = %q",
					i, what, impl.IsTable(x), impl.RowCount(x), impl.FormatTable(x))
			}
		}
	}
}

func TestRowCount(t *testing.T) {
	for name, x := range validTables {
		if got := impl.RowCount(x); got != len(x.Columns[0].Values) {
			t.Errorf("%s: RowCount = %d", name, got)
		}
	}
	for name, x := range invalidTables {
		if got := impl.RowCount(x); got != 0 {
			t.Errorf("%s: RowCount = %d", name, got)
		}
	}
	for _, rows := range []int{0, 1, 2, 63, 64} {
		for columns := 1; columns <= 4; columns++ {
			if got := impl.RowCount(numbered(columns, rows)); got != rows {
				t.Errorf("RowCount of %d columns with %d rows = %d", columns, rows, got)
			}
		}
	}
}

func TestFindColumn(t *testing.T) {
	four := table(column("d", 4), column("c", 3), column("b", 2), column("a", 1))
	for _, x := range []struct {
		t    impl.Table
		name string
		want int
	}{
		{four, "d", 0},
		{four, "c", 1},
		{four, "a", 3},
		{four, "e", -1},
		{four, "", -1},
		{four, "dd", -1},
		{four, "D", -1},
		{four, "d ", -1},
		{table(column("price", 1)), "pric", -1},
		{table(column("pric", 1)), "price", -1},
		{table(column("a")), "a", 0},
		// tables that are not valid
		{impl.Table{}, "a", -1},
		{impl.Table{}, "", -1},
		{table(column("a", 1), column("a", 2)), "a", 0},
		{table(column("b", 1), column("a", 2), column("a", 3)), "a", 1},
		{table(column("a", 1, 2), column("b", 1)), "b", 1},
		{table(column("a", 1000), column("b", 1)), "b", 1},
		{table(column("a", 1), column("", 1)), "", 1},
		{table(column("A1", 1)), "A1", 0},
		{table(column("a", 1), column("é\x80", 1)), "é\x80", 1},
		{table(column("abcdefghi", 1)), "abcdefghi", 0},
		{table(column("a\nb", repeated(65, 1)...)), "a\nb", 0},
		{numbered(6, 1), numbered(6, 1).Columns[5].Name, 5},
	} {
		if got := impl.FindColumn(x.t, x.name); got != x.want {
			t.Errorf("FindColumn(%v, %q) = %d, want %d", x.t, x.name, got, x.want)
		}
	}
}

func TestColumnOf(t *testing.T) {
	for name, x := range validTables {
		for i, c := range x.Columns {
			if got, ok := impl.ColumnOf(x, c.Name); !ok || !slices.Equal(got, x.Columns[i].Values) {
				t.Errorf("%s: ColumnOf(%q) = %d, %t", name, c.Name, got, ok)
			}
		}
		for _, missing := range []string{"", "q", "A", "aaaaaaaaa", "a ", "\xff"} {
			if got, ok := impl.ColumnOf(x, missing); len(got) != 0 || ok {
				t.Errorf("%s: ColumnOf(%q) = %d, %t", name, missing, got, ok)
			}
		}
	}
	for name, x := range invalidTables {
		names := []string{"", "a", "b"}
		for _, c := range x.Columns {
			names = append(names, c.Name)
		}
		for _, column := range names {
			if got, ok := impl.ColumnOf(x, column); len(got) != 0 || ok {
				t.Errorf("%s: ColumnOf(%q) = %d, %t", name, column, got, ok)
			}
		}
	}
}

func TestFormatTableExamples(t *testing.T) {
	for _, x := range []struct {
		t    impl.Table
		want string
	}{
		{table(column("a", 3, 0), column("price", -1, 999)), "a price\n3 -1\n0 999\n"},
		{table(column("a", 1, 2, 3)), "a\n1\n2\n3\n"},
		{table(column("a")), "a\n"},
		{table(column("abcdefgh"), column("b")), "abcdefgh b\n"},
		{table(column("d", 4), column("c", 3), column("b", 2), column("a", 1)), "d c b a\n4 3 2 1\n"},
		{table(column("a", 0, -999, 999)), "a\n0\n-999\n999\n"},
		{table(column("a", repeated(64, -10)...)), "a\n" + strings.Repeat("-10\n", 64)},
	} {
		if got := impl.FormatTable(x.t); got != x.want {
			t.Errorf("FormatTable(%v) = %q, want %q", x.t, got, x.want)
		}
		if got, ok := impl.ParseTable(x.want); !sameTable(got, x.t) || !ok {
			t.Errorf("ParseTable(%q) = %v, %t", x.want, got, ok)
		}
	}
	for name, x := range invalidTables {
		if got := impl.FormatTable(x); got != "" {
			t.Errorf("%s: FormatTable = %q", name, got)
		}
	}
}

func TestTableRoundTrip(t *testing.T) {
	check := func(name string, x impl.Table) {
		s := impl.FormatTable(x)
		if got, ok := impl.ParseTable(s); s == "" || !ok || !sameTable(got, x) {
			t.Errorf("%s: ParseTable(%q) = %v, %t, want %v", name, s, got, ok, x)
		}
	}
	for name, x := range validTables {
		check(name, x)
	}
	for columns := 1; columns <= 4; columns++ {
		for rows := range 65 {
			check("numbered", numbered(columns, rows))
		}
	}
	for v := -999; v <= 999; v++ {
		check("one number", table(column("a", v)))
	}
}

func TestParseTableInvalid(t *testing.T) {
	for _, s := range []string{
		"", "\n", "\n\n", " ", " \n", "1\n", "\n1\n", "\na\n",
		// names
		"A\n", "aB\n", "a1\n", "a A\n", "a 1\n", "abcdefghi\n", "a abcdefghi\n", "a\x80\n", "\xff\n", "é\n", "a-b\n", "a,b\n", "a\x00\n",
		"a a\n", "a a\n1 2\n", "a b c a\n", "a b a\n1 2 3\n", "a b c d e\n", "a b c d e\n1 2 3 4 5\n", strings.Repeat("a", 1000) + "\n",
		"a b c d \n", "a b c d e f g h\n",
		// newlines
		"a", "a b", "a\n1", "a\n1\n2", "a b\n1 2\n3 4", "a\n\n", "a\n\n1\n", "a\n1\n\n", "a\n1\n\n2\n", "\na\n1\n", "a b\n1 2\n\n3 4\n", "a\r\n", "a\n1\r\n", "a\n1\r2\n",
		// spaces
		"a  b\n1 2\n", " a\n", "a \n", " a b\n", "a b \n", "a\tb\n1 2\n", "a b\n1  2\n", "a b\n 1 2\n", "a b\n1 2 \n", "a\n 1\n", "a\n1 \n", "a\n \n", "a b\n1\t2\n", "a\n1\n ", "a\n1\n \n", "a\n1\n2 \n", "a b\n1 2\n3  4\n",
		// rows with too few or too many numbers
		"a b\n1\n", "a b\n1 2\n3\n", "a b\n1 \n", "a b\n 1\n", "a b\n1 2 3\n", "a\n1 2\n", "a\n1\n1 2\n", "a b c d\n1 2 3 4 5\n", "a b c d\n1 2 3\n", "a b\n1 2\n3 4 5\n", "a b c d\n1 2 3 4\n5 6 7\n",
		// numbers
		"a\n01\n", "a\n-0\n", "a\n+1\n", "a\n00\n", "a\n-01\n", "a\n1000\n", "a\n-1000\n", "a\n0999\n", "a\n1.0\n", "a\n1e1\n", "a\n0x1\n", "a\n1_0\n", "a\n--1\n", "a\n-\n", "a\nb\n", "a\n1a\n", "a\n\xb1\n", "a\n٣\n", "a\n１\n", "a\n4294967297\n", "a\n18446744073709551617\n", "a\n999999999\n",
		"a b\n1 01\n", "a b\n1 -0\n", "a b\n1 +1\n", "a b\n1 1000\n", "a b\n1 -1000\n", "a b\n1 2\n01 4\n", "a b\n1 2\n3 1000\n",
		// too many rows
		"a\n" + strings.Repeat("1\n", 65), "a\n" + strings.Repeat("1\n", 1000), "a b\n" + strings.Repeat("1 2\n", 65),
		"a\n" + strings.Repeat("1\n", 64) + "\n", "a\n" + strings.Repeat("1\n", 64) + "1", "a\n" + strings.Repeat("\n", 100000),
	} {
		if got, ok := impl.ParseTable(s); len(got.Columns) != 0 || ok {
			t.Errorf("ParseTable(%q) = %v, %t", s, got, ok)
		}
	}
}

// readTable reads a table in a way of its own: by a pattern, and then by fields.
var tablePattern = regexp.MustCompile(`^[a-z]{1,8}( [a-z]{1,8}){0,3}\n(((0|-?[1-9][0-9]{0,2})( (0|-?[1-9][0-9]{0,2}))*)\n)*$`)

func readTable(s string) (impl.Table, bool) {
	if !tablePattern.MatchString(s) {
		return impl.Table{}, false
	}
	var x impl.Table
	seen := map[string]bool{}
	lines := strings.Split(strings.TrimSuffix(s, "\n"), "\n")
	for _, name := range strings.Fields(lines[0]) {
		x.Columns = append(x.Columns, impl.Column{Name: name})
		seen[name] = true
	}
	if len(seen) != len(x.Columns) || len(lines) > 65 {
		return impl.Table{}, false
	}
	for _, line := range lines[1:] {
		numbers := strings.Fields(line)
		if len(numbers) != len(x.Columns) {
			return impl.Table{}, false
		}
		for i, number := range numbers {
			v, _ := strconv.Atoi(number)
			x.Columns[i].Values = append(x.Columns[i].Values, v)
		}
	}
	return x, true
}

func checkParseTable(t *testing.T, s string) {
	t.Helper()
	want, valid := readTable(s)
	got, ok := impl.ParseTable(s)
	if ok != valid || !sameTable(got, want) || ok && impl.FormatTable(got) != s {
		t.Errorf("ParseTable(%q) = %v, %t, want %v, %t", s, got, ok, want, valid)
	}
}

func TestParseTableAcceptsNothingElse(t *testing.T) {
	check := func(s string) { checkParseTable(t, s) }
	everyString("ab \n019-", 6, check)
	everyString("\n1 0-", 6, func(s string) { check("a\n" + s) })
	everyString("\n1 0-", 6, func(s string) { check("b a\n" + s) })
}

// TestParseTableNearFormats changes a format in one place, in all ways.
func TestParseTableNearFormats(t *testing.T) {
	for _, s := range []string{
		"a\n",
		"a b c d\n1 -2 0 999\n-999 10 100 -90\n",
		"abcdefgh price\n3 -1\n0 999\n",
		"z\n5\n5\n5\n",
		"aa aab ab\n-1 -10 -100\n",
		impl.FormatTable(table(column("a", repeated(64, 7)...))),
	} {
		everyNearString(s, func(near string) { checkParseTable(t, near) })
	}
}

// spare returns a copy of a list with marked capacity behind it.
func spare(l []int) []int {
	long := append(slices.Clone(l), 777, 888, 555)
	return long[:len(l)]
}

// withSpare returns the table with marked capacity behind all of its lists.
func withSpare(x impl.Table) impl.Table {
	columns := append(slices.Clone(x.Columns), column("spare", 1))
	columns = columns[:len(x.Columns)]
	for i := range columns {
		columns[i].Values = spare(columns[i].Values)
	}
	return impl.Table{Columns: columns}
}

// wholeTable returns a copy of the table in which all capacity is in use.
func wholeTable(x impl.Table) impl.Table {
	columns := slices.Clone(x.Columns[:cap(x.Columns)])
	for i, c := range columns {
		columns[i].Values = slices.Clone(c.Values[:cap(c.Values)])
	}
	return impl.Table{Columns: columns}
}

func fill(l []int, v int) {
	l = l[:cap(l)]
	for i := range l {
		l[i] = v
	}
}

func TestTableArgumentsStay(t *testing.T) {
	for _, tables := range []map[string]impl.Table{validTables, invalidTables} {
		for name, plain := range tables {
			x := withSpare(plain)
			before := wholeTable(x)
			impl.IsTable(x)
			impl.RowCount(x)
			impl.FormatTable(x)
			for _, c := range x.Columns {
				impl.AreValues(c.Values)
				impl.FindColumn(x, c.Name)
				got, _ := impl.ColumnOf(x, c.Name)
				fill(got, 123)
			}
			if !reflect.DeepEqual(wholeTable(x), before) {
				t.Errorf("%s: the table has become %v, it was %v", name, wholeTable(x), before)
			}
		}
	}
}

func TestColumnOfIsNewMemory(t *testing.T) {
	x := withSpare(table(column("a", 1, 2), column("b", 3, 4)))
	first, _ := impl.ColumnOf(x, "b")
	second, _ := impl.ColumnOf(x, "b")
	fill(first, 123)
	if !slices.Equal(second, []int{3, 4}) || !slices.Equal(x.Columns[1].Values, []int{3, 4}) {
		t.Errorf("after a change of one answer, the other is %d and the column %d", second, x.Columns[1].Values)
	}
	fill(x.Columns[1].Values, 321)
	if !slices.Equal(second, []int{3, 4}) {
		t.Errorf("after a change of the table, the answer is %d", second)
	}
}

func TestParseTableIsNewMemory(t *testing.T) {
	s := "a price cc d\n1 2 3 4\n5 6 7 8\n9 10 11 12\n"
	for i := range 4 {
		x, _ := impl.ParseTable(s)
		y, _ := impl.ParseTable(s)
		fill(x.Columns[i].Values, 123)
		if impl.FormatTable(y) != s {
			t.Errorf("after a change of one answer, the other is %v", y)
		}
		for j, c := range x.Columns {
			if j != i && !slices.Equal(c.Values, y.Columns[j].Values) {
				t.Errorf("after a change of column %d, column %d is %d", i, j, c.Values)
			}
		}
	}
	x, _ := impl.ParseTable(s)
	begin := uintptr(unsafe.Pointer(unsafe.StringData(s)))
	for _, c := range x.Columns {
		at := uintptr(unsafe.Pointer(unsafe.StringData(c.Name)))
		if begin <= at && at < begin+uintptr(len(s)) {
			t.Errorf("the name %s is a part of the argument", c.Name)
		}
	}
}
