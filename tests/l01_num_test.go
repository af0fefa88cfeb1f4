package tests

import (
	"math"
	"regexp"
	"strconv"
	"strings"
	"testing"

	"loop.example/g01984/impl"
)

// Promise 1: each decoder is the inverse of its encoder and accepts nothing else.

// everyString calls visit with all strings of at most length letters of the alphabet.
func everyString(alphabet string, length int, visit func(string)) {
	level := []string{""}
	for {
		for _, s := range level {
			visit(s)
		}
		if length == 0 {
			return
		}
		length--
		var longer []string
		for _, s := range level {
			for i := range len(alphabet) {
				longer = append(longer, s+alphabet[i:i+1])
			}
		}
		level = longer
	}
}

// everyNearString calls visit with s, with its beginnings and ends, and with s changed in one place in all ways.
func everyNearString(s string, visit func(string)) {
	visit(s)
	for i := range len(s) + 1 {
		visit(s[:i])
		for b := range 256 {
			inserted := string([]byte{byte(b)})
			visit(s[:i] + inserted + s[i:])
			if i < len(s) {
				visit(s[:i] + inserted + s[i+1:])
			}
		}
		if i < len(s) {
			visit(s[:i] + s[i+1:])
			visit(s[i:])
		}
	}
}

func everyByte() string {
	b := make([]byte, 256)
	for i := range b {
		b[i] = byte(i)
	}
	return string(b)
}

// spreadNumbers returns the neighbours of all powers of two, and of their opposites.
func spreadNumbers() []int {
	l := []int{0, 1234567, 998877665544332, math.MinInt, math.MinInt + 1, math.MaxInt, math.MaxInt - 1}
	for k := range 63 {
		for d := -1; d <= 1; d++ {
			l = append(l, 1<<k+d, -(1<<k)+d)
		}
	}
	return l
}

func TestEncodeFixedExamples(t *testing.T) {
	for _, x := range []struct {
		n, width int
		want     string
	}{
		{258, 2, "\x01\x02"},
		{0, 1, "\x00"},
		{255, 1, "\xff"},
		{256, 1, ""},
		{256, 2, "\x01\x00"},
		{65535, 2, "\xff\xff"},
		{65536, 2, ""},
		{65536, 3, "\x01\x00\x00"},
		{7, 3, "\x00\x00\x07"},
		{0x01020304050607, 7, "\x01\x02\x03\x04\x05\x06\x07"},
		{0x01020304050607, 6, ""},
		{1<<56 - 1, 7, "\xff\xff\xff\xff\xff\xff\xff"},
		{1 << 56, 7, ""},
		{0, 0, ""},
		{0, 8, ""},
		{1, 8, ""},
		{0, -1, ""},
		{0, math.MinInt, ""},
		{0, math.MaxInt, ""},
		{-1, 1, ""},
		{-1, 7, ""},
		{-256, 2, ""},
		{math.MinInt, 1, ""},
		{math.MinInt, 7, ""},
		{math.MaxInt, 7, ""},
		{math.MaxInt, 1, ""},
	} {
		if got := impl.EncodeFixed(x.n, x.width); got != x.want {
			t.Errorf("EncodeFixed(%d, %d) = %q, want %q", x.n, x.width, got, x.want)
		}
	}
}

func TestDecodeFixedExamples(t *testing.T) {
	for _, x := range []struct {
		s     string
		width int
		want  int
		ok    bool
	}{
		{"\x01\x02", 2, 258, true},
		{"\x01\x02\x03", 2, 258, true},
		{"\x01\x02", 1, 1, true},
		{"\x00", 1, 0, true},
		{"\xff", 1, 255, true},
		{"\x80\x80", 2, 0x8080, true},
		{"\x01\x02\x03\x04\x05\x06\x07", 7, 0x01020304050607, true},
		{"\xff\xff\xff\xff\xff\xff\xff", 7, 1<<56 - 1, true},
		{"", 1, 0, false},
		{"\x01", 2, 0, false},
		{"\x01\x02\x03\x04\x05\x06", 7, 0, false},
		{"\x01\x02\x03\x04\x05\x06\x07\x08\x09", 8, 0, false},
		{"\x01\x02\x03", 0, 0, false},
		{"", 0, 0, false},
		{"\x01\x02\x03", -1, 0, false},
		{"\x01\x02\x03", math.MinInt, 0, false},
		{"\x01\x02\x03", math.MaxInt, 0, false},
	} {
		if got, ok := impl.DecodeFixed(x.s, x.width); got != x.want || ok != x.ok {
			t.Errorf("DecodeFixed(%q, %d) = %d, %t, want %d, %t", x.s, x.width, got, ok, x.want, x.ok)
		}
	}
}

func TestFixedRoundTrip(t *testing.T) {
	for _, n := range spreadNumbers() {
		for width := 1; width <= 7; width++ {
			s := impl.EncodeFixed(n, width)
			if fits := 0 <= n && n < 1<<(8*width); !fits {
				if s != "" {
					t.Errorf("EncodeFixed(%d, %d) = %q, but it does not fit", n, width, s)
				}
				continue
			}
			if len(s) != width {
				t.Errorf("EncodeFixed(%d, %d) = %q", n, width, s)
			}
			if got, ok := impl.DecodeFixed(s+"\xa5", width); got != n || !ok {
				t.Errorf("DecodeFixed(%q, %d) = %d, %t, want %d", s+"\xa5", width, got, ok, n)
			}
			if got, ok := impl.DecodeFixed(s[:width-1], width); got != 0 || ok {
				t.Errorf("DecodeFixed(%q, %d) = %d, %t", s[:width-1], width, got, ok)
			}
		}
	}
	everyString(everyByte(), 2, func(s string) {
		if s == "" {
			return
		}
		if n, ok := impl.DecodeFixed(s, len(s)); !ok || impl.EncodeFixed(n, len(s)) != s {
			t.Errorf("DecodeFixed(%q, %d) = %d, %t", s, len(s), n, ok)
		}
	})
}

func TestEncodeVarintExamples(t *testing.T) {
	for _, x := range []struct {
		n    int
		want string
	}{
		{0, "\x00"},
		{1, "\x01"},
		{127, "\x7f"},
		{128, "\x80\x01"},
		{300, "\xac\x02"},
		{16383, "\xff\x7f"},
		{16384, "\x80\x80\x01"},
		{1<<42 - 1, "\xff\xff\xff\xff\xff\x7f"},
		{1 << 42, "\x80\x80\x80\x80\x80\x80\x01"},
		{impl.MaxVarint - 1, "\xfe\xff\xff\xff\xff\xff\x7f"},
		{impl.MaxVarint, "\xff\xff\xff\xff\xff\xff\x7f"},
		{impl.MaxVarint + 1, ""},
		{-1, ""},
		{-300, ""},
		{math.MinInt, ""},
		{math.MaxInt, ""},
	} {
		if got := impl.EncodeVarint(x.n); got != x.want {
			t.Errorf("EncodeVarint(%d) = %q, want %q", x.n, got, x.want)
		}
	}
}

func TestDecodeVarintExamples(t *testing.T) {
	full := strings.Repeat("\xff", 6)
	for _, x := range []struct {
		s    string
		n, k int
	}{
		{"\x00", 0, 1},
		{"\x7f", 127, 1},
		{"\x80\x01", 128, 2},
		{"\xac\x02", 300, 2},
		{"\xac\x02z", 300, 2},
		{"\x05\x80", 5, 1},
		{"\x00\x00", 0, 1},
		{"\x80\x80\x01", 16384, 3},
		{full + "\x7f", impl.MaxVarint, 7},
		{full + "\x7f\xff", impl.MaxVarint, 7},
		{full + "\x01", 1<<43 - 1, 7},
		// unnecessary bytes
		{"\x80\x00", 0, 0},
		{"\x80\x00\x01", 0, 0},
		{"\x81\x00", 0, 0},
		{"\xff\x00", 0, 0},
		{"\xac\x82\x00", 0, 0},
		{"\x80\x80\x00", 0, 0},
		{full + "\x00", 0, 0},
		{full + "\x80\x00", 0, 0},
		{full + "\xff\x00", 0, 0},
		// cut off
		{"", 0, 0},
		{"\x80", 0, 0},
		{"\xac", 0, 0},
		{"\xff\xff", 0, 0},
		{full, 0, 0},
		{full + "\xff", 0, 0},
		// beyond MaxVarint
		{full + "\x80\x01", 0, 0},
		{full + "\xff\x01", 0, 0},
		{full + "\xff\x7f", 0, 0},
		{full + "\xff\xff\x01", 0, 0},
		{full + "\xff\xff\xff\x01", 0, 0},
		{strings.Repeat("\x80", 64) + "\x01", 0, 0},
		{strings.Repeat("\xff", 1000), 0, 0},
	} {
		if n, k := impl.DecodeVarint(x.s); n != x.n || k != x.k {
			t.Errorf("DecodeVarint(%q) = %d, %d, want %d, %d", x.s, n, k, x.n, x.k)
		}
	}
}

func TestVarintRoundTrip(t *testing.T) {
	for _, n := range spreadNumbers() {
		s := impl.EncodeVarint(n)
		if n < 0 || n > impl.MaxVarint {
			if s != "" {
				t.Errorf("EncodeVarint(%d) = %q, but it is out of range", n, s)
			}
			continue
		}
		for _, rest := range []string{"", "\x00", "\xff"} {
			if got, k := impl.DecodeVarint(s + rest); got != n || k != len(s) {
				t.Errorf("DecodeVarint(%q) = %d, %d, want %d, %d", s+rest, got, k, n, len(s))
			}
		}
		for i := range len(s) {
			if got, k := impl.DecodeVarint(s[:i]); got != 0 || k != 0 {
				t.Errorf("DecodeVarint(%q) = %d, %d", s[:i], got, k)
			}
		}
	}
}

func TestVarintAcceptsNothingElse(t *testing.T) {
	known := map[string]int{}
	for n := range 1 << 14 {
		known[impl.EncodeVarint(n)] = n
	}
	everyString(everyByte(), 2, func(s string) {
		wantN, wantK := 0, 0
		for k := 1; k <= len(s); k++ {
			if n, ok := known[s[:k]]; ok {
				wantN, wantK = n, k
				break
			}
		}
		if n, k := impl.DecodeVarint(s); n != wantN || k != wantK {
			t.Errorf("DecodeVarint(%q) = %d, %d, want %d, %d", s, n, k, wantN, wantK)
		}
	})
}

func TestEncodeHexExamples(t *testing.T) {
	for _, x := range []struct{ s, want string }{
		{"", ""},
		{"a", "61"},
		{"a\xff", "61ff"},
		{"\x00\x0f\xf0", "000ff0"},
		{"\x89\xab\xcd\xef", "89abcdef"},
		{"\x80\x81", "8081"},
		{"é", "c3a9"},
	} {
		if got := impl.EncodeHex(x.s); got != x.want {
			t.Errorf("EncodeHex(%q) = %q, want %q", x.s, got, x.want)
		}
		if got, ok := impl.DecodeHex(x.want); got != x.s || !ok {
			t.Errorf("DecodeHex(%q) = %q, %t, want %q", x.want, got, ok, x.s)
		}
	}
}

func TestDecodeHexInvalid(t *testing.T) {
	for _, s := range []string{
		"6", "a", "616", "61f", // an odd number of digits
		"6F", "F6", "AB", "61FF", "0A", // uppercase digits
		"6g", "g6", "6/", "6:", "6`", "6@", "6G", "6 ", " 6", "0x", "-1", "+1", "6\n", "6\x00",
		"\x80\x80", "6\xff", "\xff6", "é", "6é6", "é6", "٣", "\u0661\u0662", "\U0001d7d8",
		"61é", "6161\xff6", "616g", "61 61 ",
	} {
		if got, ok := impl.DecodeHex(s); got != "" || ok {
			t.Errorf("DecodeHex(%q) = %q, %t", s, got, ok)
		}
	}
}

func TestHexRoundTrip(t *testing.T) {
	all := everyByte()
	if got, ok := impl.DecodeHex(impl.EncodeHex(all)); got != all || !ok {
		t.Errorf("the hexadecimal digits of all bytes are %q, %t", got, ok)
	}
	canonical := regexp.MustCompile(`^([0-9a-f][0-9a-f])*$`)
	check := func(s string) {
		got, ok := impl.DecodeHex(s)
		if ok != canonical.MatchString(s) || ok && impl.EncodeHex(got) != s || !ok && got != "" {
			t.Errorf("DecodeHex(%q) = %q, %t", s, got, ok)
		}
	}
	everyString(all, 2, check)
	everyString("09afgAF\x80\xc3", 4, check)
}

func TestFormatIntExamples(t *testing.T) {
	for _, x := range []struct {
		n    int
		want string
	}{
		{0, "0"},
		{7, "7"},
		{-7, "-7"},
		{10, "10"},
		{-120, "-120"},
		{999999999, "999999999"},
		{1000000000, "1000000000"},
		{-1000000000, "-1000000000"},
		{math.MaxInt, "9223372036854775807"},
		{math.MinInt, "-9223372036854775808"},
	} {
		if got := impl.FormatInt(x.n); got != x.want {
			t.Errorf("FormatInt(%d) = %q, want %q", x.n, got, x.want)
		}
	}
}

func TestParseIntExamples(t *testing.T) {
	for _, x := range []struct {
		s    string
		want int
	}{
		{"0", 0},
		{"7", 7},
		{"-7", -7},
		{"10", 10},
		{"-120", -120},
		{"100000000", 100000000},
		{"123456789", 123456789},
		{"-123456789", -123456789},
		{"999999999", 999999999},
		{"-999999999", -999999999},
	} {
		if got, ok := impl.ParseInt(x.s); got != x.want || !ok {
			t.Errorf("ParseInt(%q) = %d, %t, want %d", x.s, got, ok, x.want)
		}
	}
}

func TestParseIntInvalid(t *testing.T) {
	for _, s := range []string{
		"", "-", "--", "--1", "1-", "-0", "+0", "+1", "-+1", "+",
		"00", "01", "07", "-07", "000000001", "-000000001", "0000000001",
		"1000000000", "-1000000000", "1234567890", "0123456789",
		"9223372036854775807", "-9223372036854775808", "18446744073709551617", strings.Repeat("9", 1000),
		" 1", "1 ", "1\n", "\x001", "1\x00", "1_0", "1,0", "1.0", "1e3", "0x1", "a", "12a", "/", ":", "1/", "1:",
		"\x80", "1\xff", "\xb1", "é", "1é", "٣", "\u0661\u0662", "\uff11", "\u22121",
	} {
		if got, ok := impl.ParseInt(s); got != 0 || ok {
			t.Errorf("ParseInt(%q) = %d, %t", s, got, ok)
		}
	}
}

func TestIntRoundTrip(t *testing.T) {
	for _, n := range spreadNumbers() {
		s := impl.FormatInt(n)
		if s != strconv.FormatInt(int64(n), 10) {
			t.Errorf("FormatInt(%d) = %q", n, s)
		}
		fits := -999999999 <= n && n <= 999999999
		got, ok := impl.ParseInt(s)
		if ok != fits || ok && got != n || !ok && got != 0 {
			t.Errorf("ParseInt(%q) = %d, %t", s, got, ok)
		}
	}
	canonical := regexp.MustCompile(`^(0|-?[1-9][0-9]{0,8})$`)
	check := func(s string) {
		got, ok := impl.ParseInt(s)
		if ok != canonical.MatchString(s) || ok && impl.FormatInt(got) != s || !ok && got != 0 {
			t.Errorf("ParseInt(%q) = %d, %t", s, got, ok)
		}
	}
	everyString(everyByte(), 2, check)
	everyString("-+0189 \xb1", 5, check)
}
