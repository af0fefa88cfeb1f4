package impl

import (
	"strconv"
	"strings"
)

const MaxVarint = 562949953421311

// With at most seven bytes a fixed number never reaches the sign bit of an int.
const maxFixedWidth = 7

// The varint of MaxVarint has seven groups of seven bits; no varint is longer.
const maxVarintBytes = 7

const maxParsedDigits = 9

const hexDigits = "0123456789abcdef"

func isFixedWidth(width int) bool { return 1 <= width && width <= maxFixedWidth }

func EncodeFixed(n int, width int) string {
	if !isFixedWidth(width) || n < 0 || n>>(8*width) != 0 {
		return ""
	}
	encoded := make([]byte, width)
	for i := width - 1; i >= 0; i-- {
		encoded[i] = byte(n)
		n >>= 8
	}
	return string(encoded)
}

func DecodeFixed(s string, width int) (int, bool) {
	if !isFixedWidth(width) || len(s) < width {
		return 0, false
	}
	n := 0
	for i := range width {
		n = n<<8 | int(s[i])
	}
	return n, true
}

func EncodeVarint(n int) string {
	if n < 0 || n > MaxVarint {
		return ""
	}
	encoded := make([]byte, 0, maxVarintBytes)
	for n >= 128 {
		encoded = append(encoded, byte(n%128+128))
		n /= 128
	}
	return string(append(encoded, byte(n)))
}

func DecodeVarint(s string) (int, int) {
	n := 0
	for i := 0; i < len(s) && i < maxVarintBytes; i++ {
		n |= int(s[i]%128) << (7 * i)
		if s[i] >= 128 {
			continue
		}
		// Only the encoder knows the one accepted form: a last byte of 0 may be unnecessary.
		if EncodeVarint(n) != s[:i+1] {
			return 0, 0
		}
		return n, i + 1
	}
	return 0, 0
}

func EncodeHex(s string) string {
	encoded := make([]byte, 0, 2*len(s))
	for i := range len(s) {
		encoded = append(encoded, hexDigits[s[i]/16], hexDigits[s[i]%16])
	}
	return string(encoded)
}

func DecodeHex(s string) (string, bool) {
	if len(s)%2 != 0 {
		return "", false
	}
	decoded := make([]byte, len(s)/2)
	// A digit is a rune of one byte, so up to the first other rune i counts the digits.
	for i, digit := range s {
		value, ok := hexValue(digit)
		if !ok {
			return "", false
		}
		decoded[i/2] = decoded[i/2]<<4 | value
	}
	return string(decoded), true
}

func hexValue(digit rune) (byte, bool) {
	switch {
	case '0' <= digit && digit <= '9':
		return byte(digit - '0'), true
	case 'a' <= digit && digit <= 'f':
		return byte(digit-'a') + 10, true
	}
	return 0, false
}

func FormatInt(n int) string { return strconv.Itoa(n) }

func ParseInt(s string) (int, bool) {
	digits, negative := strings.CutPrefix(s, "-")
	if len(digits) > maxParsedDigits {
		return 0, false
	}
	n := 0
	for _, digit := range digits {
		if digit < '0' || digit > '9' {
			return 0, false
		}
		n = 10*n + int(digit-'0')
	}
	if negative {
		n = -n
	}
	// What is left to reject has another form than the formatted number: no digits, leading zeros, -0.
	if FormatInt(n) != s {
		return 0, false
	}
	return n, true
}
