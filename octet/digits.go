package octet

import (
	"strconv"

	"spindle/api"
)

const hexDigits = "0123456789abcdef"

// Hex answers bytes in hexadecimal digits.
func Hex(b []byte) string {
	out := make([]byte, 0, 2*len(b))
	for _, v := range b {
		out = append(out, hexDigits[v>>4], hexDigits[v&15])
	}
	return string(out)
}

// Unhex reads them.
func Unhex(s string) ([]byte, api.Errno) {
	if len(s)%2 != 0 {
		return nil, api.ErrHex
	}
	out := make([]byte, 0, len(s)/2)
	for i := 0; i < len(s); i += 2 {
		high, okHigh := hexValue(s[i])
		low, okLow := hexValue(s[i+1])
		if !okHigh || !okLow {
			return nil, api.ErrHex
		}
		out = append(out, high<<4|low)
	}
	return out, api.OK
}

// hexValue tells what a digit stands for. Capital letters are none, so that each row of bytes is written in one way.
func hexValue(digit byte) (byte, bool) {
	switch {
	case isDecimal(digit):
		return digit - '0', true
	case digit >= 'a' && digit <= 'f':
		return digit - 'a' + 10, true
	}
	return 0, false
}

func isDecimal(b byte) bool { return b >= '0' && b <= '9' }

// Decimal answers a number's digits.
func Decimal(v uint64) string { return strconv.FormatUint(v, 10) }

// Number reads them.
func Number(s string) (uint64, api.Errno) {
	if !decimalForm(s) {
		return 0, api.ErrDigits
	}
	v, err := strconv.ParseUint(s, 10, 64)
	if err != nil { // of digits alone, that is a number too great
		return 0, api.ErrLong
	}
	return v, api.OK
}

// decimalForm tells whether s has the form in which Decimal writes numbers, however great.
func decimalForm(s string) bool {
	if s == "" || s[0] == '0' && len(s) > 1 {
		return false
	}
	for i := range len(s) {
		if !isDecimal(s[i]) {
			return false
		}
	}
	return true
}
