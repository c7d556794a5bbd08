package octet_test

import (
	"math"
	"math/rand"
	"strconv"
	"strings"
	"testing"

	"spindle/api"
	"spindle/octet"
)

// Example 5 of the chapter.
func TestExampleDigits(t *testing.T) {
	if s := octet.Hex([]byte{0, 255}); s != "00ff" {
		t.Errorf("Hex: %q", s)
	}
	wantUnhexRefused(t, "0F")
	wantNumber(t, "007", 0, api.ErrDigits)
	wantNumber(t, "18446744073709551616", 0, api.ErrLong)
	wantNumber(t, "0", 0, api.OK)
}

func wantUnhexRefused(t *testing.T, s string) {
	t.Helper()
	if b, e := octet.Unhex(s); len(b) != 0 || e != api.ErrHex {
		t.Errorf("Unhex(%q): %v, error %d", s, b, e)
	}
}

func wantNumber(t *testing.T, s string, v uint64, want api.Errno) {
	t.Helper()
	if got, e := octet.Number(s); got != v || e != want {
		t.Errorf("Number(%q): %d, error %d, want %d, %d", s, got, e, v, want)
	}
}

// P1.5, P1.7: each byte is two digits, the higher half first, and comes back.
func TestHex(t *testing.T) {
	const digits = "0123456789abcdef"
	var all []byte
	var want strings.Builder
	for v := range 256 {
		two := string(digits[v/16]) + string(digits[v%16])
		if s := octet.Hex([]byte{byte(v)}); s != two {
			t.Errorf("Hex of %d: %q", v, s)
		}
		b, e := octet.Unhex(two)
		wantErr(t, "Unhex", e, api.OK)
		wantBytes(t, "Unhex of "+two, b, byte(v))
		all = append(all, byte(v))
		want.WriteString(two)
	}
	if s := octet.Hex(all); s != want.String() {
		t.Errorf("Hex of all bytes: %q", s)
	}
	b, e := octet.Unhex(want.String())
	wantErr(t, "Unhex of all bytes", e, api.OK)
	wantBytes(t, "Unhex of all bytes", b, all...)
	if octet.Hex(nil) != "" || octet.Hex([]byte{}) != "" {
		t.Error("Hex of no bytes")
	}
	b, e = octet.Unhex("")
	wantErr(t, "Unhex of no digits", e, api.OK)
	wantBytes(t, "Unhex of no digits", b)
}

// P1.5: what is no digit, at each place, and an odd number of them.
func TestUnhexRefuses(t *testing.T) {
	for v := range 256 {
		c := string([]byte{byte(v)})
		if strings.Contains("0123456789abcdef", c) {
			continue
		}
		for _, s := range []string{c + "0", "0" + c, c + c, "00" + c + "0", "000" + c, "0" + c + "00"} {
			wantUnhexRefused(t, s)
		}
	}
	for _, s := range []string{"0", "f", "000", "abcde", "G", "0x0", "é", "éé", " 00", "00 ", "0000000g", "FF", "aB", "Ab"} {
		wantUnhexRefused(t, s)
	}
}

// R4: what Unhex answers is new memory each time; what Hex is handed is not changed.
func TestHexMemory(t *testing.T) {
	a, _ := octet.Unhex("0102")
	b, _ := octet.Unhex("0102")
	spoil(a)
	wantBytes(t, "another answer", b, 1, 2)
	c, _ := octet.Unhex("0102")
	wantBytes(t, "a later answer", c, 1, 2)
	room := []byte{1, 2, 3, 4}
	if s := octet.Hex(room[:2]); s != "0102" {
		t.Errorf("Hex: %q", s)
	}
	wantBytes(t, "what Hex was handed", room, 1, 2, 3, 4)
}

// P1.5, P1.7: numbers in digits come back.
func TestDecimal(t *testing.T) {
	cases := map[uint64]string{
		0: "0", 1: "1", 7: "7", 9: "9", 10: "10", 11: "11", 99: "99", 100: "100", 101: "101", 4096: "4096",
		math.MaxUint32: "4294967295", math.MaxInt64: "9223372036854775807", 1 << 63: "9223372036854775808",
		9999999999999999999: "9999999999999999999", 10000000000000000000: "10000000000000000000",
		math.MaxUint64 - 1: "18446744073709551614", math.MaxUint64: "18446744073709551615",
	}
	for v, s := range cases {
		if got := octet.Decimal(v); got != s {
			t.Errorf("Decimal(%d): %q", v, got)
		}
		wantNumber(t, s, v, api.OK)
	}
	rnd := rand.New(rand.NewSource(4))
	for range 2000 {
		v := rnd.Uint64() >> rnd.Intn(64)
		s := octet.Decimal(v)
		if s != strconv.FormatUint(v, 10) {
			t.Errorf("Decimal(%d): %q", v, s)
		}
		wantNumber(t, s, v, api.OK)
	}
}

// P1.5: what is no number in digits.
func TestNumberRefusesOtherThanDigits(t *testing.T) {
	for v := range 256 {
		c := string([]byte{byte(v)})
		if v >= '0' && v <= '9' {
			wantNumber(t, c, uint64(v-'0'), api.OK)
			continue
		}
		for _, s := range []string{c, c + "1", "1" + c, "1" + c + "1", "1844674407370955161" + c, "99999999999999999999" + c, c + "99999999999999999999"} {
			wantNumber(t, s, 0, api.ErrDigits)
		}
	}
	for _, s := range []string{"", "00", "01", "0000", "007", "018446744073709551616", "0" + strings.Repeat("9", 100), "0x10", "0b1", "0o7", "1_000", "1e3", "+0", "-0", "١", "１", "12 "} {
		wantNumber(t, s, 0, api.ErrDigits)
	}
}

// P1.5: numbers above 2^64 - 1, those among them that wrap round to small ones.
func TestNumberRefusesTooGreat(t *testing.T) {
	for _, s := range []string{
		"18446744073709551616", "18446744073709551617", "18446744073709551620", "18446744073709551625", "18446744073709551700", "20000000000000000000",
		"36893488147419103232", "55340232221128654848", "99999999999999999999",
		"100000000000000000000", "184467440737095516150", "184467440737095516160", "1" + strings.Repeat("0", 64), strings.Repeat("9", 1000),
		"340282366920938463463374607431768211456",
	} {
		wantNumber(t, s, 0, api.ErrLong)
	}
}
