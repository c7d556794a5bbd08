package octet_test

import (
	"bytes"
	"strings"
	"testing"

	"spindle/api"
)

// spoil turns every bit of b and of the room behind it, so that whoever shares its memory shows it.
func spoil(b []byte) {
	b = b[:cap(b)]
	for i := range b {
		b[i] ^= 0xff
	}
}

func wantBytes(t *testing.T, what string, got []byte, want ...byte) {
	t.Helper()
	if !bytes.Equal(got, want) {
		t.Errorf("%s: %v, want %v", what, got, want)
	}
}

func wantErr(t *testing.T, what string, got, want api.Errno) {
	t.Helper()
	if got != want {
		t.Errorf("%s: error %d, want %d", what, got, want)
	}
}

func wantInt(t *testing.T, what string, got, want int) {
	t.Helper()
	if got != want {
		t.Errorf("%s: %d, want %d", what, got, want)
	}
}

// texts are texts of every kind.
func texts() []string {
	return []string{
		"", "a", "ab", " ", "\n", "\x01", "\x7f", "\"", "\\",
		"\u0080", "é", "\u07ff", "\u0800", "€", "\ud7ff", "\ue000", "\ufeff", "\ufffd", "\uffff",
		"\U00010000", "\U0001f4be", "\U0010ffff",
		"aé€\U0001f4be", "\ufffd\ufffd", strings.Repeat("a", 300),
	}
}

// notTexts are strings that are no texts: with a byte 0, and with bytes that are no valid UTF-8.
func notTexts() []string {
	return []string{
		"\x00", "a\x00", "\x00a", "a\x00b", "é\x00",
		"\x80", "\xbf", "\xff", "\xfe", "a\xff", "\xffa", "é\x80",
		"\xc3", "\xc3a", "a\xc3", "\xe2\x82", "\xe2\x82a", "\xef\xbf", "\xf0\x9f\x92",
		"\xc0\x80", "\xc0\xaf", "\xc1\xbf", "\xe0\x80\xaf", "\xe0\x9f\xbf", "\xf0\x80\x80\xaf", "\xf0\x8f\xbf\xbf",
		"\xed\xa0\x80", "\xed\xbf\xbf", "\xed\xa0\x80\xed\xb0\x80",
		"\xf4\x90\x80\x80", "\xf5\x80\x80\x80", "\xf8\x88\x80\x80\x80",
	}
}
