package backup_test

import (
	"testing"

	"spindle/api"
)

// The archives of the chapter's examples.
func exampleOne() archive { return full(1, hole(0, 4), data(4, "abcd")) }
func exampleTwo() archive { return since(2, 1, 8, data(7, "X")) }

func TestExample1(t *testing.T) {
	one := wantMade(t, "example 1", 1, 0, zeros(4)+"abcd", []extent{{Off: 0, Len: 4, Hole: true}, {Off: 4, Len: 4}}, exampleOne())
	b, e := encodeOf(t, one)
	wantErr(t, "example 1: Encode", e, api.OK)
	want(t, "example 1: its bytes", len(b), 44+21+21+8)
}

func TestExample2(t *testing.T) {
	two := wantMade(t, "example 2", 2, 1, "xxxxabcX", []extent{{Off: 0, Len: 7}, {Off: 7, Len: 1, Dirty: true}}, exampleTwo())
	wantRestored(t, "example 2, both", zeros(4)+"abcX", exampleOne(), two)
	wantNotRestored(t, "example 2, the second alone", 0, api.ErrLink, two)
	wantNotRestored(t, "example 2, the other way round", 0, api.ErrLink, two, exampleOne())
}

func TestExample3(t *testing.T) {
	wantJoined(t, "example 3", exampleOne(), exampleTwo(), archive{ID: 2, Parent: 0, Size: 8, Runs: []run{hole(0, 4), data(4, "abcX")}})
}

func TestExample4(t *testing.T) {
	b, _ := encodeOf(t, exampleOne())
	wantDecoded(t, "example 4, 43 bytes", b[:43], api.ErrCut)
	turned := append([]byte(nil), b...)
	turned[len(turned)-1] ^= 1
	wantDecoded(t, "example 4, its last byte turned", turned, api.ErrSeal)
	wantDecoded(t, "example 4, a byte more", append(b, 0), api.ErrCut)
}

func TestExample5(t *testing.T) {
	device := zeros(4) + "abcd"
	wantNotMade(t, "example 5, a hole over abcd", 1, 0, device, []extent{{Off: 0, Len: 4}, {Off: 4, Len: 4, Hole: true}}, api.ErrDevice)
	wantNotMade(t, "example 5, extents of 7 bytes", 1, 0, device, []extent{{Off: 0, Len: 4, Hole: true}, {Off: 4, Len: 3}}, api.ErrDevice)
	wantNotMade(t, "example 5, id 0", 0, 0, device, []extent{{Off: 0, Len: 4, Hole: true}, {Off: 4, Len: 4}}, api.ErrArg)
}
