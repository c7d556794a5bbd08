package label_test

import (
	"bytes"
	"strconv"
	"testing"

	"spindle/api"
	"spindle/label"
)

// mayBe is P6.1, looked at in another way.
func mayBe(l api.Label) bool {
	n := len(l.Exports)
	names := map[string]int{}
	sectors := 42
	for _, e := range l.Exports {
		names[e.Name]++
		if e.Name == "" || len(e.Name) > 256 || len(e.Desc) > 256 || !isText(e.Name) || !isText(e.Desc) || e.Sectors < 1 || e.Sectors > 65536 {
			return false
		}
		switch e.Min {
		case 1, 512, 1024, 2048, 4096:
		default:
			return false
		}
		switch e.Pref {
		case 512, 1024, 2048, 4096, 8192, 16384, 32768, 65536:
		default:
			return false
		}
		if e.Pref < e.Min || uint32(e.Sectors)%max(e.Min/512, 1) != 0 || e.Private && e.ReadOnly || e.Private && e.Tracked {
			return false
		}
		for range 1 + len(marksOf(e)) {
			for n := 0; n < e.Sectors; n += 4096 {
				sectors++
			}
		}
		sectors += e.Sectors
	}
	return n >= 1 && n <= 16 && len(names) == n && sectors <= 65536
}

func marksOf(e api.Export) []int {
	if e.Tracked {
		return []int{1}
	}
	return nil
}

func isText(s string) bool {
	return bytes.Equal([]byte(s), []byte(string([]rune(s)))) && !bytes.Contains([]byte(s), []byte{0})
}

// throw gives a label that may be, or nearly.
func throw(thrown *dice) api.Label {
	texts := []string{"a", "b", "c", "d", "e", "f", "ä", "\U0010ffff", "", "\x00", "\xff", "a b"}
	mins := []uint32{1, 1, 512, 1024, 2048, 4096, 256, 8192, 0}
	prefs := []uint32{512, 1024, 2048, 4096, 8192, 16384, 32768, 65536, 65536, 65536, 131072, 256}
	var l api.Label
	for i := range thrown.below(5) {
		e := api.Export{
			Name: texts[thrown.below(8)] + strconv.Itoa(i), Desc: texts[thrown.below(9)], Sectors: 8 * (1 + thrown.below(600)),
			ReadOnly: thrown.below(4) == 0, Rotational: thrown.bool(), Private: thrown.below(5) == 0, Tracked: thrown.below(4) == 0,
			Min: mins[thrown.below(6)], Pref: prefs[4+thrown.below(6)],
		}
		switch thrown.below(40) {
		case 0:
			e.Name = texts[thrown.below(len(texts))]
		case 1:
			e.Desc = texts[thrown.below(len(texts))]
		case 2:
			e.Sectors += thrown.below(9) - 4
		case 3:
			e.Min = mins[thrown.below(len(mins))]
		case 4:
			e.Pref = prefs[thrown.below(len(prefs))]
		case 5:
			e.Sectors *= 1 + thrown.below(60)
		case 6:
			e.Name = "a0"
		}
		l.Exports = append(l.Exports, e)
	}
	return l
}

// P6.1, P6.4, P6.5: labels that were thrown
func TestThrownLabels(t *testing.T) {
	var thrown dice = 7
	right, wrong := 0, 0
	for i := range 3000 {
		l := throw(&thrown)
		seq := uint64(1 + i)
		what := "label " + strconv.Itoa(i)
		head, body := plain(l, seq)
		got, n, e := label.Decode(head, body)
		if !mayBe(l) {
			wrong++
			wantCheck(t, what, l, false)
			wantNoLabel(t, what, got, n, e, api.ErrSpoilt)
			continue
		}
		right++
		wantCheck(t, what, l, true)
		wantLabel(t, what, got, n, e, l, seq)
		gotHead, gotBody, _ := label.Encode(l, seq)
		want(t, what+": its bytes", bytes.Equal(gotHead, head) && bytes.Equal(gotBody, body), true)
	}
	if right < 500 || wrong < 500 {
		t.Errorf("%d right and %d wrong labels: too few", right, wrong)
	}
}

// P6.5, R1: bytes with right sums that were thrown; what is taken gives the same bytes again
func TestThrownBytes(t *testing.T) {
	var thrown dice = 8
	taken := 0
	for i := range 3000 {
		body, used := plainBody(mixed())
		count := 3
		for range 1 + thrown.below(3) {
			body[thrown.below(used+2)] ^= byte(1 << thrown.below(8))
		}
		if thrown.below(8) == 0 {
			used += thrown.below(5) - 2
		}
		head := plainHead(9, count, used, sum(body))
		l, seq, e := label.Decode(head, body)
		if e != api.OK {
			wantNoLabel(t, "bytes "+strconv.Itoa(i), l, seq, e, api.ErrSpoilt)
			continue
		}
		taken++
		again, againBody, _ := label.Encode(l, seq)
		want(t, "bytes "+strconv.Itoa(i), bytes.Equal(again, head) && bytes.Equal(againBody, body), true)
	}
	if taken < 100 {
		t.Errorf("only %d were taken", taken)
	}
}
