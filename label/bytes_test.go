package label_test

import (
	"bytes"
	"encoding/binary"
	"math"
	"slices"
	"strconv"
	"strings"
	"testing"

	"spindle/api"
	"spindle/label"
)

// P6.4: the bytes, one by one
func TestEncodedByHand(t *testing.T) {
	l := labelOf(
		api.Export{Name: "ab", Desc: "é", Sectors: 0x0108, ReadOnly: true, Tracked: true, Min: 4096, Pref: 65536},
		api.Export{Name: "c", Sectors: 3, Rotational: true, Private: true, Min: 1, Pref: 512})
	used := []byte{
		0, 2, 'a', 'b', 0, 2, 0xc3, 0xa9, 0, 0, 1, 8, 9, 0, 0, 0x10, 0, 0, 1, 0, 0,
		0, 1, 'c', 0, 0, 0, 0, 0, 3, 6, 0, 0, 0, 1, 0, 0, 2, 0,
	}
	head, body, e := label.Encode(l, 0x0102030405060708)
	wantErr(t, "Encode", e, api.OK)
	if len(body) != 10240 || !bytes.Equal(body[:len(used)], used) || !bytes.Equal(body[len(used):], make([]byte, 10240-len(used))) {
		t.Errorf("a body of %d bytes, %v ..", len(body), body[:min(len(body), 50)])
	}
	begin := []byte{0x53, 0x50, 0x49, 0x4e, 0x44, 0x4c, 0x45, 0x31, 1, 2, 3, 4, 5, 6, 7, 8, 0, 2, 0, 0, 0, 39}
	begin = binary.BigEndian.AppendUint32(begin, sum(body))
	begin = binary.BigEndian.AppendUint32(begin, sum(begin))
	if len(head) != 512 || !bytes.Equal(head[:30], begin) || !bytes.Equal(head[30:], make([]byte, 482)) {
		t.Errorf("a head of %d bytes, %v ..", len(head), head[:min(len(head), 40)])
	}
}

func someLabels() []api.Label {
	return []api.Label{one(1), one(65478), mixed(), full(), labelOf(tracked(export("a", 4097))), labelOf(export("b", 2), export("a", 1))}
}

// P6.4, P6.5: there and back, at the edges of Seq too
func TestThereAndBack(t *testing.T) {
	for _, l := range someLabels() {
		for _, seq := range []uint64{1, 2, 255, 256, 1 << 32, math.MaxInt64 - 1, math.MaxInt64} {
			head, body, e := label.Encode(l, seq)
			wantErr(t, "Encode", e, api.OK)
			wantHead, wantBody := plain(l, seq)
			if !bytes.Equal(head, wantHead) || !bytes.Equal(body, wantBody) {
				t.Errorf("%v, number %d: other bytes", l, seq)
			}
			got, n, e := label.Decode(wantHead, wantBody)
			wantLabel(t, "Decode", got, n, e, l, seq)
		}
	}
}

// P6.4: a number that may not be; Check's error comes ahead of it
func TestNoSuchNumber(t *testing.T) {
	for _, seq := range []uint64{0, 1 << 63, 1<<63 + 1, math.MaxUint64} {
		head, body, e := label.Encode(one(1), seq)
		wantErr(t, "Encode", e, api.ErrArg)
		want(t, "bytes beside the error", len(head)+len(body), 0)
		_, _, e = label.Encode(one(0), seq)
		wantErr(t, "a wrong label", e, api.ErrLabel)
		right, rightBody := plain(one(1), seq)
		got, n, e := label.Decode(right, rightBody)
		wantNoLabel(t, "Decode", got, n, e, api.ErrNone)
	}
}

func wantDecoded(t *testing.T, what string, head, body []byte, wanted api.Errno) {
	t.Helper()
	l, n, e := label.Decode(head, body)
	wantNoLabel(t, what, l, n, e, wanted)
}

// P6.5: each bit of a head, with its old sum and with a new one
func TestEachBitOfAHead(t *testing.T) {
	head, body := plain(mixed(), 5)
	for at := range head {
		for bit := range 8 {
			turned := slices.Clone(head)
			turned[at] ^= 1 << bit
			what := "bit " + strconv.Itoa(bit) + " of byte " + strconv.Itoa(at)
			wantDecoded(t, what, turned, body, api.ErrNone)
			if at >= 26 {
				continue
			}
			turned = sealed(turned)
			switch got, n, e := label.Decode(turned, body); {
			case at < 8:
				wantNoLabel(t, what+" of the magic", got, n, e, api.ErrNone)
			case at == 8 && bit == 7:
				wantNoLabel(t, what+" of Seq", got, n, e, api.ErrNone)
			case at < 16:
				wantLabel(t, what+" of Seq", got, n, e, mixed(), 5^1<<(8*(15-at)+bit))
			default:
				wantNoLabel(t, what+" of what the body is", got, n, e, api.ErrSpoilt)
			}
		}
	}
}

// P6.5: each byte of a body
func TestEachByteOfABody(t *testing.T) {
	head, body := plain(mixed(), 5)
	for at := range body {
		turned := slices.Clone(body)
		turned[at] ^= 1 << (at % 8)
		wantDecoded(t, "byte "+strconv.Itoa(at), head, turned, api.ErrSpoilt)
	}
}

// P6.5: heads and bodies of other lengths; of a wrong head the body is not looked at
func TestOtherLengths(t *testing.T) {
	head, body := plain(mixed(), 5)
	for _, n := range []int{0, 1, 8, 30, 511} {
		wantDecoded(t, "a short head", head[:n], body, api.ErrNone)
	}
	wantDecoded(t, "no head", nil, nil, api.ErrNone)
	wantDecoded(t, "a long head", append(slices.Clone(head), 0), body, api.ErrNone)
	wantDecoded(t, "two heads", append(slices.Clone(head), head...), body, api.ErrNone)
	wantDecoded(t, "zeros", make([]byte, 512), body, api.ErrNone)
	wantDecoded(t, "zeros, and a short body", make([]byte, 512), body[:5], api.ErrNone)
	wantDecoded(t, "no body", head, nil, api.ErrSpoilt)
	_, used := plainBody(mixed())
	for _, b := range [][]byte{{}, body[:used], body[:512], body[:10239], append(slices.Clone(body), 0), make([]byte, 20480)} {
		wantDecoded(t, "a body of "+strconv.Itoa(len(b)), head, b, api.ErrSpoilt)
		right := plainHead(5, 3, used, sum(b))
		wantDecoded(t, "a body of "+strconv.Itoa(len(b))+", with its sum", right, b, api.ErrSpoilt)
	}
}

// P6.5: a body with the right sum is just so many exports in just so many bytes
func TestJustSoMany(t *testing.T) {
	for _, l := range someLabels() {
		body, used := plainBody(l)
		count := len(l.Exports)
		for _, n := range []int{0, 1, count - 1, count + 1, 16, 17, 256 + count, 65535} {
			if n != count {
				wantDecoded(t, "so many exports: "+strconv.Itoa(n), plainHead(1, n, used, sum(body)), body, api.ErrSpoilt)
			}
		}
		for _, n := range []int{0, 1, used - 1, used + 1, used + 17, 10240, 10241, 10240 + used, 65536 + used, math.MaxInt32, math.MaxUint32} {
			wantDecoded(t, "so many bytes: "+strconv.Itoa(n), plainHead(1, count, n, sum(body)), body, api.ErrSpoilt)
		}
		for at := used; at < len(body); at += 1 + (len(body)-used)/97 {
			tail := slices.Clone(body)
			tail[at] = 1
			wantDecoded(t, "not 0 at "+strconv.Itoa(at), plainHead(1, count, used, sum(tail)), tail, api.ErrSpoilt)
		}
		last := slices.Clone(body)
		last[10239] = 255
		wantDecoded(t, "not 0 at the end", plainHead(1, count, used, sum(last)), last, api.ErrSpoilt)
	}
	zeros := make([]byte, 10240)
	wantDecoded(t, "no exports", plainHead(1, 0, 0, sum(zeros)), zeros, api.ErrSpoilt)
	for _, used := range []int{1, 17, 34, 10240} {
		wantDecoded(t, "zeros", plainHead(1, used/17, used, sum(zeros)), zeros, api.ErrSpoilt)
	}
}

// P6.5: exports in a row, cut off at each byte, are not so many
func TestCutOff(t *testing.T) {
	whole, used := plainBody(mixed())
	for n := range used {
		body := make([]byte, 10240)
		copy(body, whole[:n])
		wantDecoded(t, "cut off at "+strconv.Itoa(n), plainHead(1, 3, n, sum(body)), body, api.ErrSpoilt)
	}
}

// P6.5: flags that there are not
func TestFlagsThatAreNot(t *testing.T) {
	body, used := plainBody(one(8))
	at := used - 9
	for flags := range 256 {
		body[at] = byte(flags)
		head := plainHead(1, 1, used, sum(body))
		l, n, e := label.Decode(head, body)
		if flags < 16 && (flags&4 == 0 || flags&9 == 0) {
			wantLabel(t, "flags "+strconv.Itoa(flags), l, n, e, labelOf(with(export("a", 8), func(e *api.Export) {
				e.ReadOnly, e.Rotational, e.Private, e.Tracked = flags&1 != 0, flags&2 != 0, flags&4 != 0, flags&8 != 0
			})), 1)
		} else {
			wantNoLabel(t, "flags "+strconv.Itoa(flags), l, n, e, api.ErrSpoilt)
		}
	}
}

// P6.5: bytes that are exports and make no label that may be
func TestNoLabelThatMayBe(t *testing.T) {
	a := export("a", 8)
	many := make([]api.Export, 17)
	for i := range many {
		many[i] = export(strconv.Itoa(i), 1)
	}
	for what, l := range map[string]api.Label{
		"seventeen":          labelOf(many...),
		"one name":           labelOf(a, a),
		"no name":            labelOf(export("", 8)),
		"a long name":        labelOf(export(strings.Repeat("a", 257), 8)),
		"a name with 0":      labelOf(export("a\x00", 8)),
		"a name not UTF-8":   labelOf(export("\xff", 8)),
		"a long description": described(labelOf(a), strings.Repeat("a", 257)),
		"a description of 0": described(labelOf(a), "\x00"),
		"no sectors":         one(0),
		"many sectors":       one(65479),
		"as many as may be":  one(math.MaxUint32),
		"the highest bit":    one(1 << 31),
		"Min":                labelOf(with(a, func(e *api.Export) { e.Min = 0 })),
		"Min 256":            labelOf(with(a, func(e *api.Export) { e.Min = 256 })),
		"Pref":               labelOf(with(a, func(e *api.Export) { e.Pref = 131072 })),
		"Pref below Min":     labelOf(with(a, func(e *api.Export) { e.Min, e.Pref = 1024, 512 })),
		"no whole blocks":    labelOf(with(a, func(e *api.Export) { e.Sectors, e.Min, e.Pref = 9, 1024, 1024 })),
		"too much in all":    labelOf(export("a", 40000), export("b", 40000)),
	} {
		head, body := plain(l, 1)
		wantDecoded(t, what, head, body, api.ErrSpoilt)
	}
}
