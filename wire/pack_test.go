package wire_test

import (
	"fmt"
	"testing"

	"spindle/api"
	"spindle/wire"
)

// P8.5, P8.6, P8.8: every kind of Data, byte by byte, there and back.
func TestPack(t *testing.T) {
	for _, c := range contents() {
		for i, s := range c.samples {
			what := fmt.Sprint("Pack ", c.name, i)
			b, e := c.pack(s.message)
			wantErr(t, what, e, api.OK)
			wantBytes(t, what, b, s.bytes)
			v, e := c.unpack(s.bytes)
			wantErr(t, "un"+what, e, api.OK)
			wantSame(t, "un"+what, v, s.message)
		}
	}
}

// P8.5: what may not be.
func TestPackRefuses(t *testing.T) {
	for _, c := range contents() {
		for _, v := range c.bad {
			b, e := c.pack(v)
			wantErr(t, "Pack "+c.name+" of "+short(v), e, api.ErrForm)
			want(t, "bytes beside the error", len(b), 0)
		}
	}
}

// P8.6: bytes of nothing that may be.
func TestUnpackRefuses(t *testing.T) {
	for _, c := range contents() {
		for i, b := range c.none {
			v, e := c.unpack(b)
			what := fmt.Sprintf("Unpack %s of row %d: %s", c.name, i, short(b))
			wantErr(t, what, e, api.ErrForm)
			wantSame(t, what, v, c.zero)
		}
		for _, b := range [][]byte{nil, {}} {
			v, e := c.unpack(b)
			wantErr(t, "Unpack "+c.name+" of nothing", e, api.ErrForm)
			wantSame(t, "Unpack "+c.name+" of nothing", v, c.zero)
		}
	}
}

// P8.6: all of the bytes are read: every beginning of a sample, and bytes behind it, is what the chapter's table says of it.
func TestUnpackOfEveryBeginning(t *testing.T) {
	for _, c := range contents() {
		for _, s := range c.samples {
			for n := range s.bytes {
				if n < 200 || n > len(s.bytes)-20 {
					wantPlain(t, c, s.bytes[:n])
				}
			}
			for _, tail := range behind() {
				wantPlain(t, c, lay(s.bytes, tail))
			}
		}
	}
}

// P8.5, R7: as many kinds and queries as may be, and one more.
func TestPackMany(t *testing.T) {
	for _, n := range []int{api.MaxInfos + 1, api.MaxInfos + 2, 65535, 65536, 65537, 100000} {
		b, e := wire.PackInfoRequest(api.InfoRequest{Name: "a", Infos: make([]uint16, n)})
		wantErr(t, fmt.Sprint("kinds: ", n), e, api.ErrMany)
		want(t, "bytes beside the error", len(b), 0)
	}
	for _, n := range []int{api.MaxQueries + 1, api.MaxQueries + 2, 256, 65536, 100000} {
		b, e := wire.PackMetaRequest(api.MetaRequest{Name: "a", Queries: make([]string, n)})
		wantErr(t, fmt.Sprint("queries: ", n), e, api.ErrMany)
		want(t, "bytes beside the error", len(b), 0)
	}
	_, e := wire.PackInfoRequest(api.InfoRequest{Infos: make([]uint16, api.MaxInfos)})
	wantErr(t, "MaxInfos", e, api.OK)
	_, e = wire.PackMetaRequest(api.MetaRequest{Queries: make([]string, api.MaxQueries)})
	wantErr(t, "MaxQueries", e, api.OK)
}

// P8.6: a number of kinds above its limit, whatever stands behind it, if the name is one.
func TestUnpackManyInfos(t *testing.T) {
	for _, n := range []int{65, 66, 128, 255, 256, 257, 65535} {
		for _, name := range texts() {
			head := lay(counted(name), uint16(n))
			for _, tail := range append(behind(), make([]byte, 2*n-1), make([]byte, 2*n), make([]byte, 2*n+1)) {
				r, e := wire.UnpackInfoRequest(lay(head, tail))
				what := fmt.Sprintf("%d kinds, %d bytes behind the number", n, len(tail))
				wantErr(t, what, e, api.ErrMany)
				wantSame(t, what, r, api.InfoRequest{})
			}
			for cut := 1; cut <= 2; cut++ {
				_, e := wire.UnpackInfoRequest(head[:len(head)-cut])
				wantErr(t, "a part of the number", e, api.ErrForm)
			}
		}
		for _, name := range notTexts() {
			_, e := wire.UnpackInfoRequest(lay(counted(name), uint16(n)))
			wantErr(t, "many kinds behind what is no text", e, api.ErrForm)
		}
	}
	_, e := wire.UnpackInfoRequest(lay(counted("a"), uint16(64)))
	wantErr(t, "MaxInfos, none of them there", e, api.ErrForm)
}

// P8.6: a number of queries above its limit, likewise.
func TestUnpackManyQueries(t *testing.T) {
	for _, n := range []uint32{17, 18, 255, 256, 1 << 16, 1<<16 + 1, 1 << 31, max32} {
		for _, name := range texts() {
			head := lay(counted(name), n)
			for _, tail := range append(behind(), make([]byte, 4*17), []byte{0, 0, 0, 1, 0}, []byte{0xff, 0xff, 0xff, 0xff}) {
				r, e := wire.UnpackMetaRequest(lay(head, tail))
				what := fmt.Sprintf("%d queries, %d bytes behind the number", n, len(tail))
				wantErr(t, what, e, api.ErrMany)
				wantSame(t, what, r, api.MetaRequest{})
			}
			for cut := 1; cut <= 4; cut++ {
				_, e := wire.UnpackMetaRequest(head[:len(head)-cut])
				wantErr(t, "a part of the number", e, api.ErrForm)
			}
		}
		for _, name := range notTexts() {
			_, e := wire.UnpackMetaRequest(lay(counted(name), n))
			wantErr(t, "many queries behind what is no text", e, api.ErrForm)
		}
	}
	_, e := wire.UnpackMetaRequest(lay(counted("a"), uint32(16)))
	wantErr(t, "MaxQueries, none of them there", e, api.ErrForm)
}

// P8.6: a name whose length is more than there is.
func TestUnpackNamesTooShort(t *testing.T) {
	for _, c := range []content{infoRequest(), metaRequest(), serverItem()} {
		for _, said := range []uint32{2, 3, 4096, 4097, 1 << 31, max32 - 3, max32} {
			v, e := c.unpack(lay(said, "a"))
			wantErr(t, c.name, e, api.ErrForm)
			wantSame(t, c.name, v, c.zero)
		}
	}
}

// P8.6: whether an error has a place is the caller's to say: the bytes of one are none of the other.
func TestUnpackErrorPlaced(t *testing.T) {
	plain, _ := wire.PackError(api.ErrorBody{Code: 5, Text: "no"})
	placed, _ := wire.PackError(api.ErrorBody{Code: 5, Text: "no", Placed: true})
	e, err := wire.UnpackError(plain, false)
	wantErr(t, "plain", err, api.OK)
	want(t, "plain", e, api.ErrorBody{Code: 5, Text: "no"})
	e, err = wire.UnpackError(placed, true)
	wantErr(t, "placed", err, api.OK)
	want(t, "placed", e, api.ErrorBody{Code: 5, Text: "no", Placed: true})
	e, err = wire.UnpackError(plain, true)
	wantErr(t, "plain as placed", err, api.ErrForm)
	want(t, "plain as placed", e, api.ErrorBody{})
	e, err = wire.UnpackError(placed, false)
	wantErr(t, "placed as plain", err, api.ErrForm)
	want(t, "placed as plain", e, api.ErrorBody{})
}

// P8.8: what is thrown and may be comes back.
func TestPackOfThrownValues(t *testing.T) {
	d := dice(11)
	kinds := contents()
	text := func() string { return pick(&d, texts()...) }
	for range 500 {
		infos := make([]uint16, d.below(65))
		for i := range infos {
			infos[i] = uint16(d.u64())
		}
		queries := make([]string, d.below(17))
		for i := range queries {
			queries[i] = text()
		}
		narrow, wide := make([]api.StatusRun, 1+d.below(20)), make([]api.StatusRun, 1+d.below(20))
		for i := range narrow {
			narrow[i] = api.StatusRun{Len: d.u64() & max32, Flags: d.u64() & max32}
		}
		for i := range wide {
			wide[i] = api.StatusRun{Len: d.u64(), Flags: d.u64()}
		}
		values := []any{
			pick(&d, api.Info{Size: d.u64(), Flags: uint16(d.u64())}, api.Info{Kind: 1, Text: text()}, api.Info{Kind: 2, Text: text()}, api.Info{Kind: 3, Min: uint32(d.u64()), Pref: uint32(d.u64()), Max: uint32(d.u64())}, api.Info{Kind: uint16(4 + d.below(65532)), Data: d.bytes(d.below(50))}),
			api.InfoRequest{Name: text(), Infos: infos},
			api.MetaRequest{Name: text(), Queries: queries},
			api.Meta{ID: uint32(d.u64()), Name: text()},
			api.ServerItem{Name: text(), Rest: d.bytes(d.below(50))},
			api.StatusBody{Context: uint32(d.u64()), Runs: narrow},
			api.StatusBody{Context: uint32(d.u64()), Runs: wide},
			api.ErrorBody{Code: uint32(d.u64()), Text: text()},
			api.ErrorBody{Code: uint32(d.u64()), Text: text(), Placed: true, At: d.u64()},
			api.DataBody{Off: d.u64(), Data: d.bytes(1 + d.below(50))},
			api.HoleBody{Off: d.u64(), Len: uint32(d.u64())},
		}
		for i, c := range kinds {
			b, e := c.pack(values[i])
			wantErr(t, "Pack "+c.name, e, api.OK)
			wantPlain(t, c, b)
			v, e := c.unpack(b)
			wantErr(t, "Unpack "+c.name, e, api.OK)
			wantSame(t, "Unpack "+c.name, v, values[i])
		}
	}
}
