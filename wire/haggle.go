package wire

import (
	"slices"

	"spindle/api"
	"spindle/octet"
)

// PackInfo lays an information down (P8.5).
func PackInfo(i api.Info) ([]byte, api.Errno) {
	if !infoFits(i) {
		return nil, api.ErrForm
	}
	w := octet.NewWriter()
	w.U16(i.Kind)
	switch i.Kind {
	case api.InfoExport:
		w.U64(i.Size)
		w.U16(i.Flags)
	case api.InfoName, api.InfoDesc:
		w.Raw([]byte(i.Text))
	case api.InfoBlock:
		w.U32(i.Min)
		w.U32(i.Pref)
		w.U32(i.Max)
	default:
		w.Raw(i.Data)
	}
	return w.Out(), api.OK
}

// infoFits tells whether an information has nothing but what its kind uses: the rest would be lost on the wire.
func infoFits(i api.Info) bool {
	export := i.Size == 0 && i.Flags == 0
	text := i.Text == ""
	block := i.Min == 0 && i.Pref == 0 && i.Max == 0
	data := len(i.Data) == 0
	switch i.Kind {
	case api.InfoExport:
		export = true
	case api.InfoName, api.InfoDesc:
		text = isText(i.Text)
	case api.InfoBlock:
		block = true
	default:
		data = true
	}
	return export && text && block && data
}

// UnpackInfo reads an information (P8.6).
func UnpackInfo(b []byte) (api.Info, api.Errno) {
	x := unpack(b)
	i := api.Info{Kind: x.u16()}
	switch i.Kind {
	case api.InfoExport:
		i.Size, i.Flags = x.u64(), x.u16()
	case api.InfoName, api.InfoDesc:
		i.Text = x.rawText(x.left())
	case api.InfoBlock:
		i.Min, i.Pref, i.Max = x.u32(), x.u32(), x.u32()
	default:
		i.Data = x.raw(x.left())
	}
	return whole(x, i)
}

// PackInfoRequest lays what INFO and GO ask down (P8.5).
func PackInfoRequest(r api.InfoRequest) ([]byte, api.Errno) {
	switch {
	case !isText(r.Name):
		return nil, api.ErrForm
	case len(r.Infos) > api.MaxInfos:
		return nil, api.ErrMany
	}
	w := octet.NewWriter()
	w.Text(r.Name)
	w.U16(uint16(len(r.Infos)))
	for _, kind := range r.Infos {
		w.U16(kind)
	}
	return w.Out(), api.OK
}

// UnpackInfoRequest reads what INFO and GO ask (P8.6).
func UnpackInfoRequest(b []byte) (api.InfoRequest, api.Errno) {
	x := unpack(b)
	r := api.InfoRequest{Name: x.text()}
	for range x.count(uint32(x.u16()), api.MaxInfos) {
		r.Infos = append(r.Infos, x.u16())
	}
	return whole(x, r)
}

// PackMetaRequest lays what the options of contexts ask down (P8.5).
func PackMetaRequest(r api.MetaRequest) ([]byte, api.Errno) {
	noText := func(q string) bool { return !isText(q) }
	switch {
	case !isText(r.Name) || slices.ContainsFunc(r.Queries, noText): // those beyond the limit as well: ErrMany says that nothing else is wrong
		return nil, api.ErrForm
	case len(r.Queries) > api.MaxQueries:
		return nil, api.ErrMany
	}
	w := octet.NewWriter()
	w.Text(r.Name)
	w.U32(uint32(len(r.Queries)))
	for _, q := range r.Queries {
		w.Text(q)
	}
	return w.Out(), api.OK
}

// UnpackMetaRequest reads what the options of contexts ask (P8.6).
func UnpackMetaRequest(b []byte) (api.MetaRequest, api.Errno) {
	x := unpack(b)
	r := api.MetaRequest{Name: x.text()}
	for range x.count(x.u32(), api.MaxQueries) {
		r.Queries = append(r.Queries, x.text())
	}
	return whole(x, r)
}

// PackMeta lays a context down (P8.5).
func PackMeta(m api.Meta) ([]byte, api.Errno) {
	if !isText(m.Name) {
		return nil, api.ErrForm
	}
	w := octet.NewWriter()
	w.U32(m.ID)
	w.Raw([]byte(m.Name))
	return w.Out(), api.OK
}

// UnpackMeta reads a context (P8.6).
func UnpackMeta(b []byte) (api.Meta, api.Errno) {
	x := unpack(b)
	m := api.Meta{ID: x.u32()}
	m.Name = x.rawText(x.left())
	return whole(x, m)
}

// PackServer lays an export of a list down (P8.5).
func PackServer(s api.ServerItem) ([]byte, api.Errno) {
	if !isText(s.Name) {
		return nil, api.ErrForm
	}
	w := octet.NewWriter()
	w.Text(s.Name)
	w.Raw(s.Rest)
	return w.Out(), api.OK
}

// UnpackServer reads an export of a list (P8.6).
func UnpackServer(b []byte) (api.ServerItem, api.Errno) {
	x := unpack(b)
	s := api.ServerItem{Name: x.text()}
	s.Rest = x.raw(x.left())
	return whole(x, s)
}
