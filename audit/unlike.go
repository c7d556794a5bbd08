package audit

import "spindle/api"

// unlike gives the normal list of the places at which two rows of bytes differ; where just one of them has a byte, they do.
func unlike(a, b []byte) []api.Range {
	var out []api.Range
	both := min(len(a), len(b))
	for at := range both {
		if a[at] != b[at] {
			out = joined(out, at, at+1)
		}
	}
	if longer := max(len(a), len(b)); longer > both {
		out = joined(out, both, longer)
	}
	return out
}

// joined lays a range behind others; into the last of them, if it touches that one.
func joined(l []api.Range, lo, hi int) []api.Range {
	if n := len(l); n > 0 && l[n-1].Hi == int64(lo) {
		l[n-1].Hi = int64(hi)
		return l
	}
	return append(l, api.Range{Lo: int64(lo), Hi: int64(hi)})
}
