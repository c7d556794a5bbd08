package console_test

import (
	"bytes"
	"fmt"
	"math"
	"regexp"
	"sort"
	"strconv"
	"strings"
	"unicode/utf8"

	"spindle/api"
	"spindle/octet"
)

// A plain reading of the chapter: exports are arrays of bytes with a bool a sector, archives have a letter a byte, and nothing is reckoned by another layer.

type plainExport struct {
	api.Export
	bytes        []byte
	laid, marked []bool
}

type plainDisk struct {
	sectors, seq int
	exports      []*plainExport
}

func (d *plainDisk) copy() *plainDisk {
	out := &plainDisk{sectors: d.sectors, seq: d.seq}
	for _, x := range d.exports {
		out.exports = append(out.exports, &plainExport{x.Export, bytes.Clone(x.bytes), append([]bool{}, x.laid...), append([]bool{}, x.marked...)})
	}
	return out
}

type plainArchive struct {
	id, parent uint64
	kind       []byte // of each byte: space, if it has none; h, a hole; d, data
	data       []byte
}

type plainConsole struct {
	disk     *plainDisk
	draft    []api.Export
	shelves  map[string]*plainDisk
	archives map[uint64]plainArchive
}

func newPlain() *plainConsole {
	return &plainConsole{shelves: map[string]*plainDisk{}, archives: map[uint64]plainArchive{}}
}

// give gives up, with an error's number.
func give(e api.Errno) { panic(e) }

var (
	silent   = regexp.MustCompile(`^[ \t]*(#|$)`)
	oneWord  = regexp.MustCompile(`(?s)^[ \t]*(?:"((?:[^"\\]|\\.)*)"|([^ \t"][^ \t]*))(?:[ \t]|$)`)
	noWord   = regexp.MustCompile(`^[ \t]*$`)
	numbered = regexp.MustCompile(`^(0|[1-9][0-9]{0,19})$`)
)

type plainLine struct {
	words []string // of each word: what it says, behind a q, if it was quoted, or a b
}

func cutPlain(line string) plainLine {
	var out plainLine
	for !noWord.MatchString(line) {
		m := oneWord.FindStringSubmatchIndex(line)
		switch {
		case m == nil:
			give(api.ErrCommand)
		case m[2] >= 0:
			s, e := octet.Unquote(line[m[2]-1 : m[3]+1])
			if e != api.OK {
				give(api.ErrCommand)
			}
			out.words = append(out.words, "q"+s)
		default:
			out.words = append(out.words, "b"+line[m[4]:m[5]])
		}
		line = line[m[1]:]
	}
	return out
}

func (l *plainLine) take(kind byte) string {
	if len(l.words) == 0 || l.words[0][0] != kind {
		give(api.ErrCommand)
	}
	w := l.words[0][1:]
	l.words = l.words[1:]
	return w
}

func (l *plainLine) number(most uint64) uint64 {
	w := l.take('b')
	v, err := strconv.ParseUint(w, 10, 64)
	if !numbered.MatchString(w) || err != nil || v > most {
		give(api.ErrCommand)
	}
	return v
}

func (l *plainLine) int() int { return int(l.number(math.MaxInt32)) }

func (l *plainLine) u64() uint64 { return l.number(math.MaxUint64) }

func (l *plainLine) quoted() string { return l.take('q') }

func (l *plainLine) end() {
	if len(l.words) > 0 {
		give(api.ErrCommand)
	}
}

// do does a line.
func (c *plainConsole) do(line string) (out string) {
	if silent.MatchString(line) {
		return ""
	}
	defer func() {
		if e := recover(); e != nil {
			out = fmt.Sprintf("error %d\n", e.(api.Errno))
		}
	}()
	l := cutPlain(line)
	out = c.doWords(l.take('b'), &l)
	if out == "" {
		out = "ok\n"
	}
	return out
}

func (c *plainConsole) doWords(word string, l *plainLine) string {
	switch word {
	case "export":
		x := api.Export{Name: l.quoted(), Sectors: l.int(), Min: uint32(l.number(math.MaxUint32)), Pref: uint32(l.number(math.MaxUint32))}
		f := l.number(15)
		x.ReadOnly, x.Rotational, x.Private, x.Tracked = f%2 == 1, f/2%2 == 1, f/4%2 == 1, f/8 == 1
		x.Desc = l.quoted()
		l.end()
		if len(c.draft) == 16 {
			give(api.ErrExports)
		}
		c.draft = append(c.draft, x)
		return ""
	case "forget":
		l.end()
		c.draft = nil
		return ""
	case "format":
		n := l.int()
		l.end()
		c.disk = formatPlain(n, c.draft)
		return ""
	case "use", "drop":
		name := l.quoted()
		l.end()
		d := c.shelf(name)
		if word == "use" {
			c.disk = d.copy()
		} else {
			delete(c.shelves, name)
		}
		return ""
	case "shelves":
		l.end()
		var names []string
		for name := range c.shelves {
			names = append(names, name)
		}
		sort.Strings(names)
		out := ""
		for _, name := range names {
			out += fmt.Sprintf("shelf %s %d\n", octet.Quote(name), c.shelves[name].sectors)
		}
		return out
	case "rename", "describe", "readonly":
		return c.relabel(word, l)
	case "read", "write", "zero", "trim", "extents", "clear":
		return c.device(word, l)
	}
	return c.others(word, l)
}

func (c *plainConsole) shelf(name string) *plainDisk {
	if c.shelves[name] == nil {
		give(api.ErrNone)
	}
	return c.shelves[name]
}

func (c *plainConsole) needDisk() {
	if c.disk == nil {
		give(api.ErrNone)
	}
}

func (c *plainConsole) export(i int) *plainExport {
	c.needDisk()
	if i >= len(c.disk.exports) {
		give(api.ErrArg)
	}
	return c.disk.exports[i]
}

func plainText(s string) bool { return utf8.ValidString(s) && !strings.Contains(s, "\x00") }

func twoTo(v uint32, from, to uint32) bool {
	for x := from; x <= to; x *= 2 {
		if x == v {
			return true
		}
	}
	return false
}

// checkPlain gives up on exports that make no label, and tells how many sectors they take.
func checkPlain(list []api.Export) int {
	sum := 42
	names := map[string]bool{}
	right := len(list) >= 1 && len(list) <= 16
	for _, x := range list {
		right = right && plainText(x.Name) && len(x.Name) >= 1 && len(x.Name) <= 256 && plainText(x.Desc) && len(x.Desc) <= 256
		right = right && x.Sectors >= 1 && x.Sectors <= 65536 && (x.Min == 1 || twoTo(x.Min, 512, 4096)) && twoTo(x.Pref, max(x.Min, 512), 65536)
		right = right && 512*x.Sectors%int(max(x.Min, 1)) == 0 && !(x.Private && (x.ReadOnly || x.Tracked)) && !names[x.Name]
		names[x.Name] = true
		sum += x.Sectors + (x.Sectors+4095)/4096
		if x.Tracked {
			sum += (x.Sectors + 4095) / 4096
		}
	}
	if !right || sum > 65536 {
		give(api.ErrLabel)
	}
	return sum
}

func formatPlain(n int, draft []api.Export) *plainDisk {
	if n < 1 || n > 65536 {
		give(api.ErrSectors)
	}
	if checkPlain(draft) > n {
		give(api.ErrSmall)
	}
	d := &plainDisk{sectors: n, seq: 1}
	for _, x := range draft {
		d.exports = append(d.exports, &plainExport{x, make([]byte, 512*x.Sectors), make([]bool, x.Sectors), make([]bool, x.Sectors)})
	}
	return d
}

func (c *plainConsole) relabel(word string, l *plainLine) string {
	i := l.int()
	var turn func(x *api.Export)
	switch word {
	case "readonly":
		w := l.take('b')
		if w != "on" && w != "off" {
			give(api.ErrCommand)
		}
		turn = func(x *api.Export) { x.ReadOnly = w == "on" }
	default:
		s := l.quoted()
		turn = func(x *api.Export) {
			if word == "rename" {
				x.Name = s
			} else {
				x.Desc = s
			}
		}
	}
	l.end()
	c.export(i)
	var list []api.Export
	for _, x := range c.disk.exports {
		list = append(list, x.Export)
	}
	turn(&list[i])
	checkPlain(list)
	c.disk.exports[i].Export = list[i]
	c.disk.seq++
	return ""
}

func (x *plainExport) bounds(off, n uint64) {
	if size := uint64(len(x.bytes)); off > size || n > size-off {
		give(api.ErrBounds)
	}
}

func (x *plainExport) hole(s int) {
	x.laid[s] = false
	clear(x.bytes[512*s : 512*s+512])
}

// lay writes bytes, and clean lays zeros down, or makes holes of whole sectors.
func (x *plainExport) lay(off uint64, b []byte) {
	for i := range b {
		at := int(off) + i
		x.bytes[at] = b[i]
		x.laid[at/512], x.marked[at/512] = true, x.Tracked
	}
}

func (x *plainExport) clean(off, n uint64, trim bool) {
	for s := range x.laid {
		lo, hi := max(int(off), 512*s), min(int(off+n), 512*s+512)
		if lo >= hi || trim && hi-lo < 512 {
			continue
		}
		x.marked[s] = x.Tracked
		if hi-lo == 512 {
			x.hole(s)
		}
		clear(x.bytes[lo:hi])
	}
}

func (c *plainConsole) device(word string, l *plainLine) string {
	i := l.int()
	var off, n uint64
	var b string
	switch word {
	case "read":
		off, n = l.u64(), uint64(l.int())
	case "write":
		off, b = l.u64(), l.quoted()
		n = uint64(len(b))
	case "zero", "trim":
		off, n = l.u64(), l.u64()
	}
	l.end()
	x := c.export(i)
	x.bounds(off, n)
	switch word {
	case "read":
		return "bytes " + octet.Quote(string(x.bytes[off:off+n])) + "\n"
	case "write":
		x.lay(off, []byte(b))
	case "zero", "trim":
		x.clean(off, n, word == "trim")
	case "extents":
		return x.extents()
	case "clear":
		if !x.Tracked {
			give(api.ErrMarks)
		}
		clear(x.marked)
	}
	return ""
}

func (x *plainExport) extents() string {
	out := ""
	for s := 0; s < len(x.laid); {
		from := s
		for s++; s < len(x.laid) && x.laid[s] == x.laid[from] && x.marked[s] == x.marked[from]; s++ {
		}
		out += fmt.Sprintf("run %d %d", 512*from, 512*(s-from))
		if !x.laid[from] {
			out += " hole"
		}
		if x.marked[from] {
			out += " dirty"
		}
		out += "\n"
	}
	return out
}

func (c *plainConsole) others(word string, l *plainLine) string {
	switch word {
	case "audit", "archives":
		l.end()
		c.needDisk()
		if word == "audit" {
			return c.disk.audit()
		}
		return c.list()
	case "repair":
		if len(l.words) > 0 && l.take('b') != "force" {
			give(api.ErrCommand)
		}
		l.end()
		c.needDisk() // there is nothing to be mended
	case "shelve":
		name := l.quoted()
		l.end()
		c.needDisk()
		if c.shelves[name] == nil && len(c.shelves) == 8 {
			give(api.ErrBusy)
		}
		c.shelves[name] = c.disk.copy()
	case "differ":
		name, i := l.quoted(), l.int()
		l.end()
		c.needDisk()
		other := c.shelf(name)
		if i >= len(c.disk.exports) || i >= len(other.exports) {
			give(api.ErrArg)
		}
		return differ(c.disk.exports[i].bytes, other.exports[i].bytes)
	case "backup":
		id, parent, i := l.u64(), l.u64(), l.int()
		l.end()
		return c.backup(id, parent, c.export(i))
	case "join":
		a, b := l.u64(), l.u64()
		l.end()
		c.needDisk()
		return c.join(c.archive(a), c.archive(b))
	case "restore":
		i, ids := l.int(), []uint64{l.u64()}
		for len(l.words) > 0 {
			ids = append(ids, l.u64())
		}
		c.restore(c.export(i), ids)
	default:
		give(api.ErrCommand)
	}
	return ""
}

func (d *plainDisk) audit() string {
	out := fmt.Sprintf("sectors %d\nlabel %d %d\n", d.sectors, (d.seq+1)%2, d.seq)
	count := func(list []bool) int {
		n := 0
		for _, is := range list {
			if is {
				n++
			}
		}
		return n
	}
	for i, x := range d.exports {
		out += fmt.Sprintf("export %d %s %d laid %d marked %d\n", i, octet.Quote(x.Name), x.Sectors, count(x.laid), count(x.marked))
	}
	return out + "clean\n"
}

func differ(a, b []byte) string {
	unlike := func(i int) bool { return i >= len(a) || i >= len(b) || a[i] != b[i] }
	out := ""
	for i := 0; i < max(len(a), len(b)); i++ {
		if !unlike(i) {
			continue
		}
		from := i
		for i < max(len(a), len(b)) && unlike(i) {
			i++
		}
		out += fmt.Sprintf("range %d %d\n", from, i)
	}
	return out
}

func (a plainArchive) line() string {
	runs := 0
	for i, k := range a.kind {
		if k != ' ' && (i == 0 || a.kind[i-1] != k) {
			runs++
		}
	}
	return fmt.Sprintf("archive %d %d %d %d\n", a.id, a.parent, len(a.kind), runs)
}

func (c *plainConsole) list() string {
	var ids []uint64
	for id := range c.archives {
		ids = append(ids, id)
	}
	sort.Slice(ids, func(i, j int) bool { return ids[i] < ids[j] })
	out := ""
	for _, id := range ids {
		out += c.archives[id].line()
	}
	return out
}

func (c *plainConsole) keep(a plainArchive) string {
	if _, older := c.archives[a.id]; !older && len(c.archives) == 32 {
		give(api.ErrBusy)
	}
	c.archives[a.id] = a
	return a.line()
}

func (c *plainConsole) backup(id, parent uint64, x *plainExport) string {
	if id == 0 || id == parent {
		give(api.ErrArg)
	}
	a := plainArchive{id, parent, bytes.Repeat([]byte{' '}, len(x.bytes)), make([]byte, len(x.bytes))}
	for i := range x.bytes {
		switch {
		case parent != 0 && !x.marked[i/512]:
		case x.laid[i/512]:
			a.kind[i], a.data[i] = 'd', x.bytes[i]
		default:
			a.kind[i] = 'h'
		}
	}
	return c.keep(a)
}

func (c *plainConsole) archive(id uint64) plainArchive {
	a, is := c.archives[id]
	if !is {
		give(api.ErrNone)
	}
	return a
}

// over lays an archive over another one.
func (a plainArchive) over(below plainArchive) plainArchive {
	out := plainArchive{a.id, below.parent, bytes.Clone(below.kind), bytes.Clone(below.data)}
	for i, k := range a.kind {
		if k != ' ' {
			out.kind[i], out.data[i] = k, a.data[i]
		}
	}
	return out
}

func (c *plainConsole) join(a, b plainArchive) string {
	if b.parent != a.id || len(b.kind) != len(a.kind) || b.id == a.parent {
		give(api.ErrLink)
	}
	return c.keep(b.over(a))
}

func (c *plainConsole) restore(x *plainExport, ids []uint64) {
	var chain []plainArchive
	for _, id := range ids {
		chain = append(chain, c.archive(id))
	}
	for i, a := range chain {
		if i == 0 && a.parent != 0 || i > 0 && (a.parent != chain[i-1].id || len(a.kind) != len(chain[i-1].kind)) {
			give(api.ErrLink)
		}
	}
	if len(chain[0].kind) != len(x.bytes) {
		give(api.ErrDevice)
	}
	out := chain[0]
	for _, a := range chain[1:] {
		out = a.over(out)
	}
	x.lay(0, out.data)
}
