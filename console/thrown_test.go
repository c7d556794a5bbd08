package console_test

import (
	"fmt"
	"maps"
	"slices"
	"strings"
	"testing"

	"spindle/api"
	"spindle/audit"
	"spindle/console"
)

// A thrower throws lines, most of which go well at the console as the plain reading has it.
type thrower struct {
	dice
	plain *plainConsole
	keeps bool // most lines are about what is kept
}

func (r *thrower) name() string {
	return quote(pick(&r.dice, "a", "b", "c", "", "é", "d d", "\xff", "e", "f", "g", "\x00", "h", "i"))
}

func (r *thrower) id() uint64 {
	switch r.below(12) {
	case 0:
		return uint64(r.below(2)) * (1<<64 - 1)
	case 1, 2:
		return uint64(r.below(40))
	case 3:
		return uint64(1 + r.below(6))
	}
	if r.keeps {
		return uint64(1 + r.below(60))
	}
	return uint64(1 + r.below(6))
}

// export throws an export's number, and tells how many bytes it has.
func (r *thrower) export() (int, int) {
	if r.plain.disk == nil {
		return r.below(3), 512
	}
	n := len(r.plain.disk.exports)
	i := r.below(n)
	if r.below(25) == 0 {
		return pick(&r.dice, n, 2147483647), 512
	}
	return i, len(r.plain.disk.exports[i].bytes)
}

// place throws a range, most of them within so many bytes.
func (r *thrower) place(size int) (uint64, int) {
	off, n := r.below(size+1), 0
	switch r.below(10) {
	case 0:
		return uint64(size), r.below(2)
	case 1:
		return pick(&r.dice, uint64(size+1), 1<<64-1, 1<<63), r.below(600)
	case 2, 3, 4:
		off &^= 511
	}
	if n = 1 + r.below(min(size-off, 1600)+1); r.bool() {
		n = 512 * (n / 512)
	}
	return uint64(off), n
}

func (r *thrower) bytes(n int) string {
	b := make([]byte, n)
	fill := byte(r.below(256))
	for i := range b {
		if b[i] = fill; r.below(4) == 0 {
			b[i] = byte(r.below(256))
		}
	}
	return quote(string(b))
}

func (r *thrower) throwExport() string {
	flags := pick(&r.dice, 0, 8, 8, 8, 4, 4, 9, 1, 2, 10, 5, 12)
	return fmt.Sprintf("export %s %d %d %d %d %s", r.name(), 1+r.below(9), pick(&r.dice, 1, 1, 1, 512, 3), pick(&r.dice, 512, 512, 4096, 511), flags, r.name())
}

// shelf throws a name that is mostly one of a shelf.
func (r *thrower) shelf() string {
	names := slices.Sorted(maps.Keys(r.plain.shelves))
	if len(names) == 0 || r.below(5) == 0 {
		return r.name()
	}
	return quote(pick(&r.dice, names...))
}

func (r *thrower) keptLine() string {
	i, _ := r.export()
	switch r.below(12) {
	case 0, 1, 2:
		return "shelve " + r.name()
	case 3:
		return pick(&r.dice, "use ", "drop ") + r.shelf()
	case 4:
		return fmt.Sprintf("differ %s %d", r.shelf(), i)
	case 5:
		return pick(&r.dice, "archives", "shelves", "audit")
	case 6, 7:
		ids := slices.Sorted(maps.Keys(r.plain.archives))
		for _, id := range ids {
			if parent := r.plain.archives[id].parent; parent != 0 && r.bool() {
				return fmt.Sprintf("join %d %d", parent, id)
			}
		}
	}
	return fmt.Sprintf("backup %d %d %d", r.id(), r.id()*uint64(r.below(2)), i)
}

func (r *thrower) line() string {
	if r.keeps && r.below(3) > 0 {
		return r.keptLine()
	}
	i, size := r.export()
	off, n := r.place(size)
	switch r.below(30) {
	case 0:
		return r.throwExport()
	case 1:
		return pick(&r.dice, "forget", "repair", "repair force", "audit", "archives", "shelves", "", "# x")
	case 2:
		return fmt.Sprintf("format %d", pick(&r.dice, 60, 80, 100, 200, 50, 0, 65537))
	case 3:
		return fmt.Sprintf("rename %d %s", i, r.name())
	case 4:
		return fmt.Sprintf("describe %d %s", i, r.name())
	case 5:
		return fmt.Sprintf("readonly %d %s", i, pick(&r.dice, "on", "off"))
	case 6, 7:
		return fmt.Sprintf("read %d %d %d", i, off, n)
	case 8, 9, 10, 11, 12:
		return fmt.Sprintf("write %d %d %s", i, off, r.bytes(n))
	case 13, 14:
		return fmt.Sprintf("zero %d %d %d", i, off, n)
	case 15, 16:
		return fmt.Sprintf("trim %d %d %d", i, off, n)
	case 17:
		return fmt.Sprintf("extents %d", i)
	case 18, 19:
		return fmt.Sprintf("clear %d", i)
	case 20:
		return "shelve " + r.name()
	case 21:
		return pick(&r.dice, "use ", "drop ") + r.shelf()
	case 22:
		return fmt.Sprintf("differ %s %d", r.shelf(), i)
	case 23, 24, 25:
		return fmt.Sprintf("backup %d %d %d", r.id(), r.id()*uint64(r.below(2)), i)
	case 26:
		return fmt.Sprintf("join %d %d", r.id(), r.id())
	case 27:
		return fmt.Sprintf("restore %d %d %d", i, r.id(), r.id())
	case 28:
		return fmt.Sprintf("restore %d %s", i, r.chain())
	}
	return fmt.Sprintf("restore %d %d", i, r.id())
}

// chain throws archives that follow one another, if there are such.
func (r *thrower) chain() string {
	var ids []string
	at := uint64(0)
	for range 1 + r.below(4) {
		for id := uint64(1); id < 40; id++ {
			if a, is := r.plain.archives[id]; is && a.parent == at && (at == 0 || r.bool()) {
				at = id
				ids = append(ids, fmt.Sprint(id))
				break
			}
		}
	}
	if len(ids) == 0 {
		return "1"
	}
	return strings.Join(ids, " ")
}

// spoilt turns a line into one that is mostly none.
func (r *thrower) spoilt(line string) string {
	w := strings.Split(line, " ")
	i := r.below(len(w))
	switch r.below(7) {
	case 0:
		w = append(w[:i:i], w[i+1:]...)
	case 1:
		w = append(w[:i:i], append([]string{w[i]}, w[i:]...)...)
	case 2:
		w[i] = quote(w[i])
	case 3:
		w[i] = strings.Trim(w[i], `"`)
	case 4:
		w[i] = pick(&r.dice, "2147483648", "18446744073709551616", "01", "-1", "#", `"`, "force", "")
	case 5:
		return strings.ReplaceAll(line, " ", pick(&r.dice, "\t", "  ", " \t ", "\n", "\u00a0"))
	case 6:
		at := r.below(len(line) + 1)
		return line[:at] + string([]byte{byte(r.below(256))}) + line[at:]
	}
	return strings.Join(w, " ")
}

// wantAsPlain asks for all that the console has, as it is told.
func wantAsPlain(t *testing.T, c *console.Console, plain *plainConsole, told *[]string) {
	t.Helper()
	lines := []string{"audit", "shelves", "archives"}
	if plain.disk != nil {
		image := c.Image()
		want(t, "bytes of the disk", len(image), 512*plain.disk.sectors)
		a, e := audit.Look(image)
		want(t, "the disk is clean", e == api.OK && audit.Clean(a), true)
		for i, x := range plain.disk.exports {
			lines = append(lines, fmt.Sprintf("extents %d", i))
			want(t, fmt.Sprintf("export %d", i), a.Label.Exports[i], x.Export)
			b, _ := audit.Bytes(image, i)
			want(t, fmt.Sprintf("bytes of export %d", i), string(b), string(x.bytes))
		}
	}
	for _, line := range lines {
		*told = append(*told, line)
		if got, wanted := c.Do(line), plain.do(line); got != wanted {
			t.Errorf("%s: %q, want %q", line, got, wanted)
		}
	}
}

// P26.2 to P26.5: thrown lines against the plain reading, answer by answer; played as one text they answer the same.
func TestThrown(t *testing.T) {
	seen := map[string]int{}
	for seed := range 300 {
		r := &thrower{dice(seed), newPlain(), seed%4 == 0}
		c := console.New()
		var lines []string
		wanted := ""
		for range 1 + r.below(3) {
			lines = append(lines, r.throwExport())
		}
		lines = append(lines, "format 200")
		for n := 0; n < 300 && !t.Failed(); n++ {
			if n >= len(lines) {
				line := r.line()
				if r.below(12) == 0 {
					line = r.spoilt(line)
				}
				lines = append(lines, line)
			}
			expected := r.plain.do(lines[n])
			if got := c.Do(lines[n]); got != expected {
				t.Errorf("seed %d, line %d: %.300q: %.300q, want %.300q", seed, n, lines[n], got, expected)
			}
			word, _, _ := strings.Cut(strings.TrimLeft(lines[n], " \t")+" ", " ")
			answer, _, _ := strings.Cut(expected+" ", "\n")
			if strings.HasPrefix(answer, "error") {
				seen[word+" "+answer]++
			} else {
				seen[word]++
			}
			if n%25 == 0 {
				var told []string
				wantAsPlain(t, c, r.plain, &told)
			}
		}
		for _, line := range lines {
			wanted += "> " + line + "\n"
		}
		if t.Failed() {
			return
		}
		if seed%20 == 0 {
			wantPlayed(t, lines)
		}
		var told []string
		wantAsPlain(t, c, r.plain, &told)
	}
	for _, f := range forms {
		word := wordsOf(f.line)[0]
		if seen[word] < 20 {
			t.Errorf("%s went well %d times", word, seen[word])
		}
	}
	for _, rare := range []string{"restore error 251", "restore error 254", "restore error 62", "restore error 2", "backup error 2", "backup error 242", "shelve error 242", "clear error 190", "join error 251", "join error 62", "read error 71", "write error 71", "zero error 71", "trim error 71", "format error 30", "format error 60", "format error 61", "rename error 60", "readonly error 60", "use error 62", "drop error 62", "differ error 62", "differ error 2", "write error 260"} {
		if seen[rare] < 3 {
			t.Errorf("%s: %d times", rare, seen[rare])
		}
	}
}

// wantPlayed asks for what a plain console answers of lines, as a text.
func wantPlayed(t *testing.T, lines []string) {
	t.Helper()
	var cut []string
	for _, line := range lines {
		cut = append(cut, strings.Split(line, "\n")...)
	}
	plain := newPlain()
	wanted := ""
	for _, line := range cut {
		wanted += "> " + line + "\n" + plain.do(line)
	}
	want(t, "Play", console.Play(strings.Join(lines, "\n")+"\n"), wanted)
}

// R1: thrown bytes as a line and as a text; whatever they are, an answer is lines.
func TestThrownBytes(t *testing.T) {
	d := dice(5)
	c := console.New()
	c.Do(first[0])
	for n := range 20000 {
		b := make([]byte, d.below(40))
		for i := range b {
			b[i] = pick(&d, byte(d.below(256)), '"', '\\', ' ', '\t', '\n', '#', 'a', '0', 'x')
		}
		line := string(b)
		if n%3 == 0 {
			line = pick(&d, "write 0 0 ", "shelve ", "rename 0 ", "export ") + line
		}
		got := c.Do(line)
		if silent.MatchString(line) != (got == "") || got != "" && !strings.HasSuffix(got, "\n") {
			t.Fatalf("%q: %q", line, got)
		}
		if n%20 == 0 {
			c.Do("format 60")
			console.Play(line)
		}
	}
}
