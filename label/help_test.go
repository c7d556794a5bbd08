package label_test

import (
	"bytes"
	"encoding/binary"
	"hash/crc32"
	"slices"
	"strings"
	"testing"

	"spindle/api"
	"spindle/disk"
	"spindle/label"
)

const (
	reading = api.FaultRead
	writing = api.FaultWrite
	barring = api.FaultBarrier

	bodyBytes = 10240
)

func export(name string, sectors int) api.Export {
	return api.Export{Name: name, Sectors: sectors, Min: 1, Pref: 512}
}

// with gives an export in which one thing is changed.
func with(e api.Export, change func(*api.Export)) api.Export {
	change(&e)
	return e
}

func tracked(e api.Export) api.Export { return with(e, func(e *api.Export) { e.Tracked = true }) }

func labelOf(exports ...api.Export) api.Label { return api.Label{Exports: exports} }

func one(sectors int) api.Label { return labelOf(export("a", sectors)) }

// described gives a label in which the first export has another description.
func described(l api.Label, desc string) api.Label {
	exports := slices.Clone(l.Exports)
	exports[0].Desc = desc
	return api.Label{Exports: exports}
}

// mixed is a label of 90 sectors with something of everything.
func mixed() api.Label {
	return labelOf(
		api.Export{Name: "root", Desc: "the first", Sectors: 16, ReadOnly: true, Rotational: true, Tracked: true, Min: 4096, Pref: 65536},
		api.Export{Name: "für sich", Sectors: 7, Private: true, Min: 512, Pref: 1024},
		api.Export{Name: "c", Desc: "Ä\n\x7f", Sectors: 20, Tracked: true, Rotational: true, Min: 2048, Pref: 2048},
	)
}

// full is a label with as many exports, and as long names and descriptions, as may be.
func full() api.Label {
	var l api.Label
	for i := range api.MaxExports {
		l.Exports = append(l.Exports, api.Export{
			Name:    string(rune('a'+i)) + strings.Repeat("n", api.MaxName-1),
			Desc:    strings.Repeat("é", api.MaxDesc/2),
			Sectors: 8 * (i + 1), Tracked: i%2 == 0, Min: 4096, Pref: 32768,
		})
	}
	return l
}

func want[T comparable](t *testing.T, what string, got, want T) {
	t.Helper()
	if got != want {
		t.Errorf("%s: %v, want %v", what, got, want)
	}
}

func wantErr(t *testing.T, what string, got, want api.Errno) {
	t.Helper()
	if got != want {
		t.Errorf("%s: error %d, want %d", what, got, want)
	}
}

func sameLabel(a, b api.Label) bool { return slices.Equal(a.Exports, b.Exports) }

// wantLabel looks at what Decode or Load has answered.
func wantLabel(t *testing.T, what string, got api.Label, seq uint64, e api.Errno, l api.Label, number uint64) {
	t.Helper()
	if e != api.OK || seq != number || !sameLabel(got, l) {
		t.Errorf("%s: %v, number %d, error %d, want %v, number %d", what, got, seq, e, l, number)
	}
}

// wantNoLabel looks that an error came, and nothing beside it.
func wantNoLabel(t *testing.T, what string, got api.Label, seq uint64, e, wanted api.Errno) {
	t.Helper()
	if e != wanted || seq != 0 || len(got.Exports) != 0 {
		t.Errorf("%s: %v, number %d, error %d, want error %d alone", what, got, seq, e, wanted)
	}
}

func wantLoad(t *testing.T, what string, d *disk.Disk, l api.Label, number uint64) {
	t.Helper()
	got, seq, e := label.Load(d)
	wantLabel(t, what, got, seq, e, l, number)
}

func wantNoLoad(t *testing.T, what string, d *disk.Disk, wanted api.Errno) {
	t.Helper()
	got, seq, e := label.Load(d)
	wantNoLabel(t, what, got, seq, e, wanted)
}

// plainBody lays a label down byte by byte, whether it may be or not, and tells how many bytes are used.
func plainBody(l api.Label) ([]byte, int) {
	var b []byte
	for _, e := range l.Exports {
		b = binary.BigEndian.AppendUint16(b, uint16(len(e.Name)))
		b = append(b, e.Name...)
		b = binary.BigEndian.AppendUint16(b, uint16(len(e.Desc)))
		b = append(b, e.Desc...)
		b = binary.BigEndian.AppendUint32(b, uint32(e.Sectors))
		var flags byte
		for i, set := range []bool{e.ReadOnly, e.Rotational, e.Private, e.Tracked} {
			if set {
				flags += 1 << i
			}
		}
		b = append(b, flags)
		b = binary.BigEndian.AppendUint32(b, e.Min)
		b = binary.BigEndian.AppendUint32(b, e.Pref)
	}
	return append(b, make([]byte, bodyBytes-len(b))...), len(b)
}

func sum(b []byte) uint32 { return crc32.Checksum(b, crc32.MakeTable(crc32.Castagnoli)) }

// plainHead is a head that tells these numbers, with the right sum of itself.
func plainHead(seq uint64, count, used int, bodySum uint32) []byte {
	b := []byte{0x53, 0x50, 0x49, 0x4e, 0x44, 0x4c, 0x45, 0x31}
	b = binary.BigEndian.AppendUint64(b, seq)
	b = binary.BigEndian.AppendUint16(b, uint16(count))
	b = binary.BigEndian.AppendUint32(b, uint32(used))
	b = binary.BigEndian.AppendUint32(b, bodySum)
	return sealed(b)
}

// sealed gives a head of 26 bytes its sum, and fills it up.
func sealed(b []byte) []byte {
	b = binary.BigEndian.AppendUint32(slices.Clone(b[:26]), sum(b[:26]))
	return append(b, make([]byte, api.SectorSize-len(b))...)
}

// plain lays a label down: head and body.
func plain(l api.Label, seq uint64) ([]byte, []byte) {
	body, used := plainBody(l)
	return plainHead(seq, len(l.Exports), used, sum(body)), body
}

// stamped gives a disk on which each sector has bytes of its own, none of them 0.
func stamped(t *testing.T, sectors int) *disk.Disk {
	t.Helper()
	image := make([]byte, sectors*api.SectorSize)
	for i := range image {
		image[i] = 1 + byte((i/api.SectorSize*37+i)%255)
	}
	d, e := disk.Load(image)
	if e != api.OK {
		t.Fatal("the disk: error", e)
	}
	return d
}

func lay(t *testing.T, d *disk.Disk, first int, b []byte) {
	t.Helper()
	for i := 0; i < len(b); i += api.SectorSize {
		wantErr(t, "Write", d.Write(first+i/api.SectorSize, b[i:i+api.SectorSize]), api.OK)
	}
}

func barrier(t *testing.T, d *disk.Disk) {
	t.Helper()
	wantErr(t, "Barrier", d.Barrier(), api.OK)
}

// layLabel lays a label by hand into a slot, safe.
func layLabel(t *testing.T, d *disk.Disk, slot int, l api.Label, seq uint64) {
	t.Helper()
	head, body := plain(l, seq)
	lay(t, d, slot, head)
	lay(t, d, 2+20*slot, body)
	barrier(t, d)
}

// formatted gives a stamped disk of so many sectors with a label that Format laid down.
func formatted(t *testing.T, sectors int, l api.Label) *disk.Disk {
	t.Helper()
	d := stamped(t, sectors)
	if e := label.Format(d, l); e != api.OK {
		t.Fatal("Format: error", e)
	}
	return d
}

func commit(t *testing.T, d *disk.Disk, l api.Label) {
	t.Helper()
	wantErr(t, "Commit", label.Commit(d, l), api.OK)
}

// turn changes a byte of a sector on the disk.
func turn(t *testing.T, d *disk.Disk, sector, at int) {
	t.Helper()
	b, e := d.Read(sector)
	wantErr(t, "Read", e, api.OK)
	b[at] ^= 0x10
	lay(t, d, sector, b)
	barrier(t, d)
}

// look is all that can be told of a disk.
type look struct {
	image  []byte
	queue  []api.Put
	faults []api.Fault
	stats  api.DiskStats
}

func lookAt(d *disk.Disk) look {
	return look{d.Image(), d.Queue(), d.Faults(), d.Stats()}
}

func samePut(a, b api.Put) bool { return a.Sector == b.Sector && bytes.Equal(a.Data, b.Data) }

func wantLook(t *testing.T, what string, d *disk.Disk, l look) {
	t.Helper()
	got := lookAt(d)
	switch {
	case got.stats != l.stats:
		t.Errorf("%s: counts %v, want %v", what, got.stats, l.stats)
	case !slices.EqualFunc(got.queue, l.queue, samePut):
		t.Errorf("%s: a queue of %d writes, want %d others", what, len(got.queue), len(l.queue))
	case !bytes.Equal(got.image, l.image):
		t.Errorf("%s: other safe bytes", what)
	case !slices.Equal(got.faults, l.faults):
		t.Errorf("%s: faults %v, want %v", what, got.faults, l.faults)
	}
}

// behindLabel are the safe bytes of all sectors from 42 on.
func behindLabel(d *disk.Disk) []byte { return d.Image()[42*api.SectorSize:] }

// spoil overwrites a list and the spare room behind it.
func spoil[T any](list []T, with T) {
	list = list[:cap(list)]
	for i := range list {
		list[i] = with
	}
}

// dice gives numbers that look as if thrown, the same ones in each run.
type dice uint64

func (d *dice) below(n int) int {
	*d = *d*6364136223846793005 + 1442695040888963407
	return int(uint64(*d)>>33) % n
}

func (d *dice) bool() bool { return d.below(2) == 1 }
