package octet_test

import (
	"bytes"
	"hash/crc32"
	"math/rand"
	"testing"

	"spindle/octet"
)

// Example 4 of the chapter, and the values that P1.4 names.
func TestExampleCrc(t *testing.T) {
	cases := []struct {
		parts [][]byte
		want  uint32
	}{
		{nil, 0},
		{[][]byte{}, 0},
		{[][]byte{nil}, 0},
		{[][]byte{{}, nil, {}}, 0},
		{[][]byte{[]byte("123456789")}, 0xe3069283},
		{[][]byte{[]byte("1234"), []byte("56789")}, 0xe3069283},
		{[][]byte{nil, []byte("12345678"), {}, []byte("9"), nil}, 0xe3069283},
		{[][]byte{{97}}, 0xc1d04330},
	}
	for _, c := range cases {
		if got := octet.Crc(c.parts...); got != c.want {
			t.Errorf("Crc(%v): %#x, want %#x", c.parts, got, c.want)
		}
	}
	if octet.Crc() != 0 {
		t.Error("Crc():", octet.Crc())
	}
}

// P1.4: the values that are published for CRC-32C.
func TestCrcAsPublished(t *testing.T) {
	rising, falling := make([]byte, 32), make([]byte, 32)
	for i := range rising {
		rising[i], falling[31-i] = byte(i), byte(i)
	}
	cases := []struct {
		b    []byte
		want uint32
	}{
		{make([]byte, 32), 0x8a9136aa},
		{bytes.Repeat([]byte{255}, 32), 0x62a8ab43},
		{rising, 0x46dd794e},
		{falling, 0x113fdb5c},
	}
	for _, c := range cases {
		if got := octet.Crc(c.b); got != c.want {
			t.Errorf("Crc(%v): %#x, want %#x", c.b, got, c.want)
		}
	}
}

// P1.4: the sum of every byte, and of longer lists, however they are cut into parts.
func TestCrcOfParts(t *testing.T) {
	table := crc32.MakeTable(crc32.Castagnoli)
	for v := range 256 {
		if got, want := octet.Crc([]byte{byte(v)}), crc32.Checksum([]byte{byte(v)}, table); got != want {
			t.Errorf("Crc of the byte %d: %#x, want %#x", v, got, want)
		}
	}
	rnd := rand.New(rand.NewSource(2))
	for range 300 {
		b := make([]byte, rnd.Intn(2000))
		rnd.Read(b)
		want := crc32.Checksum(b, table)
		var parts [][]byte
		for rest := b; ; {
			n := rnd.Intn(len(rest)/2 + 2)
			if n > len(rest) {
				parts = append(parts, rest)
				break
			}
			parts, rest = append(parts, rest[:n]), rest[n:]
		}
		if got := octet.Crc(parts...); got != want {
			t.Errorf("Crc of %d bytes in %d parts: %#x, want %#x", len(b), len(parts), got, want)
		}
	}
	long := bytes.Repeat([]byte("spindle"), 1<<17)
	if octet.Crc(long) != crc32.Checksum(long, table) {
		t.Error("Crc of many bytes")
	}
	many := make([][]byte, 1000)
	for i := range many {
		many[i] = long[i : i+1]
	}
	if octet.Crc(many...) != crc32.Checksum(long[:1000], table) {
		t.Error("Crc of many parts")
	}
}

// P1.4: lists that differ only within 32 bits side by side have unlike sums. (Each burst turns its first bit, so that one is turned wherever the list ends.)
func TestCrcTellsBursts(t *testing.T) {
	rnd := rand.New(rand.NewSource(3))
	for size := 1; size <= 40; size++ {
		b := make([]byte, size)
		rnd.Read(b)
		sum := octet.Crc(b)
		for at := range 8 * size {
			for _, burst := range []uint32{1, 3, 0xffffffff, 0x80000001, 0x105ec76f, rnd.Uint32() | 1, rnd.Uint32() | 1} {
				other := bytes.Clone(b)
				for i := range 32 {
					if place := at + i; burst>>i&1 == 1 && place < 8*size {
						other[place/8] ^= 1 << (place % 8)
					}
				}
				if octet.Crc(other) == sum {
					t.Fatalf("the burst %#x at bit %d of %v is not told", burst, at, b)
				}
			}
		}
	}
}

// R4, R5: what is handed to Crc is not changed, its spare room included, and the sum is the same each time.
func TestCrcChangesNothing(t *testing.T) {
	room := []byte("1234xxxxxxxxxx")
	parts := make([][]byte, 2, 4)
	parts[0], parts[1] = room[:4], []byte("56789")
	for range 3 {
		if got := octet.Crc(parts...); got != 0xe3069283 {
			t.Errorf("Crc: %#x", got)
		}
	}
	if string(room) != "1234xxxxxxxxxx" || string(parts[0]) != "1234" || string(parts[1]) != "56789" || parts[:4][2] != nil {
		t.Error("Crc changed what it was handed")
	}
}
