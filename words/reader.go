package words

import (
	"math"

	"spindle/api"
	"spindle/octet"
)

// Reader takes a line's words one behind the other. Once a word is not there, or is of another kind than the one that is asked for, it has failed, and answers zero values from then on: so what a whole line says can be read ahead of asking whether it may be.
type Reader struct {
	left   []word
	failed bool
}

// Read answers a reader of a line's words; one that has failed, if the line can't be cut into words.
func Read(line string) *Reader {
	left, ok := cut(line)
	return &Reader{left: left, failed: !ok}
}

// Fail makes it fail: the words say what may not be.
func (r *Reader) Fail() { r.left, r.failed = nil, true }

// More tells whether a word is left.
func (r *Reader) More() bool { return len(r.left) > 0 }

// Done tells whether it has not failed, and has given all words.
func (r *Reader) Done() bool { return !r.failed && !r.More() }

// next takes a word, if the next one is of that kind.
func (r *Reader) next(quoted bool) string {
	if !r.More() || r.left[0].quoted != quoted {
		r.Fail()
		return ""
	}
	w := r.left[0]
	r.left = r.left[1:]
	return w.text
}

// Match takes the next word, if it is this bare one; else none.
func (r *Reader) Match(text string) bool {
	is := r.More() && r.left[0] == word{text: text}
	if is {
		r.left = r.left[1:]
	}
	return is
}

// Bare takes a bare word.
func (r *Reader) Bare() string { return r.next(false) }

// Quoted takes a quoted word: what it says.
func (r *Reader) Quoted() string { return r.next(true) }

// Bytes takes a quoted word, as bytes.
func (r *Reader) Bytes() []byte { return []byte(r.Quoted()) }

// Number takes a bare word that is a number, and at most that one.
func (r *Reader) Number(most uint64) uint64 {
	v, e := octet.Number(r.Bare())
	if e != api.OK || v > most {
		r.Fail()
		return 0
	}
	return v
}

// Int takes a number of at most 2147483647.
func (r *Reader) Int() int { return int(r.Number(math.MaxInt32)) }

// U16 takes a number of 16 bits.
func (r *Reader) U16() uint16 { return uint16(r.Number(math.MaxUint16)) }

// U32 takes a number of 32 bits.
func (r *Reader) U32() uint32 { return uint32(r.Number(math.MaxUint32)) }

// U64 takes a number of 64 bits.
func (r *Reader) U64() uint64 { return r.Number(math.MaxUint64) }
