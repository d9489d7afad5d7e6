// Package octet: numbers as bytes, the highest first: see DOC.md, chapter 1.
package octet

import "bytes"

// longest is the greatest length that Short's one byte can tell.
const longest = 255

// Writer has the bytes that were laid so far.
type Writer struct {
	laid []byte
}

// NewWriter makes a Writer without bytes.
func NewWriter() *Writer {
	return &Writer{}
}

// U8 lays n modulo 2^8 in one byte.
func (w *Writer) U8(n int) {
	w.laid = append(w.laid, byte(n))
}

// U16 lays n modulo 2^16 in two bytes.
func (w *Writer) U16(n int) {
	w.laid = append(w.laid, byte(n>>8), byte(n))
}

// S32 lays n modulo 2^32 in four bytes.
func (w *Writer) S32(n int) {
	w.laid = append(w.laid, byte(n>>24), byte(n>>16), byte(n>>8), byte(n))
}

// Raw lays b as it is.
func (w *Writer) Raw(b []byte) {
	w.laid = append(w.laid, b...)
}

// Short lays b's length in one byte, and b; it lays nothing, and answers
// false, where one byte can't tell the length.
func (w *Writer) Short(b []byte) bool {
	if len(b) > longest {
		return false
	}
	w.U8(len(b))
	w.Raw(b)
	return true
}

// Bytes answers all that was laid, in new memory.
func (w *Writer) Bytes() []byte {
	return bytes.Clone(w.laid)
}

// Reader takes bytes from the front of what is left.
type Reader struct {
	left []byte
	lack bool
}

// NewReader makes a Reader of b's bytes as they are now: it takes a copy, so
// that nothing that is done to b later shows in an answer.
func NewReader(b []byte) *Reader {
	return &Reader{left: bytes.Clone(b)}
}

// U8 takes one byte, as a number from 0 on.
func (r *Reader) U8() int {
	return int(r.number(1))
}

// U16 takes two bytes, as a number from 0 on.
func (r *Reader) U16() int {
	return int(r.number(2))
}

// S32 takes four bytes, as a number with a sign.
func (r *Reader) S32() int {
	return int(int32(r.number(4)))
}

// Raw takes n bytes, in new memory.
func (r *Reader) Raw(n int) []byte {
	return bytes.Clone(r.take(n))
}

// Short takes a length in one byte, and so many bytes. Where the length itself
// is lacking it is 0, and the Reader goes on lacking.
func (r *Reader) Short() []byte {
	return r.Raw(r.U8())
}

// Lack tells whether something was asked for that is not there.
func (r *Reader) Lack() bool {
	return r.lack
}

// Left answers how many bytes can still be taken.
func (r *Reader) Left() int {
	return len(r.left)
}

// number takes size bytes, the highest first; 0 where they are not all there.
func (r *Reader) number(size int) uint32 {
	n := uint32(0)
	for _, b := range r.take(size) {
		n = n<<8 | uint32(b)
	}
	return n
}

// take answers the next n bytes, still the Reader's own. Where it lacks it
// gives up what is left, so that all later answers are 0 without a look at lack.
func (r *Reader) take(n int) []byte {
	if n < 0 || n > len(r.left) {
		r.left, r.lack = nil, true
		return nil
	}
	taken := r.left[:n]
	r.left = r.left[n:]
	return taken
}
