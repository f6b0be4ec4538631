package fields

import (
	"bytes"

	"annals/api"
	"annals/codec"
)

// Writer writes what fields have, be it within their bounds or not.
type Writer struct{ written []byte }

// Behind is a writer that goes on behind b, in memory of its own.
func Behind(b []byte) Writer {
	return Writer{written: bytes.Clone(b)}
}

// Written is all that was written.
func (w *Writer) Written() []byte {
	return w.written
}

// Put writes bytes as they are.
func (w *Writer) Put(b []byte) {
	w.written = append(w.written, b...)
}

// Number writes a number.
func (w *Writer) Number(n *int, most int) {
	// The codec copies what it writes behind: handed all that was written each time, it would copy the whole over and over.
	w.Put(codec.Uint(nil, *n))
}

// Text writes a text.
func (w *Writer) Text(s *[]byte, most int) {
	w.Put(codec.Bytes(nil, *s))
}

// Flag writes a yes or no.
func (w *Writer) Flag(yes *bool) bool {
	w.Put(codec.Flag(nil, *yes))
	return *yes
}

// Reader fills fields in from bytes, and throws the codec's first error.
type Reader struct {
	bytes []byte
	codec *codec.Reader // what it has left is the end of the bytes
}

// Open is a reader at the beginning of b, which must stay as it is while it is read.
func Open(b []byte) Reader {
	return Reader{bytes: b, codec: codec.Open(b)}
}

// Left is what is left, in the memory of what is read.
func (r *Reader) Left() []byte {
	return r.bytes[len(r.bytes)-r.codec.Left():]
}

// GoOn has the reader go on at what another layer left, or throws that one's error.
func (r *Reader) GoOn(left []byte, errno api.Errno) {
	Throw(errno)
	*r = Open(left)
}

// End throws ErrForm, if something is left.
func (r *Reader) End() {
	Throw(r.codec.End())
}

// Number reads a number.
func (r *Reader) Number(n *int, most int) {
	*n = r.codec.Uint(most)
	Throw(r.codec.Err())
}

// Text reads a text.
func (r *Reader) Text(s *[]byte, most int) {
	*s = r.codec.Bytes(most)
	Throw(r.codec.Err())
}

// Flag reads a yes or no.
func (r *Reader) Flag(yes *bool) bool {
	*yes = r.codec.Flag()
	Throw(r.codec.Err())
	return *yes
}
