package parts

import (
	"bytes"

	"annals/api"
	"annals/codec"
)

// The greatest number, and the longest text, that are read; and how many bytes these take at most.
const (
	maxNumber  = 1 << 16
	maxText    = 300
	numberRoom = 9
	textRoom   = numberRoom + maxText
)

// Put is b, and behind it, in b's own room, a part's kind, and what a leaf or a closed fork has.
func Put(b []byte, p api.Part) []byte {
	b = PutNumbers(b, p.Kind)
	switch p.Kind {
	case api.EndLeaf:
		b = putText(putText(b, p.ID), p.Key)
		return PutNumbers(b, p.Since)
	case api.EndClosed:
		b = PutFork(b, p)
		return append(append(b, p.Left...), p.Right...)
	}
	return b
}

// PutFork is b, and behind it, in b's own room, what each fork has.
func PutFork(b []byte, p api.Part) []byte {
	return PutNumbers(putText(PutNumbers(b, p.Depth), p.Prefix), p.Newest)
}

// PutNumbers is b, and behind it, in b's own room, numbers.
func PutNumbers(b []byte, numbers ...int) []byte {
	for _, n := range numbers {
		// The codec copies what it writes behind: handed b each time, it would copy the whole over and over.
		b = append(b, codec.Uint(nil, n)...)
	}
	return b
}

// putText is b, and behind it, in b's own room, a text.
func putText(b, s []byte) []byte {
	return append(b, codec.Bytes(nil, s)...)
}

// Reader takes parts, numbers and digests off bytes, and stays at the first error.
type Reader struct {
	rest  []byte
	errno api.Errno
}

// Open is a reader at the beginning of b, which must stay as it is while it is read.
func Open(b []byte) *Reader {
	return &Reader{rest: b}
}

// Err is the first error.
func (r *Reader) Err() api.Errno {
	return r.errno
}

// Left is what is left, in memory of its own.
func (r *Reader) Left() []byte {
	return bytes.Clone(r.rest)
}

// Part is the next part, without an open fork's kids: the codec's error, or ErrForm of a kind above most.
func (r *Reader) Part(size, most int) api.Part {
	p := api.Part{Kind: r.Number()}
	if p.Kind > most {
		r.errno = api.ErrForm
	}
	switch p.Kind {
	case api.EndLeaf:
		p.ID = r.text()
		p.Key = r.text()
		p.Since = r.Number()
	case api.EndClosed:
		r.fork(&p)
		p.Left = r.Digest(size)
		p.Right = r.Digest(size)
	case api.EndOpen:
		r.fork(&p)
	}
	return p
}

// fork fills in what each fork has.
func (r *Reader) fork(p *api.Part) {
	p.Depth = r.Number()
	p.Prefix = r.text()
	p.Newest = r.Number()
}

// Number is the next number: the codec's error, ErrFull above 2^16.
func (r *Reader) Number() int {
	return r.Count(maxNumber)
}

// Count is the next number: the codec's error, ErrFull above most.
func (r *Reader) Count(most int) int {
	n := 0
	r.take(numberRoom, func(c *codec.Reader) { n = c.Uint(most) })
	return n
}

// text is the next text: the codec's error.
func (r *Reader) text() []byte {
	var s []byte
	r.take(textRoom, func(c *codec.Reader) { s = c.Bytes(maxText) })
	return s
}

// take has read take something, that has room bytes at most, off the bytes by the codec.
func (r *Reader) take(room int, read func(*codec.Reader)) {
	if r.errno != api.OK {
		return
	}
	// The codec copies what it opens: it is shown no more than it can need.
	ahead := r.rest[:min(len(r.rest), room)]
	c := codec.Open(ahead)
	read(c)
	r.errno = c.Err()
	r.rest = r.rest[len(ahead)-c.Left():]
}

// Digest is the next size bytes: ErrShort.
func (r *Reader) Digest(size int) []byte {
	if r.errno == api.OK && len(r.rest) < size {
		r.errno = api.ErrShort
	}
	if r.errno != api.OK {
		return nil
	}
	digest := bytes.Clone(r.rest[:size])
	r.rest = r.rest[size:]
	return digest
}
