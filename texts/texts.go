// Package texts is layer 2: texts with a tag, and parts that can be told apart; see ../../shared/doc/02-texts.md.
package texts

import (
	"annals/api"
	"annals/sha"
)

// The greatest tag, how many bytes a part's length takes, and how many a part may have.
const (
	maxTag    = 255
	lengthLen = 2
	maxPart   = 65535
)

// Text is a text of a tag and parts: ErrArg at a tag that is not 0 to 255, ErrFull at a part of more than 65535 bytes.
func Text(tag int, parts ...[]byte) ([]byte, api.Errno) {
	if tag < 0 || tag > maxTag {
		return nil, api.ErrArg
	}
	room := 1
	for _, part := range parts {
		if len(part) > maxPart {
			return nil, api.ErrFull
		}
		room += lengthLen + len(part)
	}
	text := make([]byte, 0, room)
	text = append(text, byte(tag))
	for _, part := range parts {
		text = append(text, byte(len(part)>>8), byte(len(part)))
		text = append(text, part...)
	}
	return text, api.OK
}

// Split is a text's tag and parts: ErrShort, if it is empty, or ends within a part or its length.
func Split(text []byte) (int, [][]byte, api.Errno) {
	if len(text) == 0 {
		return 0, nil, api.ErrShort
	}
	var parts [][]byte
	for rest := text[1:]; len(rest) > 0; {
		part, behind, errno := take(rest)
		if errno != api.OK {
			return 0, nil, errno
		}
		parts = append(parts, part)
		rest = behind
	}
	return int(text[0]), parts, api.OK
}

// take is the part that rest begins with, in memory of its own, and what stands behind it.
func take(rest []byte) ([]byte, []byte, api.Errno) {
	if len(rest) < lengthLen {
		return nil, nil, api.ErrShort
	}
	end := lengthLen + int(rest[0])<<8 + int(rest[1])
	if len(rest) < end {
		return nil, nil, api.ErrShort
	}
	part := make([]byte, end-lengthLen)
	copy(part, rest[lengthLen:end:end])
	return part, rest[end:], api.OK
}

// Hash is the first size bytes of the SHA-256 of a text; none, if there is no such text.
func Hash(size, tag int, parts ...[]byte) []byte {
	text, errno := Text(tag, parts...)
	if errno != api.OK {
		return nil
	}
	return sha.Cut(size, text)
}

// Number is n in eight bytes, the highest first, in two's complement.
func Number(n int) []byte {
	b := make([]byte, 8)
	for i := range b {
		b[i] = byte(uint64(n) >> (56 - 8*i))
	}
	return b
}
