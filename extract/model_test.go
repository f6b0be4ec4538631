package extract

import (
	"bytes"
	"crypto/sha256"
	"encoding/binary"
	"slices"

	"annals/api"
)

// This is the chapter by hand: the texts that are held against each other, each spelled out of the proof alone.

// couple is two texts in the same place of two proofs.
type couple struct{ one, other []byte }

func spelled(tag int, parts ...[]byte) []byte {
	b := []byte{byte(tag)}
	for _, part := range parts {
		b = binary.BigEndian.AppendUint16(b, uint16(len(part)))
		b = append(b, part...)
	}
	return b
}

func hashed(size int, text []byte) []byte {
	h := sha256.Sum256(text)
	return h[:size]
}

func eight(n int) []byte { return binary.BigEndian.AppendUint64(nil, uint64(n)) }

// number is a number as the codec writes it.
func number(n int) []byte {
	b := bytes.TrimLeft(eight(n), "\x00")
	return append([]byte{byte(len(b))}, b...)
}

func row(id []byte) []byte { return append([]byte{byte(len(id))}, id...) }

// bit is a row's bit of that number.
func bit(b []byte, i int) int { return int(b[i/8]>>(7-i%8)) & 1 }

// beginning is a row's first n bits.
func beginning(b []byte, n int) []byte {
	out := make([]byte, (n+7)/8)
	for i := range n {
		out[i/8] |= byte(bit(b, i)) << (7 - i%8)
	}
	return out
}

func recordText(r api.Record) []byte {
	b := slices.Concat(number(r.Epoch), number(r.Time), number(len(r.Tree)), r.Tree, number(r.Count), number(len(r.List)), r.List)
	for _, link := range r.Links {
		b = slices.Concat(b, number(len(link)), link)
	}
	return spelled(5, b)
}

// partText is the text of a part of a tree.
func partText(size int, p api.Part) []byte {
	left, right := p.Left, p.Right
	switch p.Kind {
	case api.EndEmpty:
		return spelled(0)
	case api.EndLeaf:
		return spelled(1, p.ID, p.Key, eight(p.Since))
	case api.EndOpen:
		left, right = hashed(size, partText(size, p.Kids[0])), hashed(size, partText(size, p.Kids[1]))
	}
	return spelled(2, eight(p.Depth), p.Prefix, eight(p.Newest), left, right)
}

// wayTexts is the texts of a way of an identity, the root's first.
func wayTexts(size int, id []byte, p api.Path) [][]byte {
	list := [][]byte{partText(size, p.End)}
	for _, h := range slices.Backward(p.Hops) {
		below := hashed(size, list[0])
		left, right := below, h.Sibling
		if bit(row(id), h.Depth) == 1 {
			left, right = right, left
		}
		list = append([][]byte{spelled(2, eight(h.Depth), beginning(row(id), h.Depth), eight(h.Newest), left, right)}, list...)
	}
	return list
}

// rows is two lists of texts, place by place.
func rows(one, other [][]byte) []couple {
	var l []couple
	for i := range min(len(one), len(other)) {
		l = append(l, couple{one[i], other[i]})
	}
	return l
}

func lookTexts(l []api.Record) [][]byte {
	var out [][]byte
	for _, r := range l {
		out = append(out, recordText(r))
	}
	return out
}

// treeRows is two trees, part by part, as far as both are open.
func treeRows(size int, one, other api.Part) []couple {
	l := []couple{{partText(size, one), partText(size, other)}}
	if one.Kind == api.EndOpen && other.Kind == api.EndOpen {
		l = append(l, treeRows(size, one.Kids[0], other.Kids[0])...)
		l = append(l, treeRows(size, one.Kids[1], other.Kids[1])...)
	}
	return l
}

// power is the greatest power of 2 below n.
func power(n int) int {
	k := 1
	for 2*k < n {
		k *= 2
	}
	return k
}

// listTexts is the root of a tree over n digests, those from from on being of events, the texts that lead to them, and what is left of the roots outside.
func listTexts(size, n, from int, events []api.Event, outside [][]byte) ([]byte, [][]byte, [][]byte) {
	if len(events) == 0 {
		return outside[0], nil, outside[1:]
	}
	if n == 1 {
		text := spelled(3, events[0].ID, events[0].Key)
		return hashed(size, text), [][]byte{text}, outside
	}
	k := power(n)
	inLeft := min(len(events), max(0, k-from))
	left, below, outside := listTexts(size, k, from, events[:inLeft], outside)
	right, beside, outside := listTexts(size, n-k, max(0, from-k), events[inLeft:], outside)
	text := spelled(4, left, right)
	return hashed(size, text), slices.Concat([][]byte{text}, below, beside), outside
}

// pageTexts is the texts of a page's lists, epoch by epoch.
func pageTexts(size int, a api.Ask, head api.Record, r api.Reply) [][]byte {
	var out [][]byte
	from, rest := a.Index, r.Answer.Events
	for i, records := range r.Proof.Seen {
		epoch := head
		if len(records) > 0 {
			epoch = records[len(records)-1]
		}
		n := 0
		for n < len(rest) && rest[n].Epoch == a.Epoch+i {
			n++
		}
		_, texts, _ := listTexts(size, epoch.Count, from, rest[:n], r.Proof.Lists[i])
		out = append(out, texts...)
		from, rest = 0, rest[n:]
	}
	return out
}

// couples is all that is held against each other of two replies, in order.
func couples(size int, a api.Ask, head api.Record, one, other api.Reply) []couple {
	p, q := one.Proof, other.Proof
	var l []couple
	switch a.Kind {
	case api.AskDiff:
		return treeRows(size, p.Tree, q.Tree)
	case api.AskVersions:
		for i := range min(len(p.Ways), len(q.Ways)) {
			l = append(l, rows(lookTexts(p.Seen[i]), lookTexts(q.Seen[i]))...)
			l = append(l, rows(wayTexts(size, a.ID, p.Ways[i]), wayTexts(size, a.ID, q.Ways[i]))...)
		}
		return l
	}
	for i := range min(len(p.Seen), len(q.Seen)) {
		l = append(l, rows(lookTexts(p.Seen[i]), lookTexts(q.Seen[i]))...)
	}
	if a.Kind == api.AskFeed {
		return append(l, rows(pageTexts(size, a, head, one), pageTexts(size, a, head, other))...)
	}
	return append(l, rows(wayTexts(size, a.ID, p.Way), wayTexts(size, a.ID, q.Way))...)
}

// unlikeOf is the first couple that is unlike, and whether there is one.
func unlikeOf(l []couple) (couple, bool) {
	for _, c := range l {
		if !bytes.Equal(c.one, c.other) {
			return c, true
		}
	}
	return couple{}, false
}
