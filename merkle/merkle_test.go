package merkle

import (
	"bytes"
	"crypto/sha256"
	"encoding/binary"
	"math"
	"math/rand"
	"slices"
	"testing"

	"annals/api"
)

// byHand is the document's hash of a text, spelled out.
func byHand(size int, tag byte, parts ...[]byte) []byte {
	text := []byte{tag}
	for _, p := range parts {
		text = append(binary.BigEndian.AppendUint16(text, uint16(len(p))), p...)
	}
	sum := sha256.Sum256(text)
	return sum[:size]
}

// empty and pair are the hashes of which a tree is made.
func empty(size int) []byte             { return byHand(size, 0) }
func pair(size int, l, r []byte) []byte { return byHand(size, 4, l, r) }

// piece is a part of a tree: its digests from begin on up to end, and the part that it is half of.
type piece struct {
	begin, end int
	above      *piece
}

// pieces is all parts of a part that has a digest: itself, and those of its halves, the left ones first.
func pieces(p *piece) []*piece {
	n := p.end - p.begin
	if n == 1 {
		return []*piece{p}
	}
	k := 1
	for 2*k < n {
		k *= 2
	}
	out := append([]*piece{p}, pieces(&piece{p.begin, p.begin + k, p})...)
	return append(out, pieces(&piece{p.begin + k, p.end, p})...)
}

// has tells whether a part has one of the digests from from on up to to.
func (p *piece) has(from, to int) bool {
	for i := from; i < to; i++ {
		if p.begin <= i && i < p.end {
			return true
		}
	}
	return false
}

// greatest is, of all parts, those that have none of the digests, and are half of none such.
func greatest(n, from, to int) []*piece {
	if n == 0 {
		return nil
	}
	var out []*piece
	for _, p := range pieces(&piece{0, n, nil}) {
		if !p.has(from, to) && (p.above == nil || p.above.has(from, to)) {
			out = append(out, p)
		}
	}
	return out
}

// rootOf is the root as the document reckons it.
func rootOf(size int, l [][]byte) []byte {
	switch len(l) {
	case 0:
		return empty(size)
	case 1:
		return l[0]
	}
	k := 1
	for 2*k < len(l) {
		k *= 2
	}
	return pair(size, rootOf(size, l[:k]), rootOf(size, l[k:]))
}

// drawn is n digests of size bytes, drawn by a source.
func drawn(seed int64, size, n int) [][]byte {
	source := rand.New(rand.NewSource(seed))
	l := make([][]byte, n)
	for i := range l {
		l[i] = make([]byte, size)
		source.Read(l[i])
	}
	return l
}

// same: as many lists, and each with the same bytes.
func same(a, b [][]byte) bool {
	return slices.EqualFunc(a, b, bytes.Equal)
}

// cloned is lists in memory of their own.
func cloned(l [][]byte) [][]byte {
	out := make([][]byte, len(l))
	for i, b := range l {
		out[i] = bytes.Clone(b)
	}
	return out
}

// P11.1: the first trees, spelled out.
func TestRoot(t *testing.T) {
	l := drawn(1, 4, 9)
	h := func(a, b []byte) []byte { return pair(4, a, b) }
	four := h(h(l[0], l[1]), h(l[2], l[3]))
	eight := h(four, h(h(l[4], l[5]), h(l[6], l[7])))
	want := [][]byte{
		byHand(4, api.TagEmpty), l[0], byHand(4, api.TagPair, l[0], l[1]), h(h(l[0], l[1]), l[2]), four,
		h(four, l[4]), h(four, h(l[4], l[5])), h(four, h(h(l[4], l[5]), l[6])), eight, h(eight, l[8]),
	}
	for n := range want {
		if got := Root(4, l[:n]); !bytes.Equal(got, want[n]) {
			t.Errorf("over %d: %x, not %x", n, got, want[n])
		}
	}
	if !bytes.Equal(Root(4, [][]byte{}), want[0]) || !bytes.Equal(Root(4, nil), want[0]) {
		t.Error("nil and empty")
	}
}

// P11.1: greater trees, at all sizes.
func TestRootOfMany(t *testing.T) {
	for size := 1; size <= 32; size++ {
		l := drawn(int64(size), size, 140)
		for _, n := range []int{0, 1, 2, 15, 16, 17, 31, 32, 33, 63, 64, 65, 127, 128, 129, 140} {
			if got := Root(size, l[:n]); !bytes.Equal(got, rootOf(size, l[:n])) {
				t.Errorf("size %d, over %d: %x", size, n, got)
			}
		}
	}
}

// P11.1: no error is told: sizes far out are texts.Hash's, a digest counts as it is.
func TestRootOfWhatever(t *testing.T) {
	l := [][]byte{{1}, nil, {2, 3}}
	for _, size := range []int{math.MinInt, -1, 0} {
		if len(Root(size, nil)) != 0 || len(Root(size, l)) != 0 || !bytes.Equal(Root(size, l[2:]), []byte{2, 3}) {
			t.Errorf("size %d", size)
		}
	}
	for _, size := range []int{32, 33, math.MaxInt} {
		if !bytes.Equal(Root(size, l), rootOf(32, l)) || !bytes.Equal(Root(size, nil), empty(32)) {
			t.Errorf("size %d", size)
		}
	}
	long := make([]byte, 65536)
	if !bytes.Equal(Root(4, [][]byte{long}), long) {
		t.Error("one that is too long for a text")
	}
	if got := Root(4, [][]byte{long, {1}}); len(got) != 0 {
		t.Errorf("a pair of which there is no text: %x", got)
	}
	if got := Root(4, [][]byte{long, {1}, {2}}); !bytes.Equal(got, pair(4, nil, []byte{2})) {
		t.Errorf("above such a pair: %x", got)
	}
	if !bytes.Equal(Root(4, [][]byte{long[:65535], {1}}), pair(4, long[:65535], []byte{1})) {
		t.Error("the longest that a text has")
	}
}

// Example 1, and others that are spelled out.
func TestRange(t *testing.T) {
	l := drawn(2, 3, 7)
	h := func(a, b []byte) []byte { return pair(3, a, b) }
	four := h(h(l[0], l[1]), h(l[2], l[3]))
	cases := []struct {
		n, from, to int
		want        [][]byte
	}{
		{5, 4, 5, [][]byte{four}},
		{5, 0, 4, [][]byte{l[4]}},
		{5, 0, 1, [][]byte{l[1], h(l[2], l[3]), l[4]}},
		{5, 1, 3, [][]byte{l[0], l[3], l[4]}},
		{5, 3, 5, [][]byte{h(l[0], l[1]), l[2]}},
		{7, 6, 7, [][]byte{four, h(l[4], l[5])}},
		{7, 4, 6, [][]byte{four, l[6]}},
		{7, 2, 4, [][]byte{h(l[0], l[1]), h(h(l[4], l[5]), l[6])}},
		{7, 3, 5, [][]byte{h(l[0], l[1]), l[2], l[5], l[6]}},
		{1, 0, 1, nil},
		{2, 0, 1, [][]byte{l[1]}},
		{2, 1, 2, [][]byte{l[0]}},
	}
	for _, c := range cases {
		if got := Range(3, l[:c.n], c.from, c.to); !same(got, c.want) {
			t.Errorf("of %d, %d to %d: %x, not %x", c.n, c.from, c.to, got, c.want)
		}
		if got := Count(c.n, c.from, c.to); got != len(c.want) {
			t.Errorf("of %d, %d to %d: %d, not %d", c.n, c.from, c.to, got, len(c.want))
		}
	}
}

// P11.1: a range without digests leaves the whole tree outside, wherever it stands.
func TestRangeOfNone(t *testing.T) {
	l := drawn(3, 5, 20)
	for n := 1; n <= 20; n++ {
		for at := 0; at <= n; at++ {
			if got := Range(5, l[:n], at, at); !same(got, [][]byte{rootOf(5, l[:n])}) {
				t.Errorf("of %d at %d: %x", n, at, got)
			}
			if got := Count(n, at, at); got != 1 {
				t.Errorf("of %d at %d: %d", n, at, got)
			}
		}
	}
}

// P11.1, P11.3, P11.4: all ranges of all small trees.
func TestAllRanges(t *testing.T) {
	l := drawn(4, 6, 35)
	for n := range 36 {
		whole := rootOf(6, l[:n])
		for from := 0; from <= n; from++ {
			for to := from; to <= n; to++ {
				var want [][]byte
				for _, p := range greatest(n, from, to) {
					want = append(want, rootOf(6, l[p.begin:p.end]))
				}
				shown := Range(6, l[:n], from, to)
				if !same(shown, want) || Count(n, from, to) != len(want) {
					t.Fatalf("of %d, %d to %d: %x, %d, not %x", n, from, to, shown, Count(n, from, to), want)
				}
				if got, errno := Fold(6, n, from, l[from:to], shown); errno != api.OK || !bytes.Equal(got, whole) {
					t.Fatalf("of %d, %d to %d: %x, %v, not %x", n, from, to, got, errno, whole)
				}
			}
		}
	}
}

// P11.4
func TestAll(t *testing.T) {
	for _, size := range []int{1, 2, 31, 32} {
		l := drawn(5, size, 70)
		for n := range 71 {
			if got := Range(size, l[:n], 0, n); len(got) != 0 || Count(n, 0, n) != 0 {
				t.Errorf("of all %d: %x, %d", n, got, Count(n, 0, n))
			}
			if got, errno := Fold(size, n, 0, l[:n], nil); errno != api.OK || !bytes.Equal(got, rootOf(size, l[:n])) {
				t.Errorf("of all %d: %x, %v", n, got, errno)
			}
		}
	}
}

// P11.1: what is no range.
func TestNoRange(t *testing.T) {
	l := drawn(6, 4, 7)
	cases := [][2]int{
		{-1, 2}, {-1, -1}, {-2, -1}, {3, 2}, {7, 6}, {0, 8}, {7, 8}, {8, 8}, {8, 7}, {0, -1},
		{math.MinInt, math.MaxInt}, {math.MinInt, 0}, {0, math.MaxInt}, {math.MaxInt, math.MaxInt}, {math.MaxInt, 0}, {math.MinInt, math.MinInt}, {math.MaxInt, math.MinInt},
	}
	for _, c := range cases {
		if got := Range(4, l, c[0], c[1]); len(got) != 0 {
			t.Errorf("%d to %d: %x", c[0], c[1], got)
		}
		if got := Count(7, c[0], c[1]); got != 0 {
			t.Errorf("%d to %d: %d", c[0], c[1], got)
		}
	}
	for _, c := range [][2]int{{0, 0}, {0, 1}, {1, 1}, {-1, 0}, {0, -1}} {
		if got := Range(4, nil, c[0], c[1]); len(got) != 0 {
			t.Errorf("of none %d to %d: %x", c[0], c[1], got)
		}
	}
}

// P11.1: sizes far out, and lists of all lengths, as in Root.
func TestRangeOfWhatever(t *testing.T) {
	l := [][]byte{{1}, nil, {2, 3}, {4}, make([]byte, 65536)}
	for _, size := range []int{math.MinInt, -1, 0} {
		if got := Range(size, l, 2, 3); !same(got, [][]byte{nil, {4}, l[4]}) {
			t.Errorf("size %d: %d roots", size, len(got))
		}
	}
	for _, size := range []int{32, 33, math.MaxInt} {
		if got := Range(size, l, 2, 3); !same(got, [][]byte{pair(32, l[0], l[1]), {4}, l[4]}) {
			t.Errorf("size %d: %d roots", size, len(got))
		}
	}
}

// P11.1: up to 2^20, and above.
func TestCountOfMany(t *testing.T) {
	const most = 1 << 20
	cases := []struct{ n, from, to, want int }{
		{most, 0, most, 0}, {most, 0, 1, 20}, {most, most - 1, most, 20}, {most, most / 2, most, 1}, {most, 1, most, 1}, {most, 1, most - 1, 2},
		{most, 5, 5, 1}, {most, 0, most / 4, 2}, {most, most/2 - 1, most/2 + 1, 38},
		{most - 1, most - 2, most - 1, 19}, {most - 1, 0, 1, 20}, {most/2 + 1, most / 2, most/2 + 1, 1},
		{most + 1, 0, 1, 0}, {most + 1, 3, 3, 0}, {most + 1, most, most + 1, 0}, {math.MaxInt, 0, 1, 0}, {math.MaxInt, 0, math.MaxInt, 0}, {math.MaxInt, 7, 7, 0},
		{-1, 0, 0, 0}, {-1, -1, -1, 0}, {-5, -3, -4, 0}, {math.MinInt, 0, 0, 0}, {math.MinInt, math.MinInt, math.MinInt, 0},
		{0, 0, 0, 0}, {0, 0, 1, 0}, {1, 0, 0, 1}, {1, 1, 1, 1}, {1, 0, 1, 0},
	}
	for _, c := range cases {
		if got := Count(c.n, c.from, c.to); got != c.want {
			t.Errorf("Count(%d, %d, %d): %d, not %d", c.n, c.from, c.to, got, c.want)
		}
	}
}

// P11.1, P11.2: the greatest tree that is folded, and one more digest, of which Range alone tells.
func TestGreatestTree(t *testing.T) {
	const most = 1 << 20
	digest := []byte{7}
	l := make([][]byte, most+1)
	for i := range l {
		l[i] = digest
	}
	levels := [][]byte{digest}
	for range 20 {
		last := levels[len(levels)-1]
		levels = append(levels, pair(1, last, last))
	}
	beside := cloned(levels[:20])
	slices.Reverse(beside)
	if got, errno := Fold(1, most, most-1, l[:1], beside); errno != api.OK || !bytes.Equal(got, levels[20]) {
		t.Errorf("%x, %v, not %x", got, errno, levels[20])
	}
	if got := Range(1, l, most, most+1); !same(got, [][]byte{levels[20]}) {
		t.Errorf("behind 2^20: %x, not %x", got, levels[20])
	}
	if got, errno := Fold(1, most+1, most, l[:1], [][]byte{levels[20]}); errno != api.ErrArg || len(got) != 0 {
		t.Errorf("of 2^20 + 1: %x, %v", got, errno)
	}
	if got, errno := Fold(1, most+1, 0, l, nil); errno != api.ErrArg || len(got) != 0 {
		t.Errorf("of all 2^20 + 1: %x, %v", got, errno)
	}
}

// P11.2: the root, spelled out, of roots that no list was reckoned to.
func TestFold(t *testing.T) {
	x := drawn(7, 4, 6)
	h := func(a, b []byte) []byte { return pair(4, a, b) }
	cases := []struct {
		n, from         int
		inside, outside [][]byte
		want            []byte
	}{
		{0, 0, nil, nil, empty(4)},
		{1, 0, x[:1], nil, x[0]},
		{1, 0, nil, x[:1], x[0]},
		{1, 1, nil, x[:1], x[0]},
		{9, 4, nil, x[:1], x[0]},
		{2, 0, x[:1], x[1:2], h(x[0], x[1])},
		{2, 1, x[:1], x[1:2], h(x[1], x[0])},
		{5, 4, x[:1], x[1:2], h(x[1], x[0])},
		{5, 0, x[:4], x[4:5], h(h(h(x[0], x[1]), h(x[2], x[3])), x[4])},
		{5, 1, x[:1], x[1:4], h(h(h(x[1], x[0]), x[2]), x[3])},
		{7, 3, x[:2], x[2:6], h(h(x[2], h(x[3], x[0])), h(h(x[1], x[4]), x[5]))},
		{1 << 20, 1 << 18, nil, x[2:3], x[2]},
	}
	for _, c := range cases {
		if got, errno := Fold(4, c.n, c.from, c.inside, c.outside); errno != api.OK || !bytes.Equal(got, c.want) {
			t.Errorf("of %d from %d on %d: %x, %v, not %x", c.n, c.from, len(c.inside), got, errno, c.want)
		}
	}
}

// P11.2: each error, and the first one where both apply; no root beside it.
func TestFoldErrors(t *testing.T) {
	const most = 1 << 20
	x := drawn(8, 4, 8)
	short, long := [][]byte{{1, 2, 3}}, [][]byte{{1, 2, 3, 4, 5}}
	cases := []struct {
		size, n, from   int
		inside, outside [][]byte
		want            api.Errno
	}{
		{4, 7, -1, x[:1], x[:3], api.ErrArg}, {4, 7, math.MinInt, x[:1], x[:3], api.ErrArg}, {4, -1, -1, nil, nil, api.ErrArg}, {4, -1, -1, nil, x[:1], api.ErrArg},
		{4, 7, 1, x[:7], nil, api.ErrArg}, {4, 7, 7, x[:1], x[:2], api.ErrArg}, {4, 7, 8, nil, x[:1], api.ErrArg}, {4, 7, 0, x, nil, api.ErrArg},
		{4, -1, 0, nil, nil, api.ErrArg}, {4, 0, 0, x[:1], nil, api.ErrArg}, {4, 0, 1, nil, nil, api.ErrArg}, {4, math.MinInt, 0, nil, nil, api.ErrArg},
		{4, 7, math.MaxInt, x[:1], nil, api.ErrArg}, {4, math.MinInt, math.MaxInt, x[:1], nil, api.ErrArg}, {4, math.MinInt + 6, math.MaxInt, x[:7], nil, api.ErrArg},
		{4, most + 1, 0, x[:1], x[:1], api.ErrArg}, {4, most + 1, 3, nil, nil, api.ErrArg}, {4, math.MaxInt, 0, nil, nil, api.ErrArg}, {4, math.MaxInt, math.MaxInt, nil, x[:1], api.ErrArg},
		{0, 1, 0, x[:1], nil, api.ErrArg}, {0, 1, 0, [][]byte{nil}, nil, api.ErrArg}, {0, 0, 0, nil, nil, api.ErrArg}, {-1, 1, 0, x[:1], nil, api.ErrArg}, {33, 1, 0, x[:1], nil, api.ErrArg},
		{33, 1, 0, [][]byte{make([]byte, 33)}, nil, api.ErrArg}, {math.MinInt, 0, 0, nil, nil, api.ErrArg}, {math.MaxInt, 0, 0, nil, nil, api.ErrArg},
		{4, 7, 1, x[:7], x, api.ErrArg}, {33, 7, 0, short, x, api.ErrArg}, {4, most + 1, 0, short, long, api.ErrArg},
		{4, 7, 0, x[:7], x[:1], api.ErrForm}, {4, 0, 0, nil, x[:1], api.ErrForm}, {4, 5, 4, x[:1], nil, api.ErrForm}, {4, 5, 4, x[:1], x[:2], api.ErrForm},
		{4, 7, 3, x[:2], x[:3], api.ErrForm}, {4, 7, 3, x[:2], x[:5], api.ErrForm}, {4, 7, 3, nil, nil, api.ErrForm}, {4, 7, 3, nil, x[:2], api.ErrForm}, {4, most, 0, x[:1], x, api.ErrForm},
		{4, 1, 0, short, nil, api.ErrForm}, {4, 1, 0, long, nil, api.ErrForm}, {4, 1, 0, [][]byte{nil}, nil, api.ErrForm},
		{4, 5, 4, x[:1], short, api.ErrForm}, {4, 5, 4, x[:1], long, api.ErrForm}, {4, 5, 4, x[:1], [][]byte{nil}, api.ErrForm}, {4, 5, 4, short, x[:1], api.ErrForm},
		{4, 5, 2, nil, short, api.ErrForm}, {3, 5, 4, x[:1], x[1:2], api.ErrForm}, {32, 5, 4, x[:1], x[1:2], api.ErrForm},
		{4, 7, 6, x[:1], x[1:3], api.OK}, {4, 7, 7, nil, x[:1], api.OK}, {4, most, most, nil, x[:1], api.OK}, {3, 5, 4, short, short, api.OK},
	}
	for _, c := range cases {
		got, errno := Fold(c.size, c.n, c.from, c.inside, c.outside)
		if errno != c.want || errno != api.OK && len(got) != 0 {
			t.Errorf("Fold(%d, %d, %d, %x, %x): %x, %v, not %v", c.size, c.n, c.from, c.inside, c.outside, got, errno, c.want)
		}
	}
}

// P11.2: a digest of another length in each place.
func TestFoldOfOtherLengths(t *testing.T) {
	l := drawn(9, 4, 13)
	inside, outside := l[3:8], Range(4, l, 3, 8)
	for _, n := range []int{0, 1, 3, 5, 32, 70000} {
		for i := range inside {
			other := cloned(inside)
			other[i] = append(other[i], make([]byte, n)...)[:n]
			if got, errno := Fold(4, 13, 3, other, outside); errno != api.ErrForm || len(got) != 0 {
				t.Errorf("inside %d of %d bytes: %x, %v", i, n, got, errno)
			}
		}
		for i := range outside {
			other := cloned(outside)
			other[i] = append(other[i], make([]byte, n)...)[:n]
			if got, errno := Fold(4, 13, 3, inside, other); errno != api.ErrForm || len(got) != 0 {
				t.Errorf("outside %d of %d bytes: %x, %v", i, n, got, errno)
			}
		}
	}
}

// P11.2: each digest counts, and where it stands.
func TestFoldHangsOnEachDigest(t *testing.T) {
	l := drawn(10, 32, 13)
	for from := range 13 {
		for to := from + 1; to <= 13; to++ {
			inside, outside := l[from:to], Range(32, l, from, to)
			for i := range len(inside) + len(outside) {
				in, out := cloned(inside), cloned(outside)
				append(slices.Clone(in), out...)[i][i] ^= 1
				if got, errno := Fold(32, 13, from, in, out); errno != api.OK || bytes.Equal(got, Root(32, l)) {
					t.Errorf("%d to %d, digest %d: %v", from, to, i, errno)
				}
			}
		}
	}
}

// P11.3: greater trees, at all sizes.
func TestFoldOfRange(t *testing.T) {
	source := rand.New(rand.NewSource(11))
	for size := 1; size <= 32; size++ {
		for range 20 {
			n := source.Intn(300)
			to := source.Intn(n + 1)
			from := source.Intn(to + 1)
			l := drawn(int64(n), size, n)
			shown := Range(size, l, from, to)
			if len(shown) != Count(n, from, to) {
				t.Fatalf("of %d, %d to %d: %d, not %d", n, from, to, len(shown), Count(n, from, to))
			}
			if got, errno := Fold(size, n, from, l[from:to], shown); errno != api.OK || !bytes.Equal(got, rootOf(size, l)) {
				t.Fatalf("size %d, of %d, %d to %d: %x, %v", size, n, from, to, got, errno)
			}
		}
	}
}

// scribble writes over all of a list, its spare room too.
func scribble(b []byte) {
	b = b[:cap(b)]
	for i := range b {
		b[i] = 0xee
	}
}

// roomy is digests with spare room behind each, and behind the list, all of which has to stay as it is.
func roomy(n int) [][]byte {
	l := make([][]byte, n+2)
	for i := range l {
		l[i] = []byte{byte(i), 1, 2, 3, 9, 9, 9, 9}[:4]
	}
	return l[:n]
}

// stays tells whether these are as roomy made them.
func stays(l [][]byte) bool {
	want := roomy(len(l))
	l, want = l[:len(l)+2], want[:len(want)+2]
	return slices.EqualFunc(l, want, func(a, b []byte) bool {
		return len(a) == 4 && cap(a) == 8 && bytes.Equal(a[:8], b[:8])
	})
}

// Rule 'Memory': what is handed in stays, the room behind it too; answers share nothing with it.
func TestMemory(t *testing.T) {
	for n := range 10 {
		l := roomy(n)
		scribble(Root(4, l))
		for from := range n + 1 {
			for to := from; to <= n; to++ {
				shown := Range(4, l, from, to)
				outside := roomy(len(shown))
				got, errno := Fold(4, n, from, roomy(to-from), outside)
				if errno != api.OK {
					t.Fatal(errno)
				}
				scribble(got)
				if !stays(outside) {
					t.Fatalf("of %d, %d to %d: the roots outside have changed", n, from, to)
				}
				got, _ = Fold(4, n, from, l[from:to], outside)
				scribble(got)
				if !apartAll(shown) {
					t.Fatalf("of %d, %d to %d: two roots share memory", n, from, to)
				}
			}
		}
		if !stays(l) {
			t.Fatalf("of %d: the digests have changed", n)
		}
	}
}

// apartAll writes over each list, and tells whether no other one changes with it.
func apartAll(l [][]byte) bool {
	for i := range l {
		was := cloned(l)
		scribble(l[i])
		for j := range l {
			if j != i && !bytes.Equal(l[j], was[j]) {
				return false
			}
		}
	}
	return true
}

// Rule 'Memory': one digest twice in a list is two roots, in memory of their own each.
func TestSharedDigests(t *testing.T) {
	digest := []byte{1, 2, 3, 4}
	l := [][]byte{digest, digest, digest}
	if got := Range(4, l, 1, 2); len(got) != 2 || !apartAll(got) || !bytes.Equal(digest, []byte{1, 2, 3, 4}) {
		t.Error("roots share memory", got, digest)
	}
}

// Rule 'From arguments alone': the same again.
func TestAgain(t *testing.T) {
	l := drawn(12, 8, 21)
	root, shown := Root(8, l), Range(8, l, 5, 9)
	for range 3 {
		if !bytes.Equal(Root(8, l), root) || !same(Range(8, l, 5, 9), shown) {
			t.Error("not the same again")
		}
	}
}
