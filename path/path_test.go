package path

import (
	"bytes"
	"crypto/sha256"
	"encoding/binary"
	"fmt"
	"math"
	"math/rand"
	"sort"
	"strings"
	"testing"

	"annals/api"
	"annals/arena"
	"annals/ptree"
)

// spelled is bytes as a text of 0 and 1.
func spelled(b []byte) string {
	var out strings.Builder
	for _, x := range b {
		fmt.Fprintf(&out, "%08b", x)
	}
	return out.String()
}

// packed is a text of 0 and 1 as bytes.
func packed(row string) []byte {
	out := make([]byte, (len(row)+7)/8)
	for i, c := range row {
		if c == '1' {
			out[i/8] |= 0x80 >> (i % 8)
		}
	}
	return out
}

// bitsOf is an identity's bits as a text of 0 and 1.
func bitsOf(id []byte) string {
	if len(id) > 255 {
		id = id[:255]
	}
	return spelled([]byte{byte(len(id))}) + spelled(id)
}

func number(n int) []byte { return binary.BigEndian.AppendUint64(nil, uint64(n)) }

// textOf is a text, reckoned without the program's own layers.
func textOf(tag byte, list ...[]byte) []byte {
	text := []byte{tag}
	for _, p := range list {
		text = binary.BigEndian.AppendUint16(text, uint16(len(p)))
		text = append(text, p...)
	}
	return text
}

// cut is the first bytes of a text's SHA-256.
func cut(size int, text []byte) []byte {
	sum := sha256.Sum256(text)
	return sum[:size]
}

// said is a thing as a text, in which none and nil are the same.
func said(x any) string { return fmt.Sprintf("%v", x) }

// node is a node of a tree as the document tells it, reckoned from the items alone.
type node struct {
	item   *api.Item // of a leaf
	row    string    // a leaf's bits, or a fork's prefix
	newest int
	kids   [2]*node
	hash   []byte
}

// grow is the tree of items in the order of their bits.
func grow(size int, items []api.Item) *node {
	if len(items) == 0 {
		return nil
	}
	if len(items) == 1 {
		x := items[0]
		return &node{item: &x, row: bitsOf(x.ID), newest: x.Since, hash: cut(size, textOf(1, x.ID, x.Key, number(x.Since)))}
	}
	first, last := bitsOf(items[0].ID), bitsOf(items[len(items)-1].ID)
	depth := 0
	for first[depth] == last[depth] {
		depth++
	}
	right := sort.Search(len(items), func(i int) bool { return bitsOf(items[i].ID)[depth] == '1' })
	n := &node{row: first[:depth], kids: [2]*node{grow(size, items[:right]), grow(size, items[right:])}}
	n.newest = max(n.kids[0].newest, n.kids[1].newest)
	n.hash = cut(size, textOf(2, number(depth), packed(n.row), number(n.newest), n.kids[0].hash, n.kids[1].hash))
	return n
}

// wayOf is the way of a row of bits.
func wayOf(n *node, row string) api.Path {
	var p api.Path
	for n != nil && n.item == nil && strings.HasPrefix(row, n.row) {
		own := row[len(n.row)] - '0'
		p.Hops = append(p.Hops, api.Hop{Depth: len(n.row), Newest: n.newest, Sibling: n.kids[1-own].hash})
		n = n.kids[own]
	}
	switch {
	case n == nil:
	case n.item != nil:
		p.End = api.Part{Kind: 1, ID: n.item.ID, Key: n.item.Key, Since: n.item.Since}
	default:
		p.End = api.Part{Kind: 2, Depth: len(n.row), Prefix: packed(n.row), Newest: n.newest, Left: n.kids[0].hash, Right: n.kids[1].hash}
	}
	return p
}

// mayBe is whether a way may be, as the document tells it, held against rows that are texts.
func mayBe(size int, id []byte, p api.Path) bool {
	if size < 1 || size > 32 || len(id) > 24 {
		return false
	}
	epoch := func(n int) bool { return n >= 0 && n <= 255 }
	row, last := bitsOf(id), -1
	for _, h := range p.Hops {
		if h.Depth <= last || h.Depth >= len(row) || !epoch(h.Newest) || len(h.Sibling) != size {
			return false
		}
		last = h.Depth
	}
	e := p.End
	switch e.Kind {
	case 0:
		return len(p.Hops) == 0 && said(e) == said(api.Part{})
	case 1:
		just := api.Part{Kind: 1, ID: e.ID, Key: e.Key, Since: e.Since}
		return said(e) == said(just) && epoch(e.Since) && len(e.ID) <= 255 && len(e.Key) <= 48 && strings.HasPrefix(bitsOf(e.ID), row[:last+1])
	case 2:
		just := api.Part{Kind: 2, Depth: e.Depth, Prefix: e.Prefix, Newest: e.Newest, Left: e.Left, Right: e.Right}
		if said(e) != said(just) || !epoch(e.Newest) || len(e.Left) != size || len(e.Right) != size {
			return false
		}
		if e.Depth <= last || e.Depth > 2048 || len(e.Prefix)*8 < e.Depth || !bytes.Equal(packed(spelled(e.Prefix)[:e.Depth]), e.Prefix) {
			return false
		}
		prefix := spelled(e.Prefix)[:e.Depth]
		return strings.HasPrefix(prefix, row[:last+1]) && !strings.HasPrefix(row, prefix)
	}
	return false
}

// textsOf is the texts of a way that may be.
func textsOf(size int, id []byte, p api.Path) [][]byte {
	row, e := bitsOf(id), p.End
	var last []byte
	switch e.Kind {
	case 0:
		last = textOf(0)
	case 1:
		last = textOf(1, e.ID, e.Key, number(e.Since))
	case 2:
		last = textOf(2, number(e.Depth), e.Prefix, number(e.Newest), e.Left, e.Right)
	}
	list := [][]byte{last}
	for i := len(p.Hops) - 1; i >= 0; i-- {
		h := p.Hops[i]
		left, right := cut(size, list[0]), h.Sibling
		if row[h.Depth] == '1' {
			left, right = right, left
		}
		text := textOf(2, number(h.Depth), packed(row[:h.Depth]), number(h.Newest), left, right)
		list = append([][]byte{text}, list...)
	}
	return list
}

// holds holds Check, Texts and Find of a way against the document.
func holds(t *testing.T, what string, size int, id []byte, p api.Path, may bool) {
	t.Helper()
	if may != mayBe(size, id, p) {
		t.Fatalf("%s: the test itself is at odds: %v", what, p)
	}
	errno, list := Check(size, id, p), Texts(size, id, p)
	if !may {
		if errno != api.ErrProof || len(list) != 0 {
			t.Fatalf("%s: %v, %x, though %v may not be", what, errno, list, p)
		}
		for _, root := range [][]byte{nil, cut(max(0, min(size, 32)), textOf(0))} {
			if x, ok, errno := Find(size, root, id, p); errno != api.ErrProof || ok || said(x) != said(api.Item{}) {
				t.Fatalf("%s: %v, %v, %v, though %v may not be", what, x, ok, errno, p)
			}
		}
		return
	}
	want := textsOf(size, id, p)
	if errno != api.OK || said(list) != said(want) {
		t.Fatalf("%s: %v, %x, not %x, of %v", what, errno, list, want, p)
	}
	there := p.End.Kind == 1 && bytes.Equal(p.End.ID, id)
	wanted := api.Item{}
	if there {
		wanted = api.Item{ID: id, Key: p.End.Key, Since: p.End.Since}
	}
	root := cut(size, want[0])
	if x, ok, errno := Find(size, root, id, p); errno != api.OK || ok != there || said(x) != said(wanted) {
		t.Fatalf("%s: %v, %v, %v, not %v, of %v", what, x, ok, errno, wanted, p)
	}
	for _, wrong := range [][]byte{nil, root[1:], append(bytes.Clone(root), 0), append([]byte{root[0] ^ 1}, root[1:]...), append(bytes.Clone(root[:size-1]), ^root[size-1])} {
		if x, ok, errno := Find(size, wrong, id, p); errno != api.ErrProof || ok || said(x) != said(api.Item{}) {
			t.Fatalf("%s: %v, %v, %v under %x, not %x", what, x, ok, errno, wrong, root)
		}
	}
}

// planted is a tree of items that are drawn, in an arena and by hand.
type planted struct {
	a     *arena.Arena
	root  int
	top   *node
	items map[string]api.Item
}

// drawnID is an identity of few bytes out of few, so that many have beginnings in common; now and then a long one.
func drawnID(r *rand.Rand) []byte {
	id := make([]byte, r.Intn(4))
	if r.Intn(12) == 0 {
		id = make([]byte, 20+r.Intn(5))
	}
	for i := range id {
		id[i] = "\x00a\x80\xffb"[r.Intn(5)]
	}
	return id
}

func drawnKey(r *rand.Rand) []byte {
	key := make([]byte, r.Intn(49))
	r.Read(key)
	return key
}

func plant(t *testing.T, r *rand.Rand, size, n int) planted {
	t.Helper()
	a, errno := arena.New(size, 1<<16)
	if errno != api.OK {
		t.Fatal(errno)
	}
	g := planted{a: a, root: -1, items: map[string]api.Item{}}
	for range n {
		x := api.Item{ID: drawnID(r), Key: drawnKey(r), Since: r.Intn(256)}
		if g.root, errno = ptree.Insert(a, g.root, x.ID, x.Key, x.Since); errno != api.OK {
			t.Fatal(errno)
		}
		g.items[string(x.ID)] = x
	}
	var list []api.Item
	for _, x := range g.items {
		list = append(list, x)
	}
	sort.Slice(list, func(i, j int) bool { return bitsOf(list[i].ID) < bitsOf(list[j].ID) })
	g.top = grow(size, list)
	return g
}

// asked is the identities of a tree, and others.
func (g planted) asked(r *rand.Rand) [][]byte {
	var ids [][]byte
	for id := range g.items {
		ids = append(ids, []byte(id))
	}
	for range 20 {
		ids = append(ids, drawnID(r))
	}
	sort.Slice(ids, func(i, j int) bool { return bytes.Compare(ids[i], ids[j]) < 0 })
	return ids
}

// P17.1, P17.2, P17.4: in trees of each greatness the way is the document's, may be, and shows what is there.
func TestProve(t *testing.T) {
	var kinds [3]int
	for seed := range int64(64) {
		r := rand.New(rand.NewSource(seed))
		size, n := 1+int(seed)%32, int(seed)
		g := plant(t, r, size, n)
		for _, id := range g.asked(r) {
			p := Prove(g.a, g.root, id)
			if want := wayOf(g.top, bitsOf(id)); said(p) != said(want) {
				t.Fatalf("%q: %v, not %v", id, p, want)
			}
			kinds[p.End.Kind]++
			holds(t, "proved", size, id, p, true)
			x, ok, errno := Find(size, g.a.Hash(g.root), id, p)
			if want, is := g.items[string(id)]; errno != api.OK || ok != is || said(x) != said(want) {
				t.Fatalf("%q: %v, %v, %v, not %v", id, x, ok, errno, want)
			}
		}
	}
	for kind, n := range kinds {
		if n < 20 {
			t.Error("few ends of kind", kind, n)
		}
	}
}

// P17.1, example 1: where no node is the root.
func TestProveOfNothing(t *testing.T) {
	a, _ := arena.New(4, 10)
	leaf, _ := a.Leaf([]byte("a"), nil, 1)
	for _, x := range []*arena.Arena{a, nil, {}} {
		for _, root := range []int{-1, leaf + 1, -2, math.MinInt, math.MaxInt} {
			if p := Prove(x, root, []byte("a")); said(p) != said(api.Path{}) {
				t.Error(root, p)
			}
		}
	}
	if p := Prove(nil, leaf, []byte("a")); said(p) != said(api.Path{}) {
		t.Error(p)
	}
	holds(t, "nothing", 4, []byte("a"), Prove(a, -1, []byte("a")), true)
	if x, ok, errno := Find(4, a.Hash(-1), []byte("a"), api.Path{}); errno != api.OK || ok || said(x) != said(api.Item{}) {
		t.Error(x, ok, errno)
	}
	if x, ok, errno := Find(4, a.Hash(leaf), []byte("a"), api.Path{}); errno != api.ErrProof || ok || said(x) != said(api.Item{}) {
		t.Error(x, ok, errno)
	}
}

// P17.1: identities beyond the limits have a way, but none that is taken; the tree's own may be longer.
func TestLongIdentities(t *testing.T) {
	a, _ := arena.New(4, 1000)
	root := -1
	long := bytes.Repeat([]byte("x"), 255)
	for i, n := range []int{24, 25, 254, 255} {
		root, _ = ptree.Insert(a, root, long[:n], []byte("k"), i)
	}
	for _, n := range []int{0, 23, 24, 25, 200, 255} {
		p := Prove(a, root, long[:n])
		_, is := ptree.Get(a, root, long[:n])
		if is != (p.End.Kind == api.EndLeaf && bytes.Equal(p.End.ID, long[:n])) {
			t.Error(n, p)
		}
		holds(t, fmt.Sprint(n, " bytes"), 4, long[:n], p, n <= 24)
	}
	// Of a longer one the first 255 bytes count.
	longer := append(bytes.Clone(long), "yz"...)
	if p, q := Prove(a, root, longer), Prove(a, root, long); said(p) != said(q) {
		t.Error(p, q)
	}
}

// The rule 'Ends': forks that were put in by hand, with depths that do not rise, and where an identity's bits end.
func TestProveOfForksByHand(t *testing.T) {
	a, _ := arena.New(4, 1<<17)
	one, _ := a.Leaf([]byte{0}, nil, 7)
	other, _ := a.Leaf([]byte{1}, nil, 9)
	top := one
	for range 1 << 16 {
		top, _ = a.Fork(0, nil, top, other)
	}
	p := Prove(a, top, nil)
	if len(p.Hops) != 1<<16 || said(p.End) != said(api.Part{Kind: 1, ID: []byte{0}, Since: 7}) {
		t.Error(len(p.Hops), p.End)
	}
	for _, h := range p.Hops {
		if said(h) != said(api.Hop{Newest: 9, Sibling: a.Hash(other)}) {
			t.Fatal(h)
		}
	}
	if Check(4, nil, p) != api.ErrProof {
		t.Error("depths that do not rise are taken")
	}
	full, _ := a.Fork(8, []byte{0}, one, other)
	if p := Prove(a, full, nil); len(p.Hops) != 1 || p.Hops[0].Depth != 8 || Check(4, nil, p) != api.ErrProof {
		t.Error(p)
	}
}

// the ways that the following tests change: of the identity "ab" (2, 0x61, 0x62), with digests of 3 bytes.
const size = 3

var ab = []byte("ab")

func hash(x byte) []byte { return []byte{x, x, x} }

func hops(depths ...int) []api.Hop {
	var out []api.Hop
	for i, d := range depths {
		out = append(out, api.Hop{Depth: d, Newest: i, Sibling: hash(byte(i))})
	}
	return out
}

func leaf(id string) api.Part { return api.Part{Kind: 1, ID: []byte(id), Key: []byte("k"), Since: 5} }

func closed(row string) api.Part {
	return api.Part{Kind: 2, Depth: len(row), Prefix: packed(row), Newest: 5, Left: hash(8), Right: hash(9)}
}

// P17.1: the depths of hops.
func TestDepths(t *testing.T) {
	for _, c := range []struct {
		depths []int
		may    bool
	}{
		{nil, true}, {[]int{0}, true}, {[]int{23}, true}, {[]int{0, 1, 2, 3, 4, 5, 6, 7, 8, 22, 23}, true}, {[]int{6, 20}, true},
		{[]int{-1}, false}, {[]int{-1, 0}, false}, {[]int{math.MinInt}, false}, {[]int{24}, false}, {[]int{0, 24}, false}, {[]int{25}, false}, {[]int{math.MaxInt}, false},
		{[]int{5, 5}, false}, {[]int{5, 4}, false}, {[]int{0, 5, 5, 6}, false}, {[]int{0, 7, 3, 9}, false}, {[]int{5, -1}, false}, {[]int{5, math.MaxInt, 6}, false},
	} {
		holds(t, fmt.Sprint("depths ", c.depths), size, ab, api.Path{Hops: hops(c.depths...), End: leaf("ab")}, c.may)
	}
	// Without bytes an identity has eight bits.
	holds(t, "the last bit of none", size, nil, api.Path{Hops: hops(7), End: leaf("")}, true)
	holds(t, "behind the bits of none", size, nil, api.Path{Hops: hops(8), End: leaf("")}, false)
}

// P17.1: sizes, and identities.
func TestSizes(t *testing.T) {
	for n := -1; n <= 34; n++ {
		h := make([]byte, max(n, 0))
		for what, p := range map[string]api.Path{
			"nothing": {}, "leaf": {End: leaf("x")}, "hop": {Hops: []api.Hop{{Depth: 3, Sibling: h}}, End: leaf("ab")},
			"closed": {End: api.Part{Kind: 2, Depth: 1, Prefix: []byte{0x80}, Left: h, Right: h}},
		} {
			holds(t, fmt.Sprint(what, " of size ", n), n, ab, p, n >= 1 && n <= 32)
		}
	}
	for _, n := range []int{math.MinInt, math.MaxInt} {
		holds(t, "a size", n, ab, api.Path{}, false)
	}
	for _, n := range []int{0, 23, 24, 25, 255, 256, 300} {
		holds(t, fmt.Sprint(n, " bytes, nothing"), size, make([]byte, n), api.Path{}, n <= 24)
		holds(t, fmt.Sprint(n, " bytes, a leaf"), size, make([]byte, n), api.Path{End: leaf("")}, n <= 24)
	}
}

// P17.1: numbers and hashes.
func TestNumbersAndHashes(t *testing.T) {
	for _, n := range []int{math.MinInt, -1, 0, 1, 254, 255, 256, 257, 1 << 16, math.MaxInt} {
		may := n >= 0 && n <= 255
		for i := range 3 {
			p := api.Path{Hops: hops(1, 2, 3), End: leaf("ab")}
			p.Hops[i].Newest = n
			holds(t, fmt.Sprint("newest of a hop ", n), size, ab, p, may)
		}
		p := api.Path{Hops: hops(1, 2, 3), End: leaf("ab")}
		p.End.Since = n
		holds(t, fmt.Sprint("since ", n), size, ab, p, may)
		p = api.Path{Hops: hops(1, 2, 3), End: closed("000001")}
		p.End.Newest = n
		holds(t, fmt.Sprint("newest ", n), size, ab, p, may)
	}
	for n := range 6 {
		h := make([]byte, n)
		for i := range 3 {
			p := api.Path{Hops: hops(1, 2, 3), End: leaf("ab")}
			p.Hops[i].Sibling = h
			holds(t, fmt.Sprint("a sibling of ", n), size, ab, p, n == size)
		}
		p := api.Path{End: closed("1")}
		p.End.Left = h
		holds(t, fmt.Sprint("a left one of ", n), size, ab, p, n == size)
		p = api.Path{End: closed("1")}
		p.End.Right = h
		holds(t, fmt.Sprint("a right one of ", n), size, ab, p, n == size)
	}
}

// P17.1: what leaves may be at the end.
func TestLeaves(t *testing.T) {
	for _, n := range []int{0, 1, 47, 48, 49, 300} {
		p := api.Path{End: leaf("ab")}
		p.End.Key = make([]byte, n)
		holds(t, fmt.Sprint("a key of ", n), size, ab, p, n <= 48)
	}
	for _, n := range []int{0, 24, 25, 254, 255, 256, 300} {
		holds(t, fmt.Sprint("an identity of ", n), size, ab, api.Path{End: leaf(strings.Repeat("x", n))}, n <= 255)
	}
	for _, c := range []struct {
		id   string
		last int
		may  bool
	}{
		{"ab", 23, true}, {"ac", 22, true}, {"ac", 23, false}, {"a\xff", 15, true}, {"a\xff", 16, false}, {"\xffb", 7, true}, {"\xffb", 8, false},
		{"\x21b", 8, true}, {"\x21b", 9, false}, {"", 5, true}, {"", 6, false}, {"abc", 6, true}, {"abc", 7, false}, {"a", 5, true}, {"a", 6, false},
		{strings.Repeat("x", 255), 0, false}, {strings.Repeat("x", 127), 0, true}, {strings.Repeat("x", 127), 1, false},
	} {
		holds(t, fmt.Sprintf("%q behind %d", c.id, c.last), size, ab, api.Path{Hops: hops(c.last), End: leaf(c.id)}, c.may)
		holds(t, fmt.Sprintf("%q alone", c.id), size, ab, api.Path{End: leaf(c.id)}, true)
	}
	// An identity whose bits end ahead of the hop's depth and one more.
	holds(t, "bits that end", size, make([]byte, 24), api.Path{Hops: hops(100), End: leaf("")}, false)
}

// P17.1: what forks may be at the end.
func TestForks(t *testing.T) {
	row := bitsOf(ab)
	parted := func(n int) string { return row[:n-1] + string('0'+'1'-row[n-1]) }
	for _, c := range []struct {
		what string
		hops []api.Hop
		end  api.Part
		may  bool
	}{
		{"the first bit parts", nil, closed("1"), true},
		{"nothing parts, no bits", nil, closed(""), false},
		{"nothing parts, one bit", nil, closed("0"), false},
		{"nothing parts, all bits", nil, closed(row), false},
		{"longer than the bits", nil, closed(row + "0"), true},
		{"much longer than the bits", hops(23), closed(row + strings.Repeat("01", 20)), true},
		{"parts behind the hop", hops(4), closed(row[:5] + parted(7)[5:]), true},
		{"the last bit parts", hops(4, 22), closed(parted(24)), true},
		{"parts at the hop's own bit", hops(6), closed(parted(7)), false},
		{"parts at the hop's own bit, and longer", hops(6), closed(parted(7) + "11"), false},
		{"parts ahead of the hop", hops(6), closed("1000001011"), false},
		{"as deep as the hop", hops(6), closed(row[:6]), false},
		{"less deep than the hop", hops(9), closed("1"), false},
		{"less deep than the hop, a beginning", hops(9), closed(row[:5]), false},
		{"one deeper than the hop, a beginning", hops(6), closed(row[:7]), false},
		{"2048 bits", nil, closed(strings.Repeat("10", 1024)), true},
		{"2049 bits", nil, closed(strings.Repeat("10", 1024) + "1"), false},
		{"2056 bits", nil, closed(strings.Repeat("10", 1028)), false},
		{"2048 bits behind all hops", hops(23), closed(row + strings.Repeat("1", 2024)), true},
		{"a bit behind the prefix", nil, api.Part{Kind: 2, Depth: 3, Prefix: []byte{0b10010000}, Left: hash(1), Right: hash(2)}, false},
		{"the last bit behind the prefix", nil, api.Part{Kind: 2, Depth: 15, Prefix: []byte{0xff, 1}, Left: hash(1), Right: hash(2)}, false},
		{"a byte too many", nil, api.Part{Kind: 2, Depth: 3, Prefix: []byte{0b10000000, 0}, Left: hash(1), Right: hash(2)}, false},
		{"a byte too few", nil, api.Part{Kind: 2, Depth: 9, Prefix: []byte{0b10000000}, Left: hash(1), Right: hash(2)}, false},
		{"no byte", nil, api.Part{Kind: 2, Depth: 1, Left: hash(1), Right: hash(2)}, false},
		{"a byte of none", nil, api.Part{Kind: 2, Prefix: []byte{0x80}, Left: hash(1), Right: hash(2)}, false},
		{"a depth below 0", nil, api.Part{Kind: 2, Depth: -1, Left: hash(1), Right: hash(2)}, false},
		{"a depth far below 0", nil, api.Part{Kind: 2, Depth: math.MinInt, Prefix: []byte{0x80}, Left: hash(1), Right: hash(2)}, false},
		{"a depth far above", nil, api.Part{Kind: 2, Depth: math.MaxInt, Prefix: []byte{0x80}, Left: hash(1), Right: hash(2)}, false},
	} {
		holds(t, c.what, size, ab, api.Path{Hops: c.hops, End: c.end}, c.may)
	}
}

// foreign is a change for each field of an end, that lays something in.
func foreign() map[string]func(*api.Part) {
	return map[string]func(*api.Part){
		"an ID":         func(p *api.Part) { p.ID = []byte{1} },
		"a Key":         func(p *api.Part) { p.Key = []byte{1} },
		"a Since":       func(p *api.Part) { p.Since = 1 },
		"a low Since":   func(p *api.Part) { p.Since = -1 },
		"a Depth":       func(p *api.Part) { p.Depth = 1 },
		"a low Depth":   func(p *api.Part) { p.Depth = -1 },
		"a Prefix":      func(p *api.Part) { p.Prefix = []byte{0} },
		"a Newest":      func(p *api.Part) { p.Newest = 1 },
		"a Left":        func(p *api.Part) { p.Left = hash(1) },
		"a Right":       func(p *api.Part) { p.Right = hash(1) },
		"Kids":          func(p *api.Part) { p.Kids = make([]api.Part, 1) },
		"two Kids":      func(p *api.Part) { p.Kids = []api.Part{leaf("a"), leaf("b")} },
		"a high Newest": func(p *api.Part) { p.Newest = math.MaxInt },
	}
}

// P17.1: an end has just what its kind has, and is of one of three.
func TestEnds(t *testing.T) {
	own := map[int]string{0: "", 1: "an ID, a Key, a Since", 2: "a Depth, a Prefix, a Newest, a Left, a Right"}
	for kind, end := range []api.Part{{}, leaf("ab"), closed("1")} {
		for what, lay := range foreign() {
			if strings.Contains(own[kind], what) {
				continue
			}
			p := api.Path{End: end}
			lay(&p.End)
			holds(t, fmt.Sprint(what, " of kind ", kind), size, ab, p, false)
		}
		p := api.Path{Hops: hops(), End: end}
		p.End.Kids, p.Hops = []api.Part{}, []api.Hop{}
		holds(t, "none and nil are the same", size, ab, p, true)
	}
	for _, kind := range []int{math.MinInt, -1, 3, 4, 256, math.MaxInt} {
		for _, end := range []api.Part{{}, leaf("ab"), closed("1"), {Depth: 1, Prefix: []byte{0x80}, Kids: []api.Part{leaf("a"), leaf("b")}}} {
			end.Kind = kind
			holds(t, fmt.Sprint("kind ", kind), size, ab, api.Path{End: end}, false)
		}
	}
	holds(t, "nothing behind a hop", size, ab, api.Path{Hops: hops(0)}, false)
	holds(t, "nothing behind hops", size, ab, api.Path{Hops: hops(1, 5)}, false)
	holds(t, "nothing", size, ab, api.Path{}, true)
}

// changed is a way of which something is otherwise; perhaps it still may be.
func changed(r *rand.Rand, p api.Path) api.Path {
	p = own(p)
	flip := func(b []byte) []byte {
		if len(b) == 0 || r.Intn(6) == 0 {
			return append(b, byte(r.Intn(3)))
		}
		if r.Intn(6) == 0 {
			return b[:len(b)-1]
		}
		b[r.Intn(len(b))] ^= 1 << r.Intn(8)
		return b
	}
	turn := func(n int) int { return []int{n + 1, n - 1, -n, r.Intn(300) - 2, n + 8}[r.Intn(5)] }
	if len(p.Hops) > 0 && r.Intn(2) == 0 {
		i := r.Intn(len(p.Hops))
		switch r.Intn(5) {
		case 0:
			p.Hops[i].Depth = turn(p.Hops[i].Depth)
		case 1:
			p.Hops[i].Newest = turn(p.Hops[i].Newest)
		case 2:
			p.Hops[i].Sibling = flip(p.Hops[i].Sibling)
		case 3:
			p.Hops = append(p.Hops[:i], p.Hops[i+1:]...)
		case 4:
			p.Hops = append(p.Hops[:i+1], p.Hops[i:]...)
		}
		return p
	}
	switch r.Intn(9) {
	case 0:
		p.End.Kind = r.Intn(5)
	case 1:
		p.End.ID = flip(p.End.ID)
	case 2:
		p.End.Key = flip(p.End.Key)
	case 3:
		p.End.Since = turn(p.End.Since)
	case 4:
		p.End.Depth = turn(p.End.Depth)
	case 5:
		p.End.Prefix = flip(p.End.Prefix)
	case 6:
		p.End.Newest = turn(p.End.Newest)
	case 7:
		p.End.Left = flip(p.End.Left)
	case 8:
		p.End.Right = flip(p.End.Right)
	}
	return p
}

// own is a way in memory of its own.
func own(p api.Path) api.Path {
	var list []api.Hop
	for _, h := range p.Hops {
		h.Sibling = bytes.Clone(h.Sibling)
		list = append(list, h)
	}
	e := p.End
	e.ID, e.Key, e.Prefix, e.Left, e.Right = bytes.Clone(e.ID), bytes.Clone(e.Key), bytes.Clone(e.Prefix), bytes.Clone(e.Left), bytes.Clone(e.Right)
	e.Kids = append([]api.Part(nil), e.Kids...)
	return api.Path{Hops: list, End: e}
}

// P17.1, P17.2: ways of which something was changed are taken just if they may be; and under the root none but the true one shows anything.
func TestChangedWays(t *testing.T) {
	taken := 0
	for seed := range int64(40) {
		r := rand.New(rand.NewSource(seed))
		size := 1 + r.Intn(32)
		g := plant(t, r, size, r.Intn(40))
		for _, id := range g.asked(r) {
			p := Prove(g.a, g.root, id)
			for range 20 {
				q := changed(r, p)
				if r.Intn(3) == 0 {
					q = changed(r, q)
				}
				may := mayBe(size, id, q)
				holds(t, "changed", size, id, q, may)
				if may {
					taken++
				}
				if _, _, errno := Find(size, g.a.Hash(g.root), id, q); size > 8 && (errno == api.OK) != (said(p) == said(q)) {
					t.Fatalf("%v, %v: %v", p, q, errno)
				}
			}
		}
	}
	if taken < 1000 {
		t.Error("few that may be:", taken)
	}
}

// drawnWay is a way of "ab" that may be.
func drawnWay(r *rand.Rand) api.Path {
	p := api.Path{}
	last := -1
	for depth := range 24 {
		if r.Intn(8) == 0 {
			h := make([]byte, 1)
			r.Read(h)
			p.Hops = append(p.Hops, api.Hop{Depth: depth, Newest: r.Intn(256), Sibling: h})
			last = depth
		}
	}
	switch r.Intn(3) {
	case 0:
		p.End = api.Part{Kind: 1, ID: ab, Key: drawnKey(r), Since: r.Intn(256)}
	case 1:
		row := []byte(bitsOf(ab))
		for i := max(last+1, 8); i < len(row); i++ {
			row[i] = "01"[r.Intn(2)]
		}
		p.End = api.Part{Kind: 1, ID: packed(string(row[8:])), Key: drawnKey(r), Since: r.Intn(256)}
	case 2:
		row := []byte(bitsOf(ab) + "0000")
		for i := last + 1; i < len(row); i++ {
			row[i] = "01"[r.Intn(2)]
		}
		row = row[:last+1+r.Intn(len(row)-last)]
		if len(row) == last+1 || strings.HasPrefix(bitsOf(ab), string(row)) {
			return drawnWay(r)
		}
		p.End = api.Part{Kind: 2, Depth: len(row), Prefix: packed(string(row)), Newest: r.Intn(256), Left: []byte{byte(r.Intn(256))}, Right: []byte{byte(r.Intn(256))}}
	}
	return p
}

// P17.5: digests of one byte are met often: of two ways under one root that show unlike things the first texts that part have one hash.
func TestTwoWaysUnderOneRoot(t *testing.T) {
	r := rand.New(rand.NewSource(1))
	under := map[byte][]api.Path{}
	for range 3000 {
		p := drawnWay(r)
		holds(t, "drawn", 1, ab, p, true)
		root := cut(1, Texts(1, ab, p)[0])[0]
		under[root] = append(under[root], p)
	}
	pairs, deep := 0, 0
	for root, ways := range under {
		for i, p := range ways {
			for _, q := range ways[:i] {
				x, ok, errno := Find(1, []byte{root}, ab, p)
				y, is, other := Find(1, []byte{root}, ab, q)
				if errno != api.OK || other != api.OK {
					t.Fatal(errno, other)
				}
				one, two := Texts(1, ab, p), Texts(1, ab, q)
				at := 0
				for at < len(one) && at < len(two) && bytes.Equal(one[at], two[at]) {
					at++
				}
				if at == len(one) || at == len(two) {
					if len(one) != len(two) || ok != is || said(x) != said(y) {
						t.Fatalf("no texts part: %v, %v", p, q)
					}
					continue
				}
				if !bytes.Equal(cut(1, one[at]), cut(1, two[at])) {
					t.Fatalf("%x and %x have not one hash", one[at], two[at])
				}
				pairs++
			}
		}
	}
	// And with the forks above the same: only the end is another one.
	for range 300 {
		p := drawnWay(r)
		q := own(p)
		q.End = drawnWay(r).End
		list, others := Texts(1, ab, p), Texts(1, ab, q)
		if len(others) == 0 || !bytes.Equal(cut(1, list[0]), cut(1, others[0])) || said(p) == said(q) {
			continue
		}
		at := 0
		for bytes.Equal(list[at], others[at]) {
			at++
		}
		if !bytes.Equal(cut(1, list[at]), cut(1, others[at])) {
			t.Fatalf("%x and %x have not one hash", list[at], others[at])
		}
		if at > 0 {
			deep++
		}
	}
	if pairs < 1000 || deep == 0 {
		t.Error("few pairs:", pairs, deep)
	}
}

// coded is a number's bytes, spelled out.
func coded(n int) []byte {
	b := bytes.TrimLeft(number(max(n, 0)), "\x00")
	return append([]byte{byte(len(b))}, b...)
}

// written is a way's bytes, spelled out.
func written(p api.Path) []byte {
	b := coded(len(p.Hops))
	for _, h := range p.Hops {
		b = append(append(append(b, coded(h.Depth)...), coded(h.Newest)...), h.Sibling...)
	}
	e := p.End
	b = append(b, coded(e.Kind)...)
	text := func(s []byte) { b = append(append(b, coded(len(s))...), s...) }
	if e.Kind == 1 {
		text(e.ID)
		text(e.Key)
		b = append(b, coded(e.Since)...)
	}
	if e.Kind == 2 {
		b = append(b, coded(e.Depth)...)
		text(e.Prefix)
		b = append(append(append(b, coded(e.Newest)...), e.Left...), e.Right...)
	}
	return b
}

// P17.3: the bytes.
func TestWrite(t *testing.T) {
	for _, c := range []struct {
		p    api.Path
		want []byte
	}{
		{api.Path{}, []byte{0, 0}},
		{api.Path{End: leaf("ab")}, []byte{0, 1, 1, 1, 2, 'a', 'b', 1, 1, 'k', 1, 5}},
		{api.Path{End: closed("1")}, []byte{0, 1, 2, 1, 1, 1, 1, 0x80, 1, 5, 8, 8, 8, 9, 9, 9}},
		{api.Path{Hops: []api.Hop{{Depth: 0, Newest: 255, Sibling: hash(7)}, {Depth: 258, Newest: 0, Sibling: hash(6)}}, End: leaf("")},
			[]byte{1, 2, 0, 1, 255, 7, 7, 7, 2, 1, 2, 0, 6, 6, 6, 1, 1, 0, 1, 1, 'k', 1, 5}},
		// What can't be is written as it is.
		{api.Path{Hops: []api.Hop{{Depth: -3, Newest: -1}}, End: api.Part{Kind: 3, Depth: 4, Left: hash(1), Kids: make([]api.Part, 2)}}, []byte{1, 1, 0, 0, 1, 3}},
		{api.Path{End: api.Part{Kind: -1, ID: ab}}, []byte{0, 0}},
		{api.Path{End: api.Part{Kind: 300, ID: ab}}, []byte{0, 2, 1, 44}},
		{api.Path{End: api.Part{Kind: 1, Since: -9, Depth: 4}}, []byte{0, 1, 1, 0, 0, 0}},
		{api.Path{End: api.Part{Kind: 2, ID: ab, Left: []byte{1}, Right: []byte{2, 3}}}, []byte{0, 1, 2, 0, 0, 0, 1, 2, 3}},
	} {
		for _, b := range [][]byte{nil, {}, {9}, []byte("ahead")} {
			if got := Write(b, c.p); !bytes.Equal(got, append(bytes.Clone(b), c.want...)) {
				t.Errorf("%v: %v, not %v", c.p, got, c.want)
			}
		}
	}
}

// reads holds Read against a way, or an error, and what is left.
func reads(t *testing.T, what string, size int, b []byte, want api.Path, left []byte, errno api.Errno) {
	t.Helper()
	p, rest, e := Read(size, b)
	if e != errno || said(p) != said(want) || !bytes.Equal(rest, left) {
		t.Fatalf("%s: Read(%d, %v): %v, %v, %v, not %v, %v, %v", what, size, b, p, rest, e, want, left, errno)
	}
}

// refused: such bytes are no way.
func refused(t *testing.T, what string, size int, b []byte, errno api.Errno) {
	t.Helper()
	reads(t, what, size, b, api.Path{}, nil, errno)
}

// P17.3: what was written is read, whatever is left behind it; each beginning is too short.
func TestReadOfWrite(t *testing.T) {
	for seed := range int64(32) {
		r := rand.New(rand.NewSource(seed))
		size := 1 + int(seed)
		g := plant(t, r, size, 30)
		for i, id := range g.asked(r) {
			p := Prove(g.a, g.root, id)
			b := Write(nil, p)
			if !bytes.Equal(b, written(p)) {
				t.Fatalf("%v: %v, not %v", p, b, written(p))
			}
			for _, left := range [][]byte{nil, {0}, {9, 9}, bytes.Repeat([]byte{7}, 1000)} {
				reads(t, "written", size, append(bytes.Clone(b), left...), p, left, api.OK)
			}
			if i%10 == 0 {
				for n := range b {
					refused(t, "a beginning", size, b[:n], api.ErrShort)
				}
			}
		}
	}
}

// P17.3: ways that may not be are read too.
func TestReadTakesMore(t *testing.T) {
	most := api.Path{Hops: make([]api.Hop, 4096), End: api.Part{Kind: 1, ID: make([]byte, 300), Key: make([]byte, 300), Since: 1 << 16}}
	for i := range most.Hops {
		most.Hops[i] = api.Hop{Depth: 1 << 16, Newest: 1 << 16, Sibling: hash(byte(i))}
	}
	reads(t, "the greatest", size, append(written(most), 5), most, []byte{5}, api.OK)
	fork := api.Path{End: api.Part{Kind: 2, Depth: 1 << 16, Prefix: bytes.Repeat([]byte{1}, 300), Newest: 1 << 16, Left: hash(1), Right: hash(2)}}
	reads(t, "the greatest fork", size, written(fork), fork, nil, api.OK)
	none := api.Path{Hops: []api.Hop{{Depth: 9, Sibling: hash(1)}, {Depth: 9, Sibling: hash(1)}}}
	reads(t, "nothing behind hops", size, written(none), none, nil, api.OK)
}

// P17.3: the errors, the first one first.
func TestReadErrors(t *testing.T) {
	over := []byte{3, 1, 0, 1} // 2^16 + 1
	longText := append([]byte{2, 1, 45}, make([]byte, 301)...)
	join := func(list ...[]byte) []byte { return bytes.Join(list, nil) }
	for _, c := range []struct {
		what  string
		b     []byte
		errno api.Errno
	}{
		{"nothing", nil, api.ErrShort},
		{"no kind", []byte{0}, api.ErrShort},
		{"4097 hops", append([]byte{2, 16, 1}, make([]byte, 50000)...), api.ErrFull},
		{"4096 hops, too short", []byte{2, 16, 0}, api.ErrShort},
		{"hops of no form", []byte{9}, api.ErrForm},
		{"hops with a nought", []byte{1, 0, 0}, api.ErrForm},
		{"hops beyond 2^62", []byte{8, 255, 0, 0, 0, 0, 0, 0, 0}, api.ErrForm},
		{"a hop's depth", join([]byte{1, 1}, over, []byte{0, 1, 1, 1, 0}), api.ErrFull},
		{"a hop's newest", join([]byte{1, 1, 0}, over, []byte{1, 1, 1, 0}), api.ErrFull},
		{"a hop's depth of no form", []byte{1, 1, 2, 0, 1, 0, 1, 1, 1, 0}, api.ErrForm},
		{"a hop's newest of no form", []byte{1, 1, 0, 9, 1, 1, 1, 0}, api.ErrForm},
		{"a sibling that is not whole", []byte{1, 1, 0, 0, 1, 1}, api.ErrShort},
		{"an error ahead of another", []byte{1, 1, 0, 9, 1, 1}, api.ErrForm},
		{"kind 3", append([]byte{0, 1, 3}, make([]byte, 20)...), api.ErrForm},
		{"kind 3, nothing behind", []byte{0, 1, 3}, api.ErrForm},
		{"kind 4", []byte{0, 1, 4, 0}, api.ErrForm},
		{"kind 2^16", []byte{0, 3, 1, 0, 0}, api.ErrForm},
		{"kind above 2^16", []byte{0, 3, 1, 0, 1}, api.ErrFull},
		{"a kind of no form", []byte{0, 1, 0}, api.ErrForm},
		{"an ID too long", join([]byte{0, 1, 1}, longText, []byte{0, 0}), api.ErrFull},
		{"a Key too long", join([]byte{0, 1, 1, 0}, longText, []byte{0}), api.ErrFull},
		{"an ID that is not whole", []byte{0, 1, 1, 1, 3, 1, 2}, api.ErrShort},
		{"a Key that is not whole", []byte{0, 1, 1, 0, 1, 3, 1, 2}, api.ErrShort},
		{"a since", join([]byte{0, 1, 1, 0, 0}, over), api.ErrFull},
		{"a since of no form", []byte{0, 1, 1, 0, 0, 1, 0}, api.ErrForm},
		{"a depth", join([]byte{0, 1, 2}, over, make([]byte, 8)), api.ErrFull},
		{"a prefix too long", join([]byte{0, 1, 2, 0}, longText, make([]byte, 7)), api.ErrFull},
		{"a prefix that is not whole", []byte{0, 1, 2, 0, 1, 3, 1, 2}, api.ErrShort},
		{"a newest", join([]byte{0, 1, 2, 0, 0}, over, make([]byte, 6)), api.ErrFull},
		{"a left one that is not whole", []byte{0, 1, 2, 0, 0, 0, 1, 1}, api.ErrShort},
		{"a right one that is not whole", []byte{0, 1, 2, 0, 0, 0, 1, 1, 1, 2, 2}, api.ErrShort},
	} {
		refused(t, c.what, size, c.b, c.errno)
	}
	for _, n := range []int{math.MinInt, -1, 0, 33, math.MaxInt} {
		for _, b := range [][]byte{nil, {0, 0}, {9}, {0, 1, 3}, written(api.Path{Hops: hops(1), End: leaf("ab")})} {
			refused(t, "a size", n, b, api.ErrForm)
		}
	}
}

// P17.3: of all bytes whatever Read ends, and what it reads are those that Write writes.
func TestReadOfWhatever(t *testing.T) {
	r := rand.New(rand.NewSource(3))
	taken := 0
	for range 30000 {
		b := written(changed(r, drawnWay(r)))
		for range r.Intn(3) {
			b[r.Intn(len(b))] = byte(r.Intn(6))
		}
		p, rest, errno := Read(1, b)
		if errno != api.OK {
			refused(t, "whatever", 1, b, errno)
			continue
		}
		taken++
		if got := append(Write(nil, p), rest...); !bytes.Equal(got, b) {
			t.Fatalf("%v: %v, %v", b, p, rest)
		}
	}
	if taken < 1000 {
		t.Error("few were read:", taken)
	}
}

// scribble writes over bytes, and over the room behind them.
func scribble(b []byte) {
	b = b[:cap(b)]
	for i := range b {
		b[i] ^= 0xa5
	}
}

func scribblePath(p api.Path) {
	for _, b := range lists(p) {
		scribble(b)
	}
	for i := range p.Hops {
		p.Hops[i] = api.Hop{Depth: 77}
	}
}

// lists is all lists of bytes of a way.
func lists(p api.Path) [][]byte {
	out := [][]byte{p.End.ID, p.End.Key, p.End.Prefix, p.End.Left, p.End.Right}
	for _, h := range p.Hops {
		out = append(out, h.Sibling)
	}
	return out
}

// apart: writing over one list, and the room behind it, changes no other one.
func apart(t *testing.T, list [][]byte) {
	t.Helper()
	for i, b := range list {
		var was [][]byte
		for _, other := range list {
			was = append(was, bytes.Clone(other))
		}
		scribble(b)
		was[i] = b
		if said(list) != said(was) {
			t.Fatal("two lists of one answer share memory")
		}
		scribble(b)
	}
}

// The rule 'Memory': answers are their own, and nothing that was handed in is changed or kept.
func TestMemory(t *testing.T) {
	r := rand.New(rand.NewSource(4))
	g := plant(t, r, size, 20)
	root := g.a.Hash(g.root)
	for _, id := range g.asked(r) {
		want := said(wayOf(g.top, bitsOf(id)))
		scribblePath(Prove(g.a, g.root, id))
		p := Prove(g.a, g.root, id)
		whole := append(bytes.Clone(id), "behind"...)
		Prove(g.a, g.root, whole[:len(id)])
		Check(size, whole[:len(id)], p)
		list := Texts(size, whole[:len(id)], p)
		x, _, _ := Find(size, root, whole[:len(id)], p)
		b := make([]byte, 3, 2000)
		long := b[:2000]
		w := Write(b, p)
		q, rest, _ := Read(size, append(written(p), 1, 2, 3))
		if said(p) != want || !bytes.Equal(whole, append(bytes.Clone(id), "behind"...)) || !bytes.Equal(long, make([]byte, 2000)) {
			t.Fatal("an argument is changed")
		}
		kept, listed := said(q), said(list[1:])
		scribble(list[0])
		scribble(x.ID)
		scribble(x.Key)
		scribble(w)
		scribble(rest)
		if said(p) != want || said(q) != kept || said(list[1:]) != listed || !bytes.Equal(long, make([]byte, 2000)) {
			t.Fatal("an answer shares memory")
		}
		in := append(written(p), 1, 2, 3)
		q, rest, _ = Read(size, in)
		scribble(in)
		if said(q) != kept || !bytes.Equal(rest, []byte{1, 2, 3}) {
			t.Fatal("what was handed in is kept")
		}
		apart(t, append(lists(q), rest))
		apart(t, lists(Prove(g.a, g.root, id)))
		apart(t, Texts(size, id, p))
	}
	// None of the bytes that Write tells is b's own, even if nothing was there.
	empty := make([]byte, 0, 100)
	scribble(Write(empty, api.Path{End: leaf("ab")}))
	if !bytes.Equal(empty[:100], make([]byte, 100)) {
		t.Fatal("the room behind a list's end is written to")
	}
}
