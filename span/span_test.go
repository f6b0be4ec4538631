package span

import (
	"bytes"
	"crypto/sha256"
	"encoding/binary"
	"fmt"
	"math"
	"math/rand"
	"sort"
	"strings"
	"testing"

	"annals/api"
	"annals/arena"
	"annals/ptree"
)

// spelled is bytes as a text of 0 and 1.
func spelled(b []byte) string {
	var out strings.Builder
	for _, x := range b {
		fmt.Fprintf(&out, "%08b", x)
	}
	return out.String()
}

// packed is a text of 0 and 1 as bytes.
func packed(row string) []byte {
	out := make([]byte, (len(row)+7)/8)
	for i, c := range row {
		if c == '1' {
			out[i/8] |= 0x80 >> (i % 8)
		}
	}
	return out
}

// bitsOf is an identity's bits as a text of 0 and 1.
func bitsOf(id []byte) string {
	if len(id) > 255 {
		id = id[:255]
	}
	return spelled([]byte{byte(len(id))}) + spelled(id)
}

func number(n int) []byte { return binary.BigEndian.AppendUint64(nil, uint64(n)) }

// textOf is a text, reckoned without the program's own layers.
func textOf(tag byte, list ...[]byte) []byte {
	text := []byte{tag}
	for _, p := range list {
		text = binary.BigEndian.AppendUint16(text, uint16(len(p)))
		text = append(text, p...)
	}
	return text
}

// cut is the first bytes of a text's SHA-256.
func cut(size int, text []byte) []byte {
	sum := sha256.Sum256(text)
	return sum[:size]
}

// said is a thing as a text, in which none and nil are the same.
func said(x any) string { return fmt.Sprintf("%v", x) }

// node is a node of a tree as the document tells it, reckoned from the items alone.
type node struct {
	item   *api.Item // of a leaf
	row    string    // a leaf's bits, or a fork's prefix
	newest int
	kids   [2]*node
	hash   []byte
}

// grow is the tree of items in the order of their bits.
func grow(size int, items []api.Item) *node {
	if len(items) == 0 {
		return nil
	}
	if len(items) == 1 {
		x := items[0]
		return &node{item: &x, row: bitsOf(x.ID), newest: x.Since, hash: cut(size, textOf(1, x.ID, x.Key, number(x.Since)))}
	}
	first, last := bitsOf(items[0].ID), bitsOf(items[len(items)-1].ID)
	depth := 0
	for first[depth] == last[depth] {
		depth++
	}
	right := sort.Search(len(items), func(i int) bool { return bitsOf(items[i].ID)[depth] == '1' })
	n := &node{row: first[:depth], kids: [2]*node{grow(size, items[:right]), grow(size, items[right:])}}
	n.newest = max(n.kids[0].newest, n.kids[1].newest)
	n.hash = cut(size, textOf(2, number(depth), packed(n.row), number(n.newest), n.kids[0].hash, n.kids[1].hash))
	return n
}

// asked is which page is asked for.
type asked struct {
	from  int
	some  bool
	id    []byte
	limit int
}

// has tells whether a leaf is the page's, if there is room for it.
func (q asked) has(id []byte, since int) bool {
	return since > q.from && (!q.some || bitsOf(id) > bitsOf(q.id))
}

// passes tells whether a fork need not be gone into, for what it tells of itself.
func (q asked) passes(prefix string, newest int) bool {
	return newest <= q.from || q.some && sideOf(prefix, bitsOf(q.id)) == -1
}

// sideOf is the side on which two rows part: -1, if the first one has a 0 there.
func sideOf(prefix, row string) int {
	for i := range min(len(prefix), len(row)) {
		if prefix[i] != row[i] {
			return 2*int(prefix[i]-'0') - 1
		}
	}
	return 0
}

// pageOf is the page of all items of a tree, in the order of their bits, and whether there is more.
func (q asked) pageOf(items []api.Item) ([]api.Item, bool) {
	var page []api.Item
	for _, x := range items {
		if q.has(x.ID, x.Since) {
			page = append(page, x)
		}
	}
	if len(page) > max(q.limit, 0) {
		return page[:max(q.limit, 0)], true
	}
	return page, false
}

// partOf is the part of a tree that shows a page; ahead counts the page's leaves that were gone by.
func (q asked) partOf(n *node, ahead *int) api.Part {
	if n == nil {
		return api.Part{}
	}
	if n.item != nil {
		if q.has(n.item.ID, n.item.Since) {
			*ahead++
		}
		return api.Part{Kind: 1, ID: n.item.ID, Key: n.item.Key, Since: n.item.Since}
	}
	p := api.Part{Kind: 2, Depth: len(n.row), Prefix: packed(n.row), Newest: n.newest}
	if q.passes(n.row, n.newest) || *ahead >= q.limit {
		p.Left, p.Right = n.kids[0].hash, n.kids[1].hash
		return p
	}
	p.Kind = 3
	left := q.partOf(n.kids[0], ahead)
	p.Kids = []api.Part{left, q.partOf(n.kids[1], ahead)}
	return p
}

// flat is the parts of a part, from left to right, an open fork ahead of its kids, as many as there are.
func flat(p api.Part) []api.Part {
	list := []api.Part{p}
	if p.Kind == 3 {
		for _, kid := range p.Kids {
			list = append(list, flat(kid)...)
		}
	}
	return list
}

// mayBe is whether a part may be, as the document tells it, held against rows that are texts.
func mayBe(size int, p api.Part) bool {
	if size < 1 || size > 32 || len(flat(p)) > 4096 {
		return false
	}
	if p.Kind == 0 {
		return said(p) == said(api.Part{})
	}
	_, _, ok := stands(size, p)
	return ok
}

// stands is the bits and the newest of a part that is not nothing, and whether it may be.
func stands(size int, p api.Part) (string, int, bool) {
	epoch := func(n int) bool { return n >= 0 && n <= 255 }
	if p.Kind == 1 {
		just := api.Part{Kind: 1, ID: p.ID, Key: p.Key, Since: p.Since}
		return bitsOf(p.ID), p.Since, said(p) == said(just) && epoch(p.Since) && len(p.ID) <= 255 && len(p.Key) <= 48
	}
	just, kids := api.Part{Kind: p.Kind, Depth: p.Depth, Prefix: p.Prefix, Newest: p.Newest}, 0
	switch p.Kind {
	case 2:
		just.Left, just.Right = p.Left, p.Right
	case 3:
		kids = 2
	default:
		return "", 0, false
	}
	alone := p
	alone.Kids = nil
	if len(p.Kids) != kids || said(alone) != said(just) || !epoch(p.Newest) || p.Depth < 0 || p.Depth > 2048 || len(p.Prefix)*8 < p.Depth {
		return "", 0, false
	}
	row := spelled(p.Prefix)[:p.Depth]
	if !bytes.Equal(packed(row), p.Prefix) {
		return "", 0, false
	}
	if p.Kind == 2 {
		return row, p.Newest, len(p.Left) == size && len(p.Right) == size
	}
	most := 0
	for side, kid := range p.Kids {
		below, newest, ok := stands(size, kid)
		if !ok || !strings.HasPrefix(below, row+string(rune('0'+side))) {
			return "", 0, false
		}
		most = max(most, newest)
	}
	return row, p.Newest, p.Newest == most
}

// textOfPart is the text of a part that may be.
func textOfPart(size int, p api.Part) []byte {
	switch p.Kind {
	case 0:
		return textOf(0)
	case 1:
		return textOf(1, p.ID, p.Key, number(p.Since))
	case 3:
		p.Left, p.Right = cut(size, textOfPart(size, p.Kids[0])), cut(size, textOfPart(size, p.Kids[1]))
	}
	return textOf(2, number(p.Depth), p.Prefix, number(p.Newest), p.Left, p.Right)
}

// listOf is what a part that may be shows of a page.
func (q asked) listOf(p api.Part) ([]api.Item, bool, bool) {
	var page []api.Item
	closed := 0
	for _, x := range flat(p) {
		if x.Kind == 1 && q.has(x.ID, x.Since) {
			page = append(page, api.Item{ID: x.ID, Key: x.Key, Since: x.Since})
		}
		if x.Kind == 2 && !q.passes(spelled(x.Prefix)[:x.Depth], x.Newest) {
			if len(page) < q.limit {
				return nil, false, false
			}
			closed++
		}
	}
	most := max(q.limit, 0)
	return page[:min(most, len(page))], len(page) > most || closed > 0, true
}

// judges holds Check, Text and Hash of a part against the document.
func judges(t *testing.T, what string, size int, p api.Part, may bool) {
	t.Helper()
	if may != mayBe(size, p) {
		t.Fatalf("%s: the test itself is at odds: %v", what, p)
	}
	errno, text, hash := Check(size, p), Text(size, p), Hash(size, p)
	if !may {
		if errno != api.ErrProof || len(text) != 0 || len(hash) != 0 {
			t.Fatalf("%s: %v, %x, %x, though %v may not be", what, errno, text, hash, p)
		}
		if l, more, errno := List(size, p, 1000, false, nil, 0); errno != api.ErrProof || more || len(l) != 0 {
			t.Fatalf("%s: %v, %v, %v, though %v may not be", what, l, more, errno, p)
		}
		return
	}
	want := textOfPart(size, p)
	if errno != api.OK || !bytes.Equal(text, want) || !bytes.Equal(hash, cut(size, want)) {
		t.Fatalf("%s: %v, %x, %x, not %x, of %v", what, errno, text, hash, want, p)
	}
}

// lists holds List of a part that may be against the document.
func lists(t *testing.T, what string, size int, p api.Part, q asked) bool {
	t.Helper()
	want, more, ok := q.listOf(p)
	l, further, errno := List(size, p, q.from, q.some, q.id, q.limit)
	if (errno == api.OK) != ok || !ok && errno != api.ErrProof || further != more || said(l) != said(want) {
		t.Fatalf("%s, %v: %v, %v, %v, not %v, %v, %v, of %v", what, q, l, further, errno, want, more, ok, p)
	}
	return ok
}

// planted is a tree of items that are drawn, in an arena and by hand.
type planted struct {
	a     *arena.Arena
	root  int
	top   *node
	items []api.Item
}

// drawnID is an identity of few bytes out of few, so that many have beginnings in common; now and then a long one.
func drawnID(r *rand.Rand) []byte {
	id := make([]byte, r.Intn(4))
	if r.Intn(12) == 0 {
		id = make([]byte, 20+r.Intn(5))
	}
	if r.Intn(100) == 0 {
		id = make([]byte, 120+r.Intn(136))
	}
	for i := range id {
		id[i] = "\x00a\x80\xffb"[r.Intn(5)]
	}
	return id
}

func drawnKey(r *rand.Rand) []byte {
	key := make([]byte, r.Intn(49))
	r.Read(key)
	return key
}

func plant(t *testing.T, r *rand.Rand, size, n, epochs int) planted {
	t.Helper()
	a, errno := arena.New(size, 1<<18)
	if errno != api.OK {
		t.Fatal(errno)
	}
	g := planted{a: a, root: -1}
	now := map[string]api.Item{}
	for range n {
		x := api.Item{ID: drawnID(r), Key: drawnKey(r), Since: r.Intn(epochs)}
		if g.root, errno = ptree.Insert(a, g.root, x.ID, x.Key, x.Since); errno != api.OK {
			t.Fatal(errno)
		}
		now[string(x.ID)] = x
	}
	for _, x := range now {
		g.items = append(g.items, x)
	}
	sort.Slice(g.items, func(i, j int) bool { return bitsOf(g.items[i].ID) < bitsOf(g.items[j].ID) })
	g.top = grow(size, g.items)
	return g
}

// drawnAsk is a page that is asked for: some of its identities are there.
func (g planted) drawnAsk(r *rand.Rand, epochs int) asked {
	q := asked{from: r.Intn(epochs+2) - 1, some: r.Intn(2) == 0, id: drawnID(r), limit: 1 + r.Intn(4)}
	if len(g.items) > 0 && r.Intn(2) == 0 {
		q.id = g.items[r.Intn(len(g.items))].ID
	}
	if r.Intn(4) == 0 {
		q.limit = []int{0, -1, math.MinInt, 10, 100, math.MaxInt}[r.Intn(6)]
	}
	if r.Intn(20) == 0 {
		q.from = []int{math.MinInt, math.MaxInt, 256, 255, 254}[r.Intn(5)]
	}
	return q
}

func (q asked) prove(g planted) api.Part { return Prove(g.a, g.root, q.from, q.some, q.id, q.limit) }

// P18.1, P18.2, P18.4: of trees of each greatness the part is the document's, may be, has the tree's hash, and shows just the page.
func TestProve(t *testing.T) {
	var kinds [4]int
	for seed := range int64(96) {
		r := rand.New(rand.NewSource(seed))
		size, epochs := 1+int(seed)%32, []int{2, 6, 256}[r.Intn(3)]
		g := plant(t, r, size, int(seed), epochs)
		for range 60 {
			q := g.drawnAsk(r, epochs)
			ahead := 0
			p, want := q.prove(g), q.partOf(g.top, &ahead)
			if said(p) != said(want) {
				t.Fatalf("%v: %v, not %v", q, p, want)
			}
			for _, x := range flat(p) {
				kinds[x.Kind]++
			}
			judges(t, "proved", size, p, true)
			if !bytes.Equal(Hash(size, p), g.a.Hash(g.root)) {
				t.Fatalf("%v: %x, not %x", q, Hash(size, p), g.a.Hash(g.root))
			}
			if Count(p) != len(flat(p)) {
				t.Fatal(Count(p), len(flat(p)))
			}
			if !lists(t, "proved", size, p, q) {
				t.Fatalf("%v: not shown", q)
			}
			page, more := q.pageOf(g.items)
			l, further, errno := List(size, p, q.from, q.some, q.id, q.limit)
			if errno != api.OK || said(l) != said(page) || q.limit > 0 && further != more {
				t.Fatalf("%v: %v, %v, %v, not %v, %v", q, l, further, errno, page, more)
			}
		}
	}
	for kind, n := range kinds {
		if n < 60 {
			t.Error("few parts of kind", kind, n)
		}
	}
}

// P18.4: page by page all that changed comes, once and in order.
func TestPages(t *testing.T) {
	for seed := range int64(20) {
		r := rand.New(rand.NewSource(seed))
		g := plant(t, r, 8, 60, 6)
		for from := -1; from <= 6; from++ {
			for limit := 1; limit <= 9; limit += 2 {
				all, _ := asked{from: from, limit: 1000}.pageOf(g.items)
				var got []api.Item
				q := asked{from: from, limit: limit}
				for more := true; more; {
					l, further, errno := List(8, q.prove(g), q.from, q.some, q.id, q.limit)
					if errno != api.OK || further && len(l) != limit {
						t.Fatal(l, further, errno)
					}
					got, more = append(got, l...), further
					if more {
						q.some, q.id = true, l[len(l)-1].ID
					}
				}
				if said(got) != said(all) {
					t.Fatalf("from %d, by %d: %v, not %v", from, limit, got, all)
				}
			}
		}
	}
}

// P18.1, example 1: where no node is the root.
func TestProveOfNothing(t *testing.T) {
	a, _ := arena.New(4, 10)
	one, _ := a.Leaf([]byte("a"), nil, 1)
	for _, x := range []*arena.Arena{a, nil, {}} {
		for _, root := range []int{-1, one + 1, -2, math.MinInt, math.MaxInt} {
			if p := Prove(x, root, 0, false, nil, 1); said(p) != said(api.Part{}) {
				t.Error(root, p)
			}
		}
	}
	if p := Prove(nil, one, 0, false, nil, 1); said(p) != said(api.Part{}) {
		t.Error(p)
	}
	p := Prove(a, -1, 0, false, nil, 1)
	judges(t, "nothing", 4, p, true)
	lists(t, "nothing", 4, p, asked{limit: 1})
	lists(t, "nothing", 4, p, asked{from: -1, some: true, limit: 0})
	if Count(p) != 1 || !bytes.Equal(Hash(4, p), a.Hash(-1)) {
		t.Error(Count(p), Hash(4, p))
	}
}

// The rule 'Ends': forks that were put in by hand upon each other.
func TestForksByHand(t *testing.T) {
	const high = 1 << 16
	a, _ := arena.New(4, 1<<18)
	one, _ := a.Leaf([]byte{0}, nil, 7)
	other, _ := a.Leaf([]byte{1}, nil, 9)
	top := one
	for range high {
		top, _ = a.Fork(0, nil, top, other)
	}
	p := Prove(a, top, 0, false, nil, math.MaxInt)
	if Count(p) != 2*high+1 || Check(4, p) != api.ErrProof || Hash(4, p) != nil {
		t.Error(Count(p))
	}
	b := Write(nil, p)
	if want := high*len("\x01\x03\x00\x00\x01\x09") + high*len("\x01\x01\x01\x01\x01\x00\x01\x09") + 8; len(b) != want {
		t.Error(len(b), want)
	}
	if _, _, errno := Read(4, b); errno != api.ErrFull {
		t.Error(errno)
	}
	// The page is full: what is behind it is closed.
	p = Prove(a, top, 0, false, nil, 1)
	if Count(p) != 2*high+1 {
		t.Error(Count(p))
	}
	if p = Prove(a, top, 9, false, nil, 1); said(p) != said(api.Part{Kind: 2, Newest: 9, Left: p.Left, Right: a.Hash(other)}) {
		t.Error(p)
	}
}

// the parts that the following tests change, with digests of 3 bytes.
const size = 3

func hash(x byte) []byte { return []byte{x, x, x} }

func leaf(id string, since int) api.Part {
	return api.Part{Kind: 1, ID: []byte(id), Key: []byte("k"), Since: since}
}

func closed(row string, newest int) api.Part {
	return api.Part{Kind: 2, Depth: len(row), Prefix: packed(row), Newest: newest, Left: hash(8), Right: hash(9)}
}

func open(row string, left, right api.Part) api.Part {
	newest := max(left.Since, left.Newest, right.Since, right.Newest)
	return api.Part{Kind: 3, Depth: len(row), Prefix: packed(row), Newest: newest, Kids: []api.Part{left, right}}
}

// letters is the first bits of the identities of one letter.
const letters = "00000001011"

// P18.1: numbers, texts and hashes.
func TestLimits(t *testing.T) {
	numbers := []int{math.MinInt, -1, 0, 1, 254, 255, 256, 1 << 16, math.MaxInt}
	for _, n := range numbers {
		may := n >= 0 && n <= 255
		judges(t, fmt.Sprint("since ", n), size, leaf("a", n), may)
		judges(t, fmt.Sprint("newest ", n), size, closed("01", n), may)
		p := open("", closed("0", 0), closed("1", 0))
		p.Newest = n
		judges(t, fmt.Sprint("newest of an open one ", n), size, p, n == 0)
		p.Kids[1].Newest = n
		judges(t, fmt.Sprint("newest of both ", n), size, p, may)
		p.Kids[1] = leaf(strings.Repeat("x", 200), n)
		judges(t, fmt.Sprint("newest of both ", n), size, p, may)
	}
	for n := range 6 {
		for _, lay := range []func(*api.Part){func(p *api.Part) { p.Left = make([]byte, n) }, func(p *api.Part) { p.Right = make([]byte, n) }} {
			p := closed("01", 5)
			lay(&p)
			judges(t, fmt.Sprint("a hash of ", n), size, p, n == size)
			judges(t, fmt.Sprint("a hash below of ", n), size, open("0", leaf("a", 1), p), n == size)
		}
	}
	for _, n := range []int{0, 24, 25, 254, 255, 256, 300} {
		judges(t, fmt.Sprint("an identity of ", n), size, leaf(strings.Repeat("x", n), 1), n <= 255)
	}
	for _, n := range []int{0, 47, 48, 49, 300} {
		p := leaf("a", 1)
		p.Key = make([]byte, n)
		judges(t, fmt.Sprint("a key of ", n), size, p, n <= 48)
		judges(t, fmt.Sprint("a key below of ", n), size, open(letters, p, closed(letters+"1", 1)), n <= 48)
	}
	for n := -1; n <= 34; n++ {
		h := make([]byte, max(n, 0))
		may := n >= 1 && n <= 32
		judges(t, fmt.Sprint("nothing of size ", n), n, api.Part{}, may)
		judges(t, fmt.Sprint("a leaf of size ", n), n, leaf("a", 1), may)
		judges(t, fmt.Sprint("a fork of size ", n), n, api.Part{Kind: 2, Left: h, Right: h}, may)
	}
	for _, n := range []int{math.MinInt, math.MaxInt} {
		judges(t, "a size", n, leaf("a", 1), false)
	}
}

// P18.1: depths and prefixes, of closed and of open forks.
func TestPrefixes(t *testing.T) {
	for _, c := range []struct {
		depth  int
		prefix []byte
		may    bool
	}{
		{0, nil, true}, {0, []byte{}, true}, {1, []byte{0x80}, true}, {1, []byte{0}, true}, {8, []byte{0xff}, true}, {9, []byte{0xff, 0x80}, true}, {2048, bytes.Repeat([]byte{0xa5}, 256), true},
		{2049, append(bytes.Repeat([]byte{0xa5}, 256), 0x80), false}, {2056, bytes.Repeat([]byte{0xa5}, 257), false}, {0, []byte{0}, false}, {1, nil, false}, {1, []byte{0x40}, false},
		{1, []byte{0x81}, false}, {8, []byte{0xff, 0}, false}, {9, []byte{0xff}, false}, {9, []byte{0xff, 0x40}, false}, {-1, nil, false}, {-1, []byte{0}, false}, {-8, nil, false},
		{math.MinInt, nil, false}, {math.MaxInt, nil, false}, {math.MaxInt, []byte{1}, false}, {math.MaxInt - 3, []byte{1}, false},
	} {
		p := api.Part{Kind: 2, Depth: c.depth, Prefix: c.prefix, Left: hash(1), Right: hash(2)}
		judges(t, fmt.Sprint("closed ", c.depth), size, p, c.may)
		if c.may && c.depth < 2048 {
			row := spelled(c.prefix)[:c.depth]
			judges(t, fmt.Sprint("open ", c.depth), size, open(row, closed(row+"0", 0), closed(row+"1", 0)), true)
			continue
		}
		row := spelled(c.prefix)
		p = open(row, closed(row+"0", 0), closed(row+"1", 0))
		p.Depth = c.depth
		judges(t, fmt.Sprint("open ", c.depth), size, p, false)
	}
}

// P18.1: what may stand in an open fork.
func TestKids(t *testing.T) {
	row := letters
	for _, c := range []struct {
		what        string
		left, right api.Part
		may         bool
	}{
		{"leaves", leaf("a", 1), leaf("p", 2), true},
		{"the left one newer", leaf("a", 2), leaf("p", 1), true},
		{"closed", closed(row+"0", 1), closed(row+"1", 2), true},
		{"closed, deeper", closed(row+"0111", 1), closed(row+"100", 2), true},
		{"open", open(row+"0", leaf("a", 2), leaf("h", 3)), open(row+"1", leaf("p", 0), leaf("x", 1)), true},
		{"turned", leaf("p", 1), leaf("a", 2), false},
		{"both left", leaf("a", 1), leaf("b", 2), false},
		{"both right", leaf("p", 1), leaf("q", 2), false},
		{"closed, turned", closed(row+"1", 1), closed(row+"0", 2), false},
		{"closed, both left", closed(row+"00", 1), closed(row+"01", 2), false},
		{"nothing left", api.Part{}, leaf("p", 2), false},
		{"nothing right", leaf("a", 1), api.Part{}, false},
		{"nothing", api.Part{}, api.Part{}, false},
		{"another beginning", leaf("A", 1), leaf("p", 2), false},
		{"another beginning on the right", leaf("a", 1), leaf("P", 2), false},
		{"a longer identity", leaf("ab", 1), leaf("p", 2), false},
		{"an identity that ends", leaf("", 1), leaf("p", 2), false},
		{"a fork of another beginning", closed("000000000", 1), leaf("p", 2), false},
		{"a fork of another beginning, deeper", closed("0000000101010", 1), leaf("p", 2), false},
		{"a fork as deep", closed(row, 1), leaf("p", 2), false},
		{"a fork less deep", closed(row[:9], 1), leaf("p", 2), false},
		{"a right fork as deep", leaf("a", 1), closed(row, 2), false},
		{"an open fork as deep", open(row, leaf("a", 1), leaf("p", 2)), leaf("q", 3), false},
		{"a part of no kind", leaf("a", 1), api.Part{Kind: 4, Depth: 12, Prefix: packed(row + "1"), Newest: 2, Left: hash(1), Right: hash(2)}, false},
		{"a part of a kind below 0", api.Part{Kind: -1}, leaf("p", 2), false},
	} {
		p := open(row, c.left, c.right)
		judges(t, c.what, size, p, c.may)
		for _, by := range []int{-1, 1} {
			p.Newest += by
			judges(t, c.what+", another newest", size, p, false)
			p.Newest -= by
		}
		above := open(row[:4], p, closed(row[:4]+"1", 250))
		judges(t, c.what+", below another one", size, above, c.may)
	}
	// A leaf whose bits end where the fork's prefix does.
	judges(t, "no next bit", size, open(bitsOf([]byte("a")), leaf("a", 1), leaf("a", 1)), false)
}

// P18.1: a part has just what its kind has, and is of one of four.
func TestKinds(t *testing.T) {
	own := []string{"", "an ID, a Key, a Since", "a Depth, a Prefix, a Newest, a Left, a Right", "a Depth, a Prefix, a Newest"}
	samples := []api.Part{{}, leaf("a", 1), closed("", 1), open("", closed("0", 1), closed("1", 1))}
	for kind, sample := range samples {
		judges(t, fmt.Sprint("kind ", kind), size, sample, true)
		for what, lay := range map[string]func(*api.Part){
			"an ID":       func(p *api.Part) { p.ID = []byte{1} },
			"a Key":       func(p *api.Part) { p.Key = []byte{1} },
			"a Since":     func(p *api.Part) { p.Since = 1 },
			"a low Since": func(p *api.Part) { p.Since = -1 },
			"a Depth":     func(p *api.Part) { p.Depth = 1 },
			"a low Depth": func(p *api.Part) { p.Depth = -1 },
			"a Prefix":    func(p *api.Part) { p.Prefix = []byte{0} },
			"a Newest":    func(p *api.Part) { p.Newest = 1 },
			"a Left":      func(p *api.Part) { p.Left = hash(1) },
			"a Right":     func(p *api.Part) { p.Right = hash(1) },
			"one kid":     func(p *api.Part) { p.Kids = []api.Part{closed("0", 1)} },
			"three kids":  func(p *api.Part) { p.Kids = []api.Part{closed("0", 1), closed("1", 1), closed("1", 1)} },
			"two kids":    func(p *api.Part) { p.Kids = []api.Part{closed("0", 1), closed("1", 1)} },
		} {
			if strings.Contains(own[kind], what) || kind == 3 && what == "two kids" {
				continue
			}
			p := sample
			lay(&p)
			judges(t, fmt.Sprint(what, " of kind ", kind), size, p, false)
			if kind > 0 && kind != 2 {
				continue
			}
			judges(t, fmt.Sprint(what, " of kind ", kind, " below"), size, api.Part{Kind: 3, Newest: 1, Kids: []api.Part{closed("0", 1), p}}, false)
		}
		if kind != 3 {
			p := sample
			p.Kids = []api.Part{}
			judges(t, "none and nil are the same", size, p, true)
		}
	}
	none := samples[3]
	none.Kids = nil
	judges(t, "no kids", size, none, false)
	for _, kind := range []int{math.MinInt, -1, 4, 256, math.MaxInt} {
		for _, p := range samples {
			p.Kind = kind
			judges(t, fmt.Sprint("kind ", kind), size, p, false)
		}
	}
}

// comb is a part of n open forks upon each other, and n + 1 leaves.
func comb(n int) api.Part {
	id := func(i int) string {
		b := make([]byte, 255)
		for j := range i {
			b[j/8] |= 0x80 >> (j % 8)
		}
		return string(b)
	}
	p := leaf(id(n), 1)
	for i := n - 1; i >= 0; i-- {
		p = open(bitsOf([]byte(id(n)))[:8+i], leaf(id(i), 1), p)
	}
	return p
}

// bush is the part of a tree of n leaves that is all open.
func bush(t *testing.T, n int) api.Part {
	a, _ := arena.New(size, 1<<18)
	root, errno := -1, api.OK
	for i := range n {
		if root, errno = ptree.Insert(a, root, []byte{byte(i >> 8), byte(i)}, nil, 1); errno != api.OK {
			t.Fatal(errno)
		}
	}
	return Prove(a, root, 0, false, nil, n)
}

// P18.1, P18.3: how many parts there may be.
func TestMaxParts(t *testing.T) {
	judges(t, "as deep as may be", size, comb(2040), true)
	for n, may := range map[int]bool{2047: true, 2048: true, 2049: false, 2100: false} {
		p := bush(t, n)
		if Count(p) != 2*n-1 {
			t.Error(Count(p))
		}
		judges(t, fmt.Sprint(n, " leaves"), size, p, may)
		q, rest, errno := Read(size, append(Write(nil, p), 7))
		if may && (errno != api.OK || said(q) != said(p) || !bytes.Equal(rest, []byte{7})) {
			t.Error(n, errno)
		}
		if !may && (errno != api.ErrFull || said(q) != said(api.Part{}) || len(rest) != 0) {
			t.Error(n, errno)
		}
	}
	// A part that stands in itself twice, over and over.
	p := leaf("a", 1)
	for range 60 {
		p = api.Part{Kind: 3, Newest: 1, Kids: []api.Part{p, p}}
	}
	if Check(size, p) != api.ErrProof || Hash(size, p) != nil || Text(size, p) != nil {
		t.Error("taken")
	}
	// Forks that may be, but for their number.
	full := api.Part{Kind: 3, Kids: make([]api.Part, 5000)}
	if Check(size, full) != api.ErrProof || Count(full) != 5001 {
		t.Error("taken")
	}
}

// P18.1: an open fork's kids count, as many as there are, and those of no other one.
func TestCount(t *testing.T) {
	two := []api.Part{leaf("a", 1), leaf("b", 1)}
	for _, c := range []struct {
		p    api.Part
		want int
	}{
		{api.Part{}, 1}, {leaf("a", 1), 1}, {closed("1", 1), 1}, {open("", two[0], two[1]), 3}, {open("", open("", two[0], two[1]), open("", two[0], api.Part{})), 7},
		{api.Part{Kind: 3}, 1}, {api.Part{Kind: 3, Kids: two[:1]}, 2}, {api.Part{Kind: 3, Kids: []api.Part{{}, {Kind: 3, Kids: two}, {}}}, 6},
		{api.Part{Kids: two}, 1}, {api.Part{Kind: 1, Kids: two}, 1}, {api.Part{Kind: 2, Kids: two}, 1}, {api.Part{Kind: 4, Kids: two}, 1}, {api.Part{Kind: -3, Kids: two}, 1},
	} {
		if got := Count(c.p); got != c.want {
			t.Errorf("%v: %d, not %d", c.p, got, c.want)
		}
	}
}

// P18.2: what is shown, and what is not.
func TestList(t *testing.T) {
	// c is closed: what stands below it is not to be seen.
	row := letters + "00"
	c := closed(row+"11", 6)                                     // f, g
	p := open(row, open(row+"0", leaf("a", 3), leaf("c", 1)), c) // a, c, [f, g]
	whole := open(letters, p, open(letters+"1", leaf("q", 9), leaf("x", 4)))
	for _, k := range []struct {
		from  int
		some  bool
		id    string
		limit int
		want  string
		more  bool
		errno api.Errno
	}{
		{9, false, "", 5, "", false, api.OK},
		{8, false, "", 5, "q", false, api.OK},
		{6, false, "", 5, "q", false, api.OK},
		{5, false, "", 5, "", false, api.ErrProof},
		{5, false, "", 1, "", false, api.ErrProof},
		{5, false, "", 0, "", true, api.OK},
		{5, false, "", -1, "", true, api.OK},
		{2, false, "", 1, "a", true, api.OK},
		{2, false, "", 2, "", false, api.ErrProof},
		{0, false, "", 2, "ac", true, api.OK},
		{0, false, "", 1, "a", true, api.OK},
		{0, false, "", 3, "", false, api.ErrProof},
		{-1, false, "", 2, "ac", true, api.OK},
		{0, true, "a", 1, "c", true, api.OK},
		{0, true, "a", 2, "", false, api.ErrProof},
		{0, true, "c", 1, "", false, api.ErrProof},
		{0, true, "f", 1, "", false, api.ErrProof}, // f's bits go into the closed one
		{0, true, "h", 1, "q", true, api.OK},
		{0, true, "h", 2, "qx", false, api.OK},
		{0, true, "h", 9, "qx", false, api.OK},
		{0, true, "q", 9, "x", false, api.OK},
		{0, true, "q", 0, "", true, api.OK},
		{0, true, "x", 0, "", false, api.OK},
		{0, true, "x", 1, "", false, api.OK},
		{4, true, "h", 1, "q", false, api.OK},
		{3, true, "", 1, "", false, api.ErrProof},
		{2, true, "", 1, "a", true, api.OK},
		{0, true, "zz", 9, "", false, api.OK},
		{0, false, "zz", 1, "a", true, api.OK}, // without some the identity does not count
		{math.MaxInt, false, "", math.MaxInt, "", false, api.OK},
		{math.MinInt, false, "", math.MinInt, "", true, api.OK},
	} {
		q := asked{k.from, k.some, []byte(k.id), k.limit}
		lists(t, "by hand", size, whole, q)
		l, more, errno := List(size, whole, k.from, k.some, []byte(k.id), k.limit)
		got := ""
		for _, x := range l {
			got += string(x.ID)
		}
		if got != k.want || more != k.more || errno != k.errno {
			t.Errorf("%v: %q, %v, %v", k, got, more, errno)
		}
	}
}

// shut is a part with one hash as p: some of its open forks are closed.
func shut(r *rand.Rand, size int, p api.Part) api.Part {
	if p.Kind != 3 {
		return p
	}
	if r.Intn(5) == 0 {
		left, right := cut(size, textOfPart(size, p.Kids[0])), cut(size, textOfPart(size, p.Kids[1]))
		return api.Part{Kind: 2, Depth: p.Depth, Prefix: p.Prefix, Newest: p.Newest, Left: left, Right: right}
	}
	p.Kids = []api.Part{shut(r, size, p.Kids[0]), shut(r, size, p.Kids[1])}
	return p
}

// P18.2, P18.5: whichever forks are closed, what is shown at all is the tree's page.
func TestOtherForksClosed(t *testing.T) {
	shown, hidden := 0, 0
	for seed := range int64(60) {
		r := rand.New(rand.NewSource(seed))
		g := plant(t, r, 8, r.Intn(30), 6)
		whole := asked{from: -1, limit: 1000}.prove(g)
		for range 60 {
			p, q := shut(r, 8, whole), g.drawnAsk(r, 6)
			judges(t, "shut", 8, p, true)
			if !bytes.Equal(Hash(8, p), g.a.Hash(g.root)) {
				t.Fatalf("%v has another hash", p)
			}
			if !lists(t, "shut", 8, p, q) {
				hidden++
				continue
			}
			shown++
			page, more := q.pageOf(g.items)
			l, further, _ := List(8, p, q.from, q.some, q.id, q.limit)
			if said(l) != said(page) || q.limit > 0 && further != more {
				t.Fatalf("%v: %v, %v, not %v, %v", q, l, further, page, more)
			}
		}
	}
	if shown < 500 || hidden < 500 {
		t.Error(shown, hidden)
	}
}

// unlike is the first two texts that are unlike, of two parts, as far as both are open.
func unlike(size int, p, q api.Part) ([]byte, []byte, bool) {
	one, two := Text(size, p), Text(size, q)
	if !bytes.Equal(one, two) {
		return one, two, true
	}
	if p.Kind != 3 || q.Kind != 3 {
		return nil, nil, false
	}
	for i := range 2 {
		if one, two, ok := unlike(size, p.Kids[i], q.Kids[i]); ok {
			return one, two, true
		}
	}
	return nil, nil, false
}

// P18.5: digests of one byte are met often: of two parts with one hash that show unlike pages two unlike texts have one hash.
func TestTwoPartsWithOneHash(t *testing.T) {
	r := rand.New(rand.NewSource(5))
	q := asked{from: 2, limit: 2}
	under := map[byte][]api.Part{}
	for range 1500 {
		g := plant(t, r, 1, r.Intn(6), 6)
		p := q.prove(g)
		h := Hash(1, p)[0]
		under[h] = append(under[h], p)
	}
	pairs := 0
	for _, list := range under {
		for i, p := range list {
			for _, other := range list[:i] {
				l, more, errno := List(1, p, q.from, q.some, q.id, q.limit)
				m, further, second := List(1, other, q.from, q.some, q.id, q.limit)
				if errno != api.OK || second != api.OK {
					t.Fatal(errno, second)
				}
				if said(l) == said(m) && more == further {
					continue
				}
				pairs++
				one, two, ok := unlike(1, p, other)
				if !ok || !bytes.Equal(cut(1, one), cut(1, two)) {
					t.Fatalf("%v, %v: %x, %x", p, other, one, two)
				}
			}
		}
	}
	if pairs < 500 {
		t.Error("few pairs:", pairs)
	}
}

// own is a part in memory of its own.
func own(p api.Part) api.Part {
	p.ID, p.Key, p.Prefix, p.Left, p.Right = bytes.Clone(p.ID), bytes.Clone(p.Key), bytes.Clone(p.Prefix), bytes.Clone(p.Left), bytes.Clone(p.Right)
	var kids []api.Part
	for _, kid := range p.Kids {
		kids = append(kids, own(kid))
	}
	p.Kids = kids
	return p
}

// changed is a part of which something is otherwise; perhaps it still may be.
func changed(r *rand.Rand, p api.Part) api.Part {
	p = own(p)
	at := &p
	for len(at.Kids) > 0 && r.Intn(3) > 0 {
		at = &at.Kids[r.Intn(len(at.Kids))]
	}
	flip := func(b []byte) []byte {
		if len(b) == 0 || r.Intn(6) == 0 {
			return append(b, byte(r.Intn(3)))
		}
		if r.Intn(6) == 0 {
			return b[:len(b)-1]
		}
		b[r.Intn(len(b))] ^= 1 << r.Intn(8)
		return b
	}
	turn := func(n int) int { return []int{n + 1, n - 1, -n, r.Intn(300) - 2, n + 8}[r.Intn(5)] }
	switch r.Intn(12) {
	case 0:
		at.Kind = r.Intn(5)
	case 1:
		at.ID = flip(at.ID)
	case 2, 3:
		at.Key = flip(at.Key)
	case 4:
		at.Since = turn(at.Since)
	case 5:
		at.Depth = turn(at.Depth)
	case 6:
		at.Prefix = flip(at.Prefix)
	case 7:
		at.Newest = turn(at.Newest)
	case 8:
		at.Left = flip(at.Left)
	case 9:
		at.Right = flip(at.Right)
	case 10:
		at.Kids = append(at.Kids, leaf("a", 1))
	case 11:
		if len(at.Kids) > 0 {
			at.Kids = at.Kids[:len(at.Kids)-1]
		}
	}
	return p
}

// P18.1, P18.2: parts of which something was changed are taken just if they may be, and show what stands in them.
func TestChangedParts(t *testing.T) {
	taken := 0
	for seed := range int64(60) {
		r := rand.New(rand.NewSource(seed))
		size := 1 + r.Intn(32)
		g := plant(t, r, size, r.Intn(20), 6)
		for range 60 {
			q := g.drawnAsk(r, 6)
			p := q.prove(g)
			for range 5 {
				c := changed(r, p)
				if r.Intn(3) == 0 {
					c = changed(r, c)
				}
				may := mayBe(size, c)
				judges(t, "changed", size, c, may)
				if !may {
					continue
				}
				taken++
				lists(t, "changed", size, c, q)
				lists(t, "changed", size, c, g.drawnAsk(r, 6))
				if size > 8 && bytes.Equal(Hash(size, c), g.a.Hash(g.root)) != (said(c) == said(p)) {
					t.Fatalf("%v, %v", c, p)
				}
			}
		}
	}
	if taken < 1000 {
		t.Error("few that may be:", taken)
	}
}

// coded is a number's bytes, spelled out.
func coded(n int) []byte {
	b := bytes.TrimLeft(number(max(n, 0)), "\x00")
	return append([]byte{byte(len(b))}, b...)
}

// written is a part's bytes, spelled out.
func written(p api.Part) []byte {
	b := coded(p.Kind)
	text := func(s []byte) { b = append(append(b, coded(len(s))...), s...) }
	switch {
	case p.Kind == 1:
		text(p.ID)
		text(p.Key)
		b = append(b, coded(p.Since)...)
	case p.Kind == 2, p.Kind == 3 && len(p.Kids) == 2:
		b = append(b, coded(p.Depth)...)
		text(p.Prefix)
		b = append(b, coded(p.Newest)...)
		if p.Kind == 2 {
			b = append(append(b, p.Left...), p.Right...)
		} else {
			b = append(append(b, written(p.Kids[0])...), written(p.Kids[1])...)
		}
	}
	return b
}

// P18.3: the bytes.
func TestWrite(t *testing.T) {
	two := []api.Part{leaf("a", 0), {}}
	for _, c := range []struct {
		p    api.Part
		want []byte
	}{
		{api.Part{}, []byte{0}},
		{leaf("ab", 5), []byte{1, 1, 1, 2, 'a', 'b', 1, 1, 'k', 1, 5}},
		{closed("1", 0), []byte{1, 2, 1, 1, 1, 1, 0x80, 0, 8, 8, 8, 9, 9, 9}},
		{open("01", leaf("", 1), closed("", 258)), []byte{1, 3, 1, 2, 1, 1, 0x40, 2, 1, 2, 1, 1, 0, 1, 1, 'k', 1, 1, 1, 2, 0, 0, 2, 1, 2, 8, 8, 8, 9, 9, 9}},
		// What can't be is written as it is; an open fork that has not two kids is its kind alone, wherever it stands.
		{api.Part{Kind: 3, Depth: 5, Newest: 7}, []byte{1, 3}},
		{api.Part{Kind: 3, Depth: 5, Kids: two[:1]}, []byte{1, 3}},
		{api.Part{Kind: 3, Depth: 5, Kids: append(two, two...), Left: hash(1)}, []byte{1, 3}},
		{api.Part{Kind: 3, Depth: -5, Kids: two, Left: hash(1)}, []byte{1, 3, 0, 0, 0, 1, 1, 1, 1, 'a', 1, 1, 'k', 0, 0}},
		{api.Part{Kind: 3, Kids: []api.Part{{Kind: 3, Depth: 9, Kids: two[:1]}, {Kind: 7, ID: hash(1)}}}, []byte{1, 3, 0, 0, 0, 1, 3, 1, 7}},
		{api.Part{Kind: -1, ID: hash(1), Kids: two}, []byte{0}},
		{api.Part{Kind: 300, ID: hash(1), Kids: two}, []byte{2, 1, 44}},
		{api.Part{Kind: 1, Since: -9, Depth: 4, Kids: two}, []byte{1, 1, 0, 0, 0}},
		{api.Part{Kind: 2, ID: hash(1), Left: []byte{1}, Right: []byte{2, 3}, Kids: two}, []byte{1, 2, 0, 0, 0, 1, 2, 3}},
	} {
		for _, b := range [][]byte{nil, {}, {9}, []byte("ahead")} {
			if got := Write(b, c.p); !bytes.Equal(got, append(bytes.Clone(b), c.want...)) {
				t.Errorf("%v: %v, not %v", c.p, got, c.want)
			}
		}
	}
}

// reads holds Read against a part, or an error, and what is left.
func reads(t *testing.T, what string, size int, b []byte, want api.Part, left []byte, errno api.Errno) {
	t.Helper()
	p, rest, e := Read(size, b)
	if e != errno || said(p) != said(want) || !bytes.Equal(rest, left) {
		t.Fatalf("%s: Read(%d, %v): %v, %v, %v, not %v, %v, %v", what, size, b, p, rest, e, want, left, errno)
	}
}

// refused: such bytes are no part.
func refused(t *testing.T, what string, size int, b []byte, errno api.Errno) {
	t.Helper()
	reads(t, what, size, b, api.Part{}, nil, errno)
}

// P18.3: what was written is read, whatever is left behind it; each beginning is too short.
func TestReadOfWrite(t *testing.T) {
	for seed := range int64(32) {
		r := rand.New(rand.NewSource(seed))
		size := 1 + int(seed)
		g := plant(t, r, size, r.Intn(30), 6)
		for i := range 40 {
			p := g.drawnAsk(r, 6).prove(g)
			b := Write(nil, p)
			if !bytes.Equal(b, written(p)) {
				t.Fatalf("%v: %v, not %v", p, b, written(p))
			}
			for _, left := range [][]byte{nil, {0}, {9, 9}, bytes.Repeat([]byte{7}, 1000)} {
				reads(t, "written", size, append(bytes.Clone(b), left...), p, left, api.OK)
			}
			if i%10 == 0 {
				for n := range b {
					refused(t, "a beginning", size, b[:n], api.ErrShort)
				}
			}
		}
	}
}

// P18.3: parts that may not be are read too.
func TestReadTakesMore(t *testing.T) {
	long := bytes.Repeat([]byte{1}, 300)
	most := api.Part{Kind: 1, ID: long, Key: long, Since: 1 << 16}
	fork := api.Part{Kind: 2, Depth: 1 << 16, Prefix: long, Newest: 1 << 16, Left: hash(1), Right: hash(2)}
	wide := api.Part{Kind: 3, Depth: 1 << 16, Prefix: long, Newest: 1 << 16, Kids: []api.Part{most, fork}}
	for _, p := range []api.Part{most, fork, wide, {Kind: 3, Kids: []api.Part{{}, wide}}, {Kind: 3, Kids: []api.Part{wide, {}}}} {
		reads(t, "the greatest", size, append(written(p), 5), p, []byte{5}, api.OK)
	}
}

// P18.3: the errors, the first one first.
func TestReadErrors(t *testing.T) {
	over := []byte{3, 1, 0, 1} // 2^16 + 1
	longText := append([]byte{2, 1, 45}, make([]byte, 301)...)
	join := func(list ...[]byte) []byte { return bytes.Join(list, nil) }
	fork := []byte{1, 3, 0, 0, 0}
	for _, c := range []struct {
		what  string
		b     []byte
		errno api.Errno
	}{
		{"nothing", nil, api.ErrShort},
		{"kind 4", append([]byte{1, 4}, make([]byte, 20)...), api.ErrForm},
		{"kind 4, nothing behind", []byte{1, 4}, api.ErrForm},
		{"kind 2^16", []byte{3, 1, 0, 0}, api.ErrForm},
		{"kind above 2^16", []byte{3, 1, 0, 1}, api.ErrFull},
		{"a kind of no form", []byte{1, 0}, api.ErrForm},
		{"a kind of nine bytes", []byte{9}, api.ErrForm},
		{"an ID too long", join([]byte{1, 1}, longText, []byte{0, 0}), api.ErrFull},
		{"a Key too long", join([]byte{1, 1, 0}, longText, []byte{0}), api.ErrFull},
		{"an ID that is not whole", []byte{1, 1, 1, 3, 1, 2}, api.ErrShort},
		{"a Key that is not whole", []byte{1, 1, 0, 1, 3, 1, 2}, api.ErrShort},
		{"a since", join([]byte{1, 1, 0, 0}, over), api.ErrFull},
		{"a since of no form", []byte{1, 1, 0, 0, 1, 0}, api.ErrForm},
		{"a depth", join([]byte{1, 2}, over, make([]byte, 8)), api.ErrFull},
		{"a prefix too long", join([]byte{1, 2, 0}, longText, make([]byte, 7)), api.ErrFull},
		{"a newest", join([]byte{1, 2, 0, 0}, over, make([]byte, 6)), api.ErrFull},
		{"a left one that is not whole", []byte{1, 2, 0, 0, 0, 1, 1}, api.ErrShort},
		{"a right one that is not whole", []byte{1, 2, 0, 0, 0, 1, 1, 1, 2, 2}, api.ErrShort},
		{"an open one's depth", join([]byte{1, 3}, over, make([]byte, 8)), api.ErrFull},
		{"an open one's prefix", join([]byte{1, 3, 0}, longText, make([]byte, 7)), api.ErrFull},
		{"an open one's newest", join([]byte{1, 3, 0, 0}, over, make([]byte, 6)), api.ErrFull},
		{"an open one's newest of no form", join([]byte{1, 3, 0, 0, 1, 0}, make([]byte, 6)), api.ErrForm},
		{"no kids", fork, api.ErrShort},
		{"one kid", join(fork, []byte{0}), api.ErrShort},
		{"a left kid of no kind", join(fork, []byte{1, 4, 0}), api.ErrForm},
		{"a right kid of no kind", join(fork, []byte{0, 1, 4}), api.ErrForm},
		{"the first error", join(fork, []byte{1, 4}, over), api.ErrForm},
		{"4095 open ones that end", bytes.Repeat(fork, 4095), api.ErrShort},
		{"4097 open ones", bytes.Repeat(fork, 4097), api.ErrFull},
		{"many open ones", bytes.Repeat(fork, 50000), api.ErrFull},
		{"4097 parts", join(bytes.Repeat(fork, 2048), make([]byte, 2049)), api.ErrFull},
	} {
		refused(t, c.what, size, c.b, c.errno)
	}
	if _, rest, errno := Read(size, join(bytes.Repeat(fork, 2047), make([]byte, 2049))); errno != api.OK || len(rest) != 1 {
		t.Error(errno, rest)
	}
	for _, n := range []int{math.MinInt, -1, 0, 33, math.MaxInt} {
		for _, b := range [][]byte{nil, {0}, {9}, {1, 4}, written(leaf("ab", 3))} {
			refused(t, "a size", n, b, api.ErrForm)
		}
	}
}

// P18.3: of all bytes whatever Read ends, and what it reads are those that Write writes.
func TestReadOfWhatever(t *testing.T) {
	taken := 0
	for seed := range int64(300) {
		r := rand.New(rand.NewSource(seed))
		g := plant(t, r, 1, r.Intn(8), 6)
		for range 100 {
			b := written(changed(r, g.drawnAsk(r, 6).prove(g)))
			for range r.Intn(3) {
				b[r.Intn(len(b))] = byte(r.Intn(6))
			}
			p, rest, errno := Read(1, b)
			if errno != api.OK {
				refused(t, "whatever", 1, b, errno)
				continue
			}
			taken++
			if got := append(Write(nil, p), rest...); !bytes.Equal(got, b) {
				t.Fatalf("%v: %v, %v", b, p, rest)
			}
		}
	}
	if taken < 1000 {
		t.Error("few were read:", taken)
	}
}

// scribble writes over bytes, and over the room behind them.
func scribble(b []byte) {
	b = b[:cap(b)]
	for i := range b {
		b[i] ^= 0xa5
	}
}

// rows is all lists of bytes of a part.
func rows(p api.Part) [][]byte {
	var out [][]byte
	for _, x := range flat(p) {
		out = append(out, x.ID, x.Key, x.Prefix, x.Left, x.Right)
	}
	return out
}

// apart: writing over one list, and the room behind it, changes no other one.
func apart(t *testing.T, list [][]byte) {
	t.Helper()
	for i, b := range list {
		var was [][]byte
		for _, other := range list {
			was = append(was, bytes.Clone(other))
		}
		scribble(b)
		was[i] = b
		if said(list) != said(was) {
			t.Fatal("two lists of one answer share memory")
		}
		scribble(b)
	}
}

// broken writes over all kids of a part, and the room behind them.
func broken(p api.Part) {
	for i := range p.Kids {
		broken(p.Kids[i])
	}
	kids := p.Kids[:cap(p.Kids)]
	for i := range kids {
		kids[i] = api.Part{Kind: 9}
	}
}

// The rule 'Memory': answers are their own, and nothing that was handed in is changed or kept.
func TestMemory(t *testing.T) {
	r := rand.New(rand.NewSource(4))
	g := plant(t, r, size, 20, 6)
	for range 40 {
		q := g.drawnAsk(r, 6)
		ahead := 0
		want := said(q.partOf(g.top, &ahead))
		first := q.prove(g)
		apart(t, rows(first))
		for _, b := range rows(first) {
			scribble(b)
		}
		broken(first)
		whole := append(bytes.Clone(q.id), "behind"...)
		p := Prove(g.a, g.root, q.from, q.some, whole[:len(q.id)], q.limit)
		l, _, _ := List(size, p, q.from, q.some, whole[:len(q.id)], q.limit)
		b := make([]byte, 3, 9000)
		long := b[:9000]
		w := Write(b, p)
		if said(p) != want || !bytes.Equal(whole, append(bytes.Clone(q.id), "behind"...)) || !bytes.Equal(long, make([]byte, 9000)) {
			t.Fatal("an argument is changed")
		}
		scribble(w)
		scribble(Text(size, p))
		scribble(Hash(size, p))
		var items [][]byte
		for _, x := range l {
			items = append(items, x.ID, x.Key)
		}
		apart(t, items)
		for _, b := range items {
			scribble(b)
		}
		if said(p) != want || !bytes.Equal(long, make([]byte, 9000)) {
			t.Fatal("an answer shares memory")
		}
		in := append(written(p), 1, 2, 3)
		again, rest, _ := Read(size, in)
		scribble(in)
		if said(again) != want || !bytes.Equal(rest, []byte{1, 2, 3}) {
			t.Fatal("what was handed in is kept")
		}
		apart(t, append(rows(again), rest))
	}
	empty := make([]byte, 0, 100)
	scribble(Write(empty, leaf("ab", 5)))
	if !bytes.Equal(empty[:100], make([]byte, 100)) {
		t.Fatal("the room behind a list's end is written to")
	}
}
