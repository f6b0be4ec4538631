package ptree

import (
	"bytes"
	"crypto/sha256"
	"encoding/binary"
	"fmt"
	"math"
	"math/rand"
	"reflect"
	"slices"
	"sort"
	"testing"

	"annals/api"
	"annals/arena"
)

// fresh is an empty arena.
func fresh(t *testing.T, size, room int) *arena.Arena {
	t.Helper()
	a, errno := arena.New(size, room)
	if errno != api.OK {
		t.Fatal(errno)
	}
	return a
}

// put is the root of a tree with an identity's key.
func put(t *testing.T, a *arena.Arena, root int, id, key string, since int) int {
	t.Helper()
	top, errno := Insert(a, root, []byte(id), []byte(key), since)
	if errno != api.OK {
		t.Fatalf("Insert(%d, %q): %v", root, id, errno)
	}
	return top
}

// refused has Insert tell an error, and leave the arena as it was.
func refused(t *testing.T, what string, a *arena.Arena, root int, id, key []byte, since int, errno api.Errno) {
	t.Helper()
	was := nodes(a)
	got, e := Insert(a, root, id, key, since)
	if got != 0 || e != errno {
		t.Fatalf("%s: %d, %v, not %v", what, got, e, errno)
	}
	if !reflect.DeepEqual(nodes(a), was) {
		t.Fatalf("%s: the arena is changed", what)
	}
}

// nodes is all that stands in an arena, by its places.
func nodes(a *arena.Arena) map[int]string {
	out := map[int]string{}
	for i := 0; len(out) < a.Used(); i++ {
		if n, ok := a.Node(i); ok {
			out[i] = fmt.Sprint(n)
		}
	}
	return out
}

// said is an item as a text, to hold it against others.
func said(x api.Item) string { return fmt.Sprintf("%q=%q@%d", x.ID, x.Key, x.Since) }

func allSaid(l []api.Item) []string {
	var out []string
	for _, x := range l {
		out = append(out, said(x))
	}
	return out
}

// bitsOf is an identity's bits as a text of 0 and 1.
func bitsOf(id string) string {
	out := fmt.Sprintf("%08b", len(id))
	for _, b := range []byte(id) {
		out += fmt.Sprintf("%08b", b)
	}
	return out
}

// packed is a text of 0 and 1 as bytes.
func packed(row string) []byte {
	out := make([]byte, (len(row)+7)/8)
	for i, c := range row {
		if c == '1' {
			out[i/8] |= 0x80 >> (i % 8)
		}
	}
	return out
}

// byHand is the hash of a text, reckoned without the program's own layers.
func byHand(size int, tag byte, parts ...[]byte) []byte {
	text := []byte{tag}
	for _, p := range parts {
		text = binary.BigEndian.AppendUint16(text, uint16(len(p)))
		text = append(text, p...)
	}
	sum := sha256.Sum256(text)
	return sum[:size]
}

func number(n int) []byte { return binary.BigEndian.AppendUint64(nil, uint64(n)) }

// model is what a tree has, by identity: all else is reckoned from that, as the document tells it.
type model map[string]api.Item

func (m model) with(id, key string, since int) model {
	out := model{id: {ID: []byte(id), Key: []byte(key), Since: since}}
	for k, x := range m {
		if k != id {
			out[k] = x
		}
	}
	return out
}

// ids is the identities, in the order of their bits.
func (m model) ids() []string {
	var out []string
	for id := range m {
		out = append(out, id)
	}
	sort.Slice(out, func(i, j int) bool { return bitsOf(out[i]) < bitsOf(out[j]) })
	return out
}

func (m model) items() []string {
	var out []string
	for _, id := range m.ids() {
		out = append(out, said(m[id]))
	}
	return out
}

// parting is how many first bits all of some identities, two at least, have in common, and how many of them go left there.
func parting(ids []string) (int, int) {
	first, last := bitsOf(ids[0]), bitsOf(ids[len(ids)-1])
	depth := 0
	for first[depth] == last[depth] {
		depth++
	}
	left := 0
	for bitsOf(ids[left])[depth] == '0' {
		left++
	}
	return depth, left
}

// hash is the hash of a tree of some identities, and its newest.
func (m model) hash(size int, ids []string) ([]byte, int) {
	if len(ids) == 0 {
		return byHand(size, 0), 0
	}
	if len(ids) == 1 {
		x := m[ids[0]]
		return byHand(size, 1, x.ID, x.Key, number(x.Since)), x.Since
	}
	depth, left := parting(ids)
	l, newestLeft := m.hash(size, ids[:left])
	r, newestRight := m.hash(size, ids[left:])
	newest := max(newestLeft, newestRight)
	return byHand(size, 2, number(depth), packed(bitsOf(ids[0])[:depth]), number(newest), l, r), newest
}

// above is how many forks stand above each identity.
func above(ids []string, forks int, out map[string]int) map[string]int {
	if len(ids) == 1 {
		out[ids[0]] = forks
	}
	if len(ids) > 1 {
		_, left := parting(ids)
		above(ids[:left], forks+1, out)
		above(ids[left:], forks+1, out)
	}
	return out
}

// deep is the greatest number of forks above a leaf.
func (m model) deep() int {
	out := 0
	for _, n := range above(m.ids(), 0, map[string]int{}) {
		out = max(out, n)
	}
	return out
}

// needs is how many nodes an identity puts in: all of its way in the tree that has it.
func (m model) needs(id string) int {
	return 1 + above(m.with(id, "", 0).ids(), 0, map[string]int{})[id]
}

// holds has a tree be that of the model, of identities that it may have and of ones that it has not.
func holds(t *testing.T, what string, a *arena.Arena, root int, m model, others []string) {
	t.Helper()
	if got := allSaid(Items(a, root)); !slices.Equal(got, m.items()) {
		t.Fatalf("%s: items %v, not %v", what, got, m.items())
	}
	if hash, _ := m.hash(a.Size(), m.ids()); !bytes.Equal(a.Hash(root), hash) {
		t.Fatalf("%s: hash %x, not %x", what, a.Hash(root), hash)
	}
	if got := Deep(a, root); got != m.deep() {
		t.Fatalf("%s: deep %d, not %d", what, got, m.deep())
	}
	for _, id := range append(m.ids(), others...) {
		x, there := m[id]
		got, ok := Get(a, root, []byte(id))
		if ok != there || said(got) != said(x) {
			t.Fatalf("%s: Get(%q): %s, %v, not %s, %v", what, id, said(got), ok, said(x), there)
		}
		if n := Needs(a, root, []byte(id)); n != m.needs(id) {
			t.Fatalf("%s: Needs(%q): %d, not %d", what, id, n, m.needs(id))
		}
	}
}

// P10.1, P10.2, example 1
func TestFirst(t *testing.T) {
	a := fresh(t, 16, 10)
	holds(t, "nothing", a, -1, model{}, []string{"", "a"})
	root := put(t, a, -1, "a", "key", 5)
	if n, ok := a.Node(root); !ok || !n.Leaf || root != 0 || a.Used() != 1 {
		t.Fatal(root, n, ok)
	}
	holds(t, "a leaf", a, root, model{}.with("a", "key", 5), []string{"", "b", "aa"})
	if Deep(a, root) != 0 || Deep(a, -1) != 0 {
		t.Fatal(Deep(a, root), Deep(a, -1))
	}
}

// P10.1: which nodes are put in, and in which order.
func TestWhichNodes(t *testing.T) {
	a := fresh(t, 16, 30)
	// The bits: "a" 00000001 01100001, "c" 00000001 01100011, "b" 00000001 01100010, "q" 00000001 01110001.
	want := func(root, place int, more ...api.Node) {
		t.Helper()
		if root != place+len(more)-1 || a.Used() != root+1 {
			t.Fatalf("root %d, %d nodes", root, a.Used())
		}
		for i, n := range more {
			got, _ := a.Node(place + i)
			got.Hash = nil
			if fmt.Sprint(got) != fmt.Sprint(n) {
				t.Fatalf("node %d: %v, not %v", place+i, got, n)
			}
		}
	}
	leaf := func(id, key string, since int) api.Node {
		return api.Node{Leaf: true, ID: []byte(id), Key: []byte(key), Since: since, Newest: since}
	}
	fork := func(depth int, prefix []byte, newest, left, right int) api.Node {
		return api.Node{Depth: depth, Prefix: prefix, Newest: newest, Left: left, Right: right}
	}
	want(put(t, a, -1, "a", "1", 1), 0, leaf("a", "1", 1))
	want(put(t, a, 0, "c", "2", 2), 1, leaf("c", "2", 2), fork(14, []byte{1, 0x60}, 2, 0, 1))
	want(put(t, a, 2, "b", "3", 0), 3, leaf("b", "3", 0), fork(15, []byte{1, 0x62}, 2, 3, 1), fork(14, []byte{1, 0x60}, 2, 0, 4))
	want(put(t, a, 5, "q", "4", 4), 6, leaf("q", "4", 4), fork(11, []byte{1, 0x60}, 4, 5, 6))
	want(put(t, a, 7, "", "5", 3), 8, leaf("", "5", 3), fork(7, []byte{0}, 4, 8, 7))
	// One that is there: its leaf, and the forks above it anew, from below.
	want(put(t, a, 9, "b", "6", 9), 10, leaf("b", "6", 9), fork(15, []byte{1, 0x62}, 9, 10, 1),
		fork(14, []byte{1, 0x60}, 9, 0, 11), fork(11, []byte{1, 0x60}, 9, 12, 6), fork(7, []byte{0}, 9, 8, 13))
	// Even if nothing else is so; the newest falls with it.
	want(put(t, a, 14, "b", "6", 9), 15, leaf("b", "6", 9), fork(15, []byte{1, 0x62}, 9, 15, 1),
		fork(14, []byte{1, 0x60}, 9, 0, 16), fork(11, []byte{1, 0x60}, 9, 17, 6), fork(7, []byte{0}, 9, 8, 18))
	want(put(t, a, 19, "b", "7", 1), 20, leaf("b", "7", 1), fork(15, []byte{1, 0x62}, 2, 20, 1),
		fork(14, []byte{1, 0x60}, 2, 0, 21), fork(11, []byte{1, 0x60}, 4, 22, 6), fork(7, []byte{0}, 4, 8, 23))
}

// P10.1: of several errors the first one, and nothing has changed.
func TestInsertErrors(t *testing.T) {
	a := fresh(t, 8, 6)
	root := put(t, a, put(t, a, -1, "a", "1", 1), "b", "2", 2)
	gone := put(t, a, -1, "x", "3", 3)
	a.Sweep([]int{root})
	id, key := []byte("a"), []byte("k")
	longID, longKey := make([]byte, 256), make([]byte, 65536)
	wrong := func(what string, roots ...int) {
		t.Helper()
		for _, r := range append(roots, -2, math.MinInt, math.MaxInt, 6, 1<<32) {
			refused(t, what+", a root of nothing", a, r, id, key, 1, api.ErrArg)
			refused(t, what+", all is wrong", a, r, longID, longKey, -1, api.ErrArg)
		}
		for _, r := range []int{-1, 0, root} {
			refused(t, what+", a long identity", a, r, longID, key, 1, api.ErrArg)
			refused(t, what+", a long key", a, r, id, longKey, 1, api.ErrArg)
			refused(t, what+", an epoch below 0", a, r, id, key, -1, api.ErrArg)
			refused(t, what+", an epoch far below 0", a, r, id, key, math.MinInt, api.ErrArg)
		}
	}
	wrong("with room", gone, 4, 5)
	put(t, a, -1, "x", "", 0)
	put(t, a, -1, "x", "", 0)
	put(t, a, -1, "x", "", 0)
	wrong("without room")
	for _, r := range []int{-1, 0, root} {
		refused(t, "without room", a, r, id, key, 1, api.ErrFull)
	}
}

// P10.1: the longest that may be.
func TestLongest(t *testing.T) {
	a := fresh(t, 8, 4000)
	m, root := model{}, -1
	long := string(bytes.Repeat([]byte{0xff}, 254))
	key := string(bytes.Repeat([]byte{3}, 65535))
	for i, id := range []string{long + "\xff", long + "\xfe", long, "", long + "\x00"} {
		root, m = put(t, a, root, id, key, i), m.with(id, key, i)
	}
	root, m = put(t, a, root, "new", "", math.MaxInt), m.with("new", "", math.MaxInt)
	holds(t, "long ones", a, root, m, []string{long + "\x01", long[1:]})

	// One that is too long for any tree is in none, whatever it begins with.
	if x, ok := Get(a, root, []byte(long+"\xff\xff")); ok || !reflect.DeepEqual(x, api.Item{}) {
		t.Fatal(said(x))
	}
}

// The deepest tree: an identity that parts from the others at each of its bits.
func TestDeepest(t *testing.T) {
	a := fresh(t, 4, 1<<13)
	id := bytes.Repeat([]byte{0xaa}, 255)
	root := put(t, a, -1, string(id), "", 0)
	// The others of 255 bytes have one bit turned each, the last ones first: so each is put in at the root.
	for i := 255*8 - 1; i >= 0; i-- {
		other := bytes.Clone(id)
		other[i/8] ^= 0x80 >> (i % 8)
		root = put(t, a, root, string(other), "", i)
	}
	// Those of other lengths part in the first byte.
	for _, n := range []int{254, 252, 248, 240, 224, 192, 128, 0} {
		root = put(t, a, root, string(id[:n]), "", n)
	}
	if Deep(a, root) != 2048 || Needs(a, root, id) != 2049 || len(Items(a, root)) != 2049 {
		t.Fatal(Deep(a, root), Needs(a, root, id), len(Items(a, root)))
	}
	a.Sweep([]int{root})
	was := a.Used()
	if root = put(t, a, root, string(id), "k", 9); a.Used()-was != 2049 {
		t.Fatal(a.Used() - was)
	}
	if x, ok := Get(a, root, id); !ok || string(x.Key) != "k" || x.Since != 9 || Deep(a, root) != 2048 {
		t.Fatal(said(x), ok)
	}
}

// P10.1: there is room for Needs, or there is not.
func TestJustRoom(t *testing.T) {
	ids := []string{"b", "", "a", "ab", "b", "zz", "q", "r", "", "ab"}
	for i, id := range ids {
		used := 0
		for spare := -1; spare <= 1; spare++ {
			// The first ones are put in with room, then as many leaves as leave just so much.
			a := fresh(t, 8, 100)
			root, m := -1, model{}
			for j, other := range ids[:i] {
				root, m = put(t, a, root, other, "k", j), m.with(other, "k", j)
			}
			needs := m.needs(id)
			for a.Room() > needs+spare {
				a.Leaf(nil, nil, 0)
			}
			if used = a.Used(); spare < 0 {
				refused(t, "one too few", a, root, []byte(id), nil, 1, api.ErrFull)
				holds(t, "one too few", a, root, m, ids)
				continue
			}
			root, m = put(t, a, root, id, "new", i), m.with(id, "new", i)
			if a.Used()-used != needs || a.Room() != spare {
				t.Fatal(a.Used()-used, needs)
			}
			holds(t, "just room", a, root, m, ids)
		}
	}
}

// P10.2: of roots of nothing.
func TestNoRoot(t *testing.T) {
	a := fresh(t, 8, 6)
	root := put(t, a, put(t, a, -1, "a", "1", 1), "b", "2", 2)
	gone := put(t, a, -1, "a", "3", 3)
	a.Sweep([]int{root})
	for _, r := range []int{gone, 4, 5, 6, 7, -2, math.MinInt, math.MaxInt} {
		if x, ok := Get(a, r, []byte("a")); ok || !reflect.DeepEqual(x, api.Item{}) {
			t.Errorf("root %d: %s, %v", r, said(x), ok)
		}
		if Needs(a, r, []byte("a")) != 0 || len(Items(a, r)) != 0 || Deep(a, r) != 0 {
			t.Errorf("root %d: %d, %v, %d", r, Needs(a, r, []byte("a")), Items(a, r), Deep(a, r))
		}
	}
}

// The rule 'Objects': of an arena that no call made.
func TestNoCallMadeIt(t *testing.T) {
	for _, a := range []*arena.Arena{nil, {}} {
		for _, root := range []int{-1, 0, 1, -2, math.MaxInt} {
			for _, since := range []int{1, -1} {
				if got, errno := Insert(a, root, []byte("a"), nil, since); got != 0 || errno != api.ErrNil {
					t.Errorf("Insert: %d, %v", got, errno)
				}
			}
			if got, errno := Insert(a, root, make([]byte, 256), make([]byte, 65536), -1); got != 0 || errno != api.ErrNil {
				t.Errorf("Insert: %d, %v", got, errno)
			}
			if x, ok := Get(a, root, nil); ok || !reflect.DeepEqual(x, api.Item{}) {
				t.Errorf("Get: %s, %v", said(x), ok)
			}
			if Needs(a, root, nil) != 0 || len(Items(a, root)) != 0 || Deep(a, root) != 0 {
				t.Errorf("%d, %v, %d", Needs(a, root, nil), Items(a, root), Deep(a, root))
			}
		}
	}
}

// P10.3: all orders in which some identities may come.
func TestAnyOrder(t *testing.T) {
	ids := []string{"", "a", "b", "aa", "\x00", "\xff\xff"}
	whole := model{}
	for i, id := range ids {
		whole = whole.with(id, "k"+id, i)
	}
	var orders func(done, left []int)
	orders = func(done, left []int) {
		if len(left) == 0 {
			a := fresh(t, 16, 60)
			root := -1
			for _, i := range done {
				root = put(t, a, root, ids[i], "k"+ids[i], i)
			}
			holds(t, fmt.Sprint(done), a, root, whole, []string{"c", "ab"})
			return
		}
		for k, i := range left {
			orders(append(slices.Clone(done), i), slices.Delete(slices.Clone(left), k, k+1))
		}
	}
	orders(nil, []int{0, 1, 2, 3, 4, 5})
}

// version is a tree, and what it has.
type version struct {
	root int
	m    model
}

// P10.1 to P10.4: versions upon versions, each from any of those ahead; all stay as they were.
func TestVersions(t *testing.T) {
	for seed := range int64(12) {
		r := rand.New(rand.NewSource(seed))
		a := fresh(t, 1+r.Intn(32), 1<<14)
		var ids []string
		for range 14 {
			id := make([]byte, r.Intn(4))
			for i := range id {
				id[i] = []byte{0, 1, 2, 0x80, 0xff}[r.Intn(5)]
			}
			ids = append(ids, string(id))
		}
		all := []version{{-1, model{}}}
		for i := range 60 {
			v := all[max(0, len(all)-1-r.Intn(3))]
			id, key, since := ids[r.Intn(len(ids))], fmt.Sprint("key", r.Intn(9)), r.Intn(20)
			was, needs := a.Used(), v.m.needs(id)
			root := put(t, a, v.root, id, key, since)
			if a.Used()-was != needs {
				t.Fatalf("%q put %d in, not %d", id, a.Used()-was, needs)
			}
			all = append(all, version{root, v.m.with(id, key, since)})
			if i%9 == 8 {
				all = kept(a, r, all)
			}
		}
		for i, v := range all {
			holds(t, fmt.Sprint("version ", i), a, v.root, v.m, ids)
		}
	}
}

// kept is some of the versions; the arena has no others any more.
func kept(a *arena.Arena, r *rand.Rand, all []version) []version {
	out := []version{all[0]}
	var roots []int
	for _, v := range all[1:] {
		if r.Intn(3) > 0 {
			out, roots = append(out, v), append(roots, v.root)
		}
	}
	a.Sweep(roots)
	return out
}

// P10.4: not one node that stood there is changed.
func TestNodesStay(t *testing.T) {
	a := fresh(t, 8, 500)
	root := -1
	for i := range 60 {
		was := nodes(a)
		root = put(t, a, root, string([]byte{byte(i * 37 % 40), byte(i % 3)}), fmt.Sprint(i), i)
		now := nodes(a)
		for place, n := range was {
			if now[place] != n {
				t.Fatalf("%d: node %d is changed", i, place)
			}
		}
	}
}

// The rule 'Memory'.
func TestMemory(t *testing.T) {
	a := fresh(t, 8, 50)
	root, m := put(t, a, -1, "ab", "1", 1), model{}.with("ab", "1", 1)
	whole := []byte("abcdefghijklmnop")
	was := bytes.Clone(whole)
	root, errno := Insert(a, root, whole[1:3], whole[4:8], 2)
	if errno != api.OK {
		t.Fatal(errno)
	}
	m = m.with("bc", "efgh", 2)
	Get(a, root, whole[:2])
	Needs(a, root, whole[:2])
	if !bytes.Equal(whole, was) {
		t.Fatalf("an argument is changed: %s", whole)
	}
	scribble(whole)
	holds(t, "an argument was written over", a, root, m, nil)
	for range 2 {
		one, two := Items(a, root), Items(a, root)
		x, _ := Get(a, root, []byte("bc"))
		y, _ := Get(a, root, []byte("bc"))
		for _, i := range append(one[:cap(one)], x) {
			scribble(i.ID)
			scribble(i.Key)
		}
		clear(one[:cap(one)])
		if !slices.Equal(allSaid(two), m.items()) || said(y) != said(m["bc"]) {
			t.Fatalf("two answers share bytes: %v, %s", allSaid(two), said(y))
		}
		holds(t, "an answer was written over", a, root, m, nil)
	}
}

// scribble writes over all of a list, its spare room too.
func scribble(b []byte) {
	b = b[:cap(b)]
	for i := range b {
		b[i] ^= 0xa5
	}
}

// Ends: of nodes that were put in by hand, of which no tree is made, each call ends all the same.
func TestMadeByHand(t *testing.T) {
	for seed := range int64(200) {
		r := rand.New(rand.NewSource(seed))
		a := fresh(t, 4, 200)
		var ids [][]byte
		for range 4 {
			id := bytes.Repeat([]byte{byte(r.Intn(3))}, []int{0, 1, 2, 255, 256, 300}[r.Intn(6)])
			ids = append(ids, id)
			a.Leaf(id, id, r.Intn(9))
		}
		for range 8 {
			prefix := bytes.Repeat([]byte{byte(r.Intn(3))}, r.Intn(300))
			if _, errno := a.Fork(r.Intn(8*len(prefix)+1), prefix, r.Intn(a.Used()), r.Intn(a.Used())); errno != api.OK {
				t.Fatal(errno)
			}
		}
		for root := range 12 {
			id := ids[r.Intn(4)]
			Items(a, root)
			Deep(a, root)
			Get(a, root, id)
			was, needs := a.Used(), Needs(a, root, id)
			top, errno := Insert(a, root, id[:min(len(id), 255)], nil, 1)
			if errno == api.OK && (top != a.Used()-1 || len(id) <= 255 && a.Used()-was != needs) {
				t.Fatalf("root %d: %d nodes, not %d", root, a.Used()-was, needs)
			}
		}
	}
}

// Ends: a node that is led to on more ways than can be counted.
func TestManyWays(t *testing.T) {
	a := fresh(t, 4, 1<<17)
	one, _ := a.Leaf([]byte("a"), nil, 1)
	two, _ := a.Fork(0, nil, one, one)
	const high = 70000
	for range high {
		top, errno := a.Fork(0, nil, two, one)
		if errno != api.OK {
			t.Fatal(errno)
		}
		one, two = two, top
	}
	if Deep(a, two) != high+1 || Deep(a, one) != high {
		t.Fatal(Deep(a, two), Deep(a, one))
	}
	if Needs(a, two, []byte("b")) != high+3 || Needs(a, two, []byte("a")) != high+2 {
		t.Fatal(Needs(a, two, []byte("b")), Needs(a, two, []byte("a")))
	}
}

// A node that stands on one side, and far below on the other.
func TestNearAndFar(t *testing.T) {
	a := fresh(t, 4, 20)
	near, _ := a.Leaf([]byte("a"), nil, 1)
	left, right := near, near
	for high := range 5 {
		if Deep(a, left) != high || Deep(a, right) != high {
			t.Fatal(Deep(a, left), Deep(a, right))
		}
		left, _ = a.Fork(0, nil, left, near)
		right, _ = a.Fork(0, nil, near, right)
	}
}
