package arena

import (
	"bytes"
	"crypto/sha256"
	"encoding/binary"
	"math"
	"math/rand"
	"reflect"
	"slices"
	"testing"

	"annals/api"
)

// fresh is an empty arena.
func fresh(t *testing.T, size, room int) *Arena {
	t.Helper()
	a, errno := New(size, room)
	if errno != api.OK || a == nil {
		t.Fatalf("New(%d, %d): %v, %v", size, room, a, errno)
	}
	return a
}

// want has a call that puts a node in tell that place, and that errno.
func want(t *testing.T, what string, got int, errno api.Errno, place int, wanted api.Errno) {
	t.Helper()
	if got != place || errno != wanted {
		t.Fatalf("%s: %d, %v, not %d, %v", what, got, errno, place, wanted)
	}
}

// leaf and fork put a node in, and tell its place.
func leaf(t *testing.T, a *Arena, id, key string, since int) int {
	t.Helper()
	i, errno := a.Leaf([]byte(id), []byte(key), since)
	if errno != api.OK {
		t.Fatalf("Leaf(%q): %v", id, errno)
	}
	return i
}

func fork(t *testing.T, a *Arena, depth int, prefix []byte, left, right int) int {
	t.Helper()
	i, errno := a.Fork(depth, prefix, left, right)
	if errno != api.OK {
		t.Fatalf("Fork(%d, %d, %d): %v", depth, left, right, errno)
	}
	return i
}

// byHand is the hash of a text, reckoned without the program's own layers.
func byHand(size int, tag byte, parts ...[]byte) []byte {
	text := []byte{tag}
	for _, p := range parts {
		text = binary.BigEndian.AppendUint16(text, uint16(len(p)))
		text = append(text, p...)
	}
	sum := sha256.Sum256(text)
	return sum[:size]
}

func number(n int) []byte { return binary.BigEndian.AppendUint64(nil, uint64(n)) }

// firstBits is the first n bits of b, one by one.
func firstBits(b []byte, n int) []byte {
	out := make([]byte, (n+7)/8)
	for i := range n {
		out[i/8] |= b[i/8] & (0x80 >> (i % 8))
	}
	return out
}

// tidy is a node in memory of its own, with nil for empty lists, as they mean the same.
func tidy(n api.Node) api.Node {
	for _, b := range []*[]byte{&n.ID, &n.Key, &n.Prefix, &n.Hash} {
		*b = append([]byte(nil), *b...)
	}
	return n
}

// all is what an arena tells of each of its first places, and of one ahead of them and of one behind.
type all struct {
	nodes             []api.Node
	there             []bool
	hashes            [][]byte
	used, room, bytes int
}

func look(a *Arena, places int) all {
	out := all{used: a.Used(), room: a.Room(), bytes: a.Size()}
	for i := -1; i <= places; i++ {
		n, ok := a.Node(i)
		out.nodes = append(out.nodes, tidy(n))
		out.there = append(out.there, ok)
		out.hashes = append(out.hashes, append([]byte(nil), a.Hash(i)...))
	}
	return out
}

// unchanged has an arena tell what it told.
func unchanged(t *testing.T, what string, a *Arena, places int, was all) {
	t.Helper()
	if now := look(a, places); !reflect.DeepEqual(now, was) {
		t.Fatalf("%s: changed:\n%v\n%v", what, was, now)
	}
}

// scribble writes over all of a list, its spare room too.
func scribble(b []byte) {
	b = b[:cap(b)]
	for i := range b {
		b[i] ^= 0xa5
	}
}

// P9.1
func TestNew(t *testing.T) {
	for _, size := range []int{1, 2, 16, 31, api.MaxSize} {
		for _, room := range []int{1, 2, 1000, api.MaxArena - 1, api.MaxArena} {
			a := fresh(t, size, room)
			if a.Used() != 0 || a.Room() != room || a.Size() != size {
				t.Errorf("New(%d, %d): %d, %d, %d", size, room, a.Used(), a.Room(), a.Size())
			}
			for _, i := range []int{-1, 0, 1, room - 1, room} {
				if n, ok := a.Node(i); ok || !reflect.DeepEqual(n, api.Node{}) {
					t.Errorf("an empty arena has %v at %d", n, i)
				}
			}
		}
	}
	for _, bad := range []int{0, -1, math.MinInt, math.MaxInt} {
		for _, p := range [][2]int{{bad, 5}, {5, bad}, {bad, bad}, {api.MaxSize + 1, 5}, {5, api.MaxArena + 1}, {api.MaxSize + 1, api.MaxArena + 1}} {
			if a, errno := New(p[0], p[1]); errno != api.ErrArg || a != nil {
				t.Errorf("New(%d, %d): %v, %v", p[0], p[1], a, errno)
			}
		}
	}
}

// P9.1, P9.2
func TestLeaf(t *testing.T) {
	a := fresh(t, 20, 9)
	long := bytes.Repeat([]byte{7}, 65535)
	for i, c := range []struct {
		id, key []byte
		since   int
	}{
		{nil, nil, 0}, {[]byte{}, []byte("k"), 1}, {[]byte("id"), nil, 2}, {[]byte("id"), []byte("key"), 255},
		{[]byte("id"), []byte("key"), 255}, {long, []byte("key"), 1 << 40}, {[]byte{0}, long, math.MaxInt}, {long, long, 3},
	} {
		got, errno := a.Leaf(c.id, c.key, c.since)
		want(t, "Leaf", got, errno, i, api.OK)
		hash := byHand(20, api.TagLeaf, c.id, c.key, number(c.since))
		node := api.Node{Leaf: true, ID: c.id, Key: c.key, Since: c.since, Newest: c.since, Hash: hash}
		if n, ok := a.Node(i); !ok || !reflect.DeepEqual(tidy(n), tidy(node)) {
			t.Errorf("leaf %d: %v", i, n)
		}
		if !bytes.Equal(a.Hash(i), hash) || a.Used() != i+1 || a.Room() != 8-i {
			t.Errorf("leaf %d: %x, %d, %d", i, a.Hash(i), a.Used(), a.Room())
		}
	}
}

// P9.1: of several errors the first one, and nothing has changed.
func TestLeafErrors(t *testing.T) {
	a := fresh(t, 3, 2)
	leaf(t, a, "a", "x", 4)
	long := make([]byte, 65536)
	wrong := func(what string) {
		t.Helper()
		was := look(a, 3)
		for _, since := range []int{-1, -2, math.MinInt} {
			got, errno := a.Leaf([]byte("b"), nil, since)
			want(t, what, got, errno, 0, api.ErrArg)
		}
		got, errno := a.Leaf(long, nil, 1)
		want(t, what, got, errno, 0, api.ErrArg)
		got, errno = a.Leaf(nil, long, 1)
		want(t, what, got, errno, 0, api.ErrArg)
		unchanged(t, what, a, 3, was)
	}
	wrong("an arena with room")
	leaf(t, a, "b", "y", 5)
	wrong("a full arena")
	was := look(a, 3)
	for range 3 {
		got, errno := a.Leaf([]byte("c"), nil, 1)
		want(t, "Leaf without room", got, errno, 0, api.ErrFull)
	}
	unchanged(t, "Leaf without room", a, 3, was)
}

// P9.1, P9.2
func TestFork(t *testing.T) {
	a := fresh(t, 32, 40)
	x, y := leaf(t, a, "x", "1", 7), leaf(t, a, "y", "2", 3)
	row := []byte{0xff, 0xa5, 0xff}
	left, right := x, y
	for depth := range 25 {
		place := a.Used()
		got, errno := a.Fork(depth, row, left, right)
		want(t, "Fork", got, errno, place, api.OK)
		prefix := firstBits(row, depth)
		hash := byHand(32, api.TagNode, number(depth), prefix, number(7), a.Hash(left), a.Hash(right))
		node := api.Node{Depth: depth, Prefix: prefix, Newest: 7, Left: left, Right: right, Hash: hash}
		if n, ok := a.Node(got); !ok || !reflect.DeepEqual(tidy(n), tidy(node)) || !bytes.Equal(a.Hash(got), hash) {
			t.Fatalf("fork of depth %d: %v, not %v", depth, n, node)
		}
		left, right = right, got
	}
}

// A fork's newest is the greater one of those below it, on whichever side.
func TestForkNewest(t *testing.T) {
	a := fresh(t, 8, 40)
	for _, c := range [][3]int{{1, 2, 2}, {2, 1, 2}, {5, 5, 5}, {0, 0, 0}, {0, math.MaxInt, math.MaxInt}, {math.MaxInt, 1 << 60, math.MaxInt}} {
		l, r := leaf(t, a, "l", "", c[0]), leaf(t, a, "r", "", c[1])
		f := fork(t, a, 0, nil, l, r)
		g := fork(t, a, 0, nil, f, l)
		for _, i := range []int{f, g} {
			if n, _ := a.Node(i); n.Newest != c[2] || n.Since != 0 || n.Leaf {
				t.Errorf("%v: %v", c, n)
			}
		}
		a.Sweep(nil)
	}
}

// P9.1: the edges of depth, prefix and places.
func TestForkEdges(t *testing.T) {
	a := fresh(t, 8, 12)
	x, y := leaf(t, a, "x", "1", 7), leaf(t, a, "y", "2", 3)
	long := bytes.Repeat([]byte{0xff}, 65535)
	for _, c := range []struct {
		depth  int
		prefix []byte
	}{{0, nil}, {0, []byte{}}, {0, []byte{9}}, {1, []byte{9}}, {8, []byte{9}}, {9, []byte{9, 9}}, {0, long}, {1, long}, {65535 * 8, long}} {
		i := fork(t, a, c.depth, c.prefix, x, y)
		if n, _ := a.Node(i); n.Depth != c.depth || !bytes.Equal(n.Prefix, firstBits(c.prefix, c.depth)) {
			t.Errorf("depth %d of %d bytes: %d bytes", c.depth, len(c.prefix), len(n.Prefix))
		}
	}
	same := fork(t, a, 0, nil, x, x)
	if n, _ := a.Node(same); n.Left != x || n.Right != x {
		t.Errorf("a fork of one node: %v", n)
	}
}

// P9.1: of several errors the first one, and nothing has changed.
func TestForkErrors(t *testing.T) {
	a := fresh(t, 8, 4)
	x, y := leaf(t, a, "x", "1", 7), leaf(t, a, "y", "2", 3)
	gone := leaf(t, a, "z", "3", 3)
	a.Sweep([]int{x, y})
	wrong := func(what string, none ...int) {
		t.Helper()
		was := look(a, 5)
		for _, c := range []struct {
			depth  int
			prefix []byte
		}{
			{-1, nil}, {-1, []byte{1}}, {math.MinInt, []byte{1}}, {1, nil}, {9, []byte{1}}, {17, []byte{1, 2}},
			{math.MaxInt, []byte{1}}, {0, make([]byte, 65536)}, {65536 * 8, make([]byte, 65536)},
		} {
			got, errno := a.Fork(c.depth, c.prefix, x, y)
			want(t, what, got, errno, 0, api.ErrArg)
		}
		for _, i := range append(none, -1, -2, math.MinInt, math.MaxInt, 5, 1<<32) {
			got, errno := a.Fork(0, nil, i, y)
			want(t, what, got, errno, 0, api.ErrArg)
			got, errno = a.Fork(0, nil, x, i)
			want(t, what, got, errno, 0, api.ErrArg)
			got, errno = a.Fork(0, nil, i, i)
			want(t, what, got, errno, 0, api.ErrArg)
		}
		unchanged(t, what, a, 5, was)
	}
	wrong("an arena with room", gone, 3, 4)
	fork(t, a, 0, nil, x, y)
	fork(t, a, 1, []byte{1}, x, y)
	wrong("a full arena", 4)
	was := look(a, 5)
	got, errno := a.Fork(0, nil, x, y)
	want(t, "Fork without room", got, errno, 0, api.ErrFull)
	unchanged(t, "Fork without room", a, 5, was)
}

// P9.2
func TestHash(t *testing.T) {
	for size := 1; size <= api.MaxSize; size++ {
		a := fresh(t, size, 3)
		empty := byHand(size, api.TagEmpty)
		if !bytes.Equal(a.Hash(-1), empty) {
			t.Errorf("of nothing: %x, not %x", a.Hash(-1), empty)
		}
		x := leaf(t, a, "x", "1", 7)
		if !bytes.Equal(a.Hash(-1), empty) || !bytes.Equal(a.Hash(x), LeafHash(size, []byte("x"), []byte("1"), 7)) {
			t.Errorf("%x, %x", a.Hash(-1), a.Hash(x))
		}
		for _, i := range []int{-2, 1, 2, 3, math.MinInt, math.MaxInt} {
			if n, ok := a.Node(i); len(a.Hash(i)) != 0 || ok || !reflect.DeepEqual(n, api.Node{}) {
				t.Errorf("at %d: %x, %v", i, a.Hash(i), n)
			}
		}
	}
}

// P9.3, P9.4
func TestSweep(t *testing.T) {
	a := fresh(t, 16, 10)
	w, x, y, z := leaf(t, a, "w", "0", 1), leaf(t, a, "x", "1", 2), leaf(t, a, "y", "2", 3), leaf(t, a, "z", "3", 4)
	f := fork(t, a, 3, []byte{0xe0}, x, y)
	g := fork(t, a, 1, []byte{0x80}, f, z)
	h := fork(t, a, 0, nil, f, w)
	was := look(a, 7)
	if n := a.Sweep([]int{g, h}); n != 0 {
		t.Fatal(n, "were taken out, and all are led to")
	}
	unchanged(t, "Sweep that takes nothing out", a, 7, was)

	// g leads to f, z, x, y; a place of no node, and one that is told twice, lead nowhere else.
	if n := a.Sweep([]int{-1, g, 99, math.MinInt, g, x, math.MaxInt, 7}); n != 2 || a.Used() != 5 || a.Room() != 5 {
		t.Fatal(n, a.Used(), a.Room())
	}
	for _, i := range []int{w, h} {
		was.nodes[i+1], was.there[i+1], was.hashes[i+1] = api.Node{}, false, nil
	}
	was.used, was.room = 5, 5
	unchanged(t, "Sweep", a, 7, was)
	if n := a.Sweep([]int{h}); n != 5 || a.Used() != 0 || a.Room() != 10 {
		t.Fatal(n, "were taken out by a root that is swept itself")
	}
	if n := a.Sweep(nil); n != 0 {
		t.Fatal(n, "were taken out of an empty arena")
	}
}

// P9.1, P9.3: the lowest free place is taken, whichever way it came to be free.
func TestLowestPlace(t *testing.T) {
	a := fresh(t, 4, 12)
	for range 12 {
		leaf(t, a, "", "", 0)
	}
	if n := a.Sweep([]int{0, 2, 3, 5, 8, 11}); n != 6 {
		t.Fatal(n)
	}
	for _, place := range []int{1, 4} {
		want(t, "Leaf", leaf(t, a, "n", "", 1), api.OK, place, api.OK)
	}
	want(t, "Fork", fork(t, a, 0, nil, 0, 1), api.OK, 6, api.OK)
	if n := a.Sweep([]int{11, 5, 8}); n != 6 {
		t.Fatal(n)
	}
	for _, place := range []int{0, 1, 2, 3, 4, 6, 7, 9, 10} {
		want(t, "Leaf", leaf(t, a, "n", "", 1), api.OK, place, api.OK)
	}
	got, errno := a.Leaf(nil, nil, 0)
	want(t, "Leaf", got, errno, 0, api.ErrFull)
}

// A fork may stand at a lower place than those below it.
func TestSweepUpwards(t *testing.T) {
	a := fresh(t, 4, 6)
	for range 6 {
		leaf(t, a, "", "", 0)
	}
	a.Sweep([]int{4, 5})
	want(t, "Fork", fork(t, a, 0, nil, 4, 5), api.OK, 0, api.OK)
	want(t, "Fork", fork(t, a, 0, nil, 5, 0), api.OK, 1, api.OK)
	if n := a.Sweep([]int{1}); n != 0 || a.Used() != 4 {
		t.Fatal(n, a.Used())
	}
	if n := a.Sweep([]int{0}); n != 1 || a.Used() != 3 {
		t.Fatal(n, a.Used())
	}
}

// Ends: forks upon forks, of which each leads to the one below on both sides.
func TestSweepOfManyWays(t *testing.T) {
	const high = 1 << 17
	a := fresh(t, 1, high+2)
	top := leaf(t, a, "x", "", 1)
	other := leaf(t, a, "y", "", 1)
	for range high {
		top = fork(t, a, 0, nil, top, top)
	}
	if n := a.Sweep([]int{top}); n != 1 || a.Used() != high+1 || a.Hash(other) != nil {
		t.Fatal(n, a.Used())
	}
	if n := a.Sweep([]int{other}); n != high+1 || a.Used() != 0 {
		t.Fatal(n, a.Used())
	}
}

// P9.3
func TestHashes(t *testing.T) {
	id, key, row := []byte("id"), []byte("key"), []byte{0xff, 0xff}
	long := bytes.Repeat([]byte{0xff}, 65536)
	for size := 1; size <= api.MaxSize; size++ {
		for _, since := range []int{0, 1, 256, math.MaxInt, -1, math.MinInt} {
			if got := LeafHash(size, id, key, since); !bytes.Equal(got, byHand(size, 1, id, key, number(since))) {
				t.Errorf("LeafHash of size %d, since %d: %x", size, since, got)
			}
		}
		for depth := range 17 {
			got := ForkHash(size, depth, row, 9, id, key)
			if !bytes.Equal(got, byHand(size, 2, number(depth), firstBits(row, depth), number(9), id, key)) {
				t.Errorf("ForkHash of size %d, depth %d: %x", size, depth, got)
			}
		}
		// A prefix that has fewer bits counts whole, and of a depth below 0 none does.
		for _, c := range []struct {
			depth  int
			prefix []byte
		}{{17, row}, {math.MaxInt, row}, {5, nil}, {-1, nil}, {math.MinInt, nil}} {
			if got := ForkHash(size, c.depth, row[:len(c.prefix)], -3, nil, long[1:]); !bytes.Equal(got, byHand(size, 2, number(c.depth), c.prefix, number(-3), nil, long[1:])) {
				t.Errorf("ForkHash of size %d, depth %d: %x", size, c.depth, got)
			}
		}
		if got := ForkHash(size, -1, row, 9, id, key); !bytes.Equal(got, byHand(size, 2, number(-1), nil, number(9), id, key)) {
			t.Errorf("ForkHash below depth 0: %x", got)
		}
		// Of a longer prefix only the first bits are a part.
		if got := ForkHash(size, 12, long, 9, id, key); !bytes.Equal(got, byHand(size, 2, number(12), []byte{0xff, 0xf0}, number(9), id, key)) {
			t.Errorf("ForkHash of a long prefix: %x", got)
		}
	}
	for _, got := range [][]byte{
		LeafHash(4, long, nil, 1), LeafHash(4, nil, long, 1), ForkHash(4, 65536*8, long, 1, nil, nil),
		ForkHash(4, 0, nil, 1, long, nil), ForkHash(4, 0, nil, 1, nil, long), LeafHash(0, id, key, 1), ForkHash(-1, 0, nil, 1, nil, nil),
	} {
		if len(got) != 0 {
			t.Errorf("a hash of a text that there is not: %x", got)
		}
	}
}

// The rule 'Objects'.
func TestNoCallMadeIt(t *testing.T) {
	for _, a := range []*Arena{nil, {}, new(Arena)} {
		for range 2 {
			got, errno := a.Leaf(nil, nil, 0)
			want(t, "Leaf", got, errno, 0, api.ErrNil)
			got, errno = a.Leaf(nil, nil, -1)
			want(t, "Leaf", got, errno, 0, api.ErrNil)
			got, errno = a.Fork(0, nil, 0, 0)
			want(t, "Fork", got, errno, 0, api.ErrNil)
			got, errno = a.Fork(-1, nil, -1, -1)
			want(t, "Fork", got, errno, 0, api.ErrNil)
			for _, i := range []int{-1, 0, 1, math.MaxInt, math.MinInt} {
				if n, ok := a.Node(i); ok || !reflect.DeepEqual(n, api.Node{}) || a.Hash(i) != nil {
					t.Error(n, ok, a.Hash(i))
				}
			}
			if a.Sweep(nil) != 0 || a.Sweep([]int{0, -1, 5}) != 0 || a.Used() != 0 || a.Room() != 0 || a.Size() != 0 {
				t.Error(a.Used(), a.Room(), a.Size())
			}
		}
	}
}

// The rule 'Memory': what is handed in is neither changed nor kept.
func TestArgumentsAreNotKept(t *testing.T) {
	a := fresh(t, 16, 5)
	whole := []byte("0123456789abcdef")
	was := bytes.Clone(whole)
	x, _ := a.Leaf(whole[1:3], whole[4:6], 1)
	y, _ := a.Leaf(whole[:0], whole[6:9], 2)
	f, _ := a.Fork(11, whole[9:12], x, y)
	roots := []int{f, x, y, -1, 7}
	a.Sweep(roots[:1])
	LeafHash(8, whole[1:3], whole[4:6], 1)
	ForkHash(8, 11, whole[9:12], 1, whole[2:4], whole[4:6])
	if !bytes.Equal(whole, was) || !slices.Equal(roots, []int{f, x, y, -1, 7}) {
		t.Fatalf("arguments are changed: %s, %v", whole, roots)
	}
	told := look(a, 5)
	scribble(whole)
	unchanged(t, "a key was kept", a, 5, told)
}

// The rule 'Memory': an answer is new memory.
func TestAnswersAreTheirOwn(t *testing.T) {
	a := fresh(t, 16, 5)
	x, y := leaf(t, a, "idx", "key of x", 1), leaf(t, a, "idy", "key of y", 2)
	f := fork(t, a, 21, []byte("idz"), x, y)
	told := look(a, 5)
	for range 2 {
		for i := -1; i <= 5; i++ {
			n, _ := a.Node(i)
			m, _ := a.Node(i)
			for _, b := range [][]byte{n.ID, n.Key, n.Prefix, n.Hash, a.Hash(i)} {
				scribble(b)
			}
			if !reflect.DeepEqual(tidy(m), told.nodes[i+1]) {
				t.Fatalf("two answers share bytes: %v", m)
			}
		}
		unchanged(t, "an answer was written over", a, 5, told)
	}
	for range 2 {
		h := ForkHash(16, 21, []byte("idz"), 2, a.Hash(x), a.Hash(y))
		if !bytes.Equal(h, a.Hash(f)) {
			t.Fatalf("%x", h)
		}
		scribble(h)
		scribble(LeafHash(16, nil, nil, 0))
	}
}

// model is an arena as the document tells it: a list of places, gone through from its beginning.
type model struct {
	size, room int
	at         map[int]api.Node
}

func (m *model) put(n api.Node) (int, api.Errno) {
	for i := range m.room {
		if _, taken := m.at[i]; !taken {
			m.at[i] = n
			return i, api.OK
		}
	}
	return 0, api.ErrFull
}

func (m *model) leaf(id, key []byte, since int) (int, api.Errno) {
	if since < 0 {
		return 0, api.ErrArg
	}
	return m.put(api.Node{Leaf: true, ID: id, Key: key, Since: since, Newest: since, Hash: byHand(m.size, 1, id, key, number(since))})
}

func (m *model) fork(depth int, prefix []byte, left, right int) (int, api.Errno) {
	l, okLeft := m.at[left]
	r, okRight := m.at[right]
	if depth < 0 || depth > 8*len(prefix) || !okLeft || !okRight {
		return 0, api.ErrArg
	}
	prefix, newest := firstBits(prefix, depth), l.Newest
	if r.Newest > newest {
		newest = r.Newest
	}
	hash := byHand(m.size, 2, number(depth), prefix, number(newest), l.Hash, r.Hash)
	return m.put(api.Node{Depth: depth, Prefix: prefix, Newest: newest, Left: left, Right: right, Hash: hash})
}

// reach has stay have all that a place leads to.
func (m *model) reach(i int, stay map[int]api.Node) {
	n, ok := m.at[i]
	if !ok {
		return
	}
	if _, seen := stay[i]; seen {
		return
	}
	stay[i] = n
	if !n.Leaf {
		m.reach(n.Left, stay)
		m.reach(n.Right, stay)
	}
}

func (m *model) sweep(roots []int) int {
	stay := map[int]api.Node{}
	for _, r := range roots {
		m.reach(r, stay)
	}
	out := len(m.at) - len(stay)
	m.at = stay
	return out
}

// told is what look finds of an arena that is as the model.
func (m *model) told() all {
	out := all{used: len(m.at), room: m.room - len(m.at), bytes: m.size}
	for i := -1; i <= m.room; i++ {
		n, ok := m.at[i]
		n = tidy(n)
		out.nodes, out.there, out.hashes = append(out.nodes, n), append(out.there, ok), append(out.hashes, n.Hash)
	}
	out.hashes[0] = byHand(m.size, 0)
	return out
}

// P9.1 to P9.5: many calls, and behind each the arena is as the model.
func TestAsTheModel(t *testing.T) {
	for seed := range int64(60) {
		r := rand.New(rand.NewSource(seed))
		size, room := 1+r.Intn(32), 1+r.Intn(40)
		a, m := fresh(t, size, room), &model{size, room, map[int]api.Node{}}
		some := func() []byte {
			b := make([]byte, r.Intn(5))
			r.Read(b)
			return b
		}
		place := func() int { return r.Intn(room+3) - 2 }
		for range 200 {
			var got, wanted int
			var errno, wantedErrno api.Errno
			switch what := r.Intn(20); {
			case what < 8:
				id, key, since := some(), some(), r.Intn(50)-1
				got, errno = a.Leaf(id, key, since)
				wanted, wantedErrno = m.leaf(id, key, since)
			case what < 18:
				prefix := some()
				depth, left, right := r.Intn(8*len(prefix)+3)-1, place(), place()
				got, errno = a.Fork(depth, prefix, left, right)
				wanted, wantedErrno = m.fork(depth, prefix, left, right)
			default:
				roots := make([]int, r.Intn(6))
				for i := range roots {
					roots[i] = place()
				}
				got, wanted = a.Sweep(roots), m.sweep(roots)
			}
			want(t, "a call", got, errno, wanted, wantedErrno)
			if a.Used()+a.Room() != room {
				t.Fatal(a.Used(), "and", a.Room(), "are not", room)
			}
			unchanged(t, "not as the model", a, room, m.told())
		}
	}
}

// Example 1.
func TestFirstStandsAtNought(t *testing.T) {
	want(t, "the first one", leaf(t, fresh(t, 1, 1), "a", "b", 0), api.OK, 0, api.OK)
}
