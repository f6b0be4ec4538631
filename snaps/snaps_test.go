package snaps

import (
	"bytes"
	"crypto/sha256"
	"encoding/binary"
	"fmt"
	"math"
	"math/rand"
	"reflect"
	"slices"
	"sort"
	"testing"

	"annals/admit"
	"annals/api"
	"annals/arena"
	"annals/change"
	"annals/ptree"
	"annals/tiers"
)

// tight is parameters whose arena has just the room that admit asks for.
func tight(p api.Params) api.Params {
	p.Arena = admit.Need(p)
	return p
}

func small(changes, cache int) api.Params {
	return tight(api.Params{Size: 8, Height: 7, MaxID: 2, MaxKey: 4, Changes: changes, Cache: cache, Page: 3})
}

func fresh(t *testing.T, p api.Params) *Snaps {
	t.Helper()
	s, errno := New(p)
	if errno != api.OK || s == nil {
		t.Fatal(errno)
	}
	return s
}

// batch is bindings of identities, all with one key.
func batch(key string, ids ...string) []api.Binding {
	var out []api.Binding
	for _, id := range ids {
		out = append(out, api.Binding{ID: []byte(id), Key: []byte(key)})
	}
	return out
}

func grow(t *testing.T, s *Snaps, l []api.Binding) []byte {
	t.Helper()
	hash, errno := s.Grow(l)
	if errno != api.OK {
		t.Fatal(errno)
	}
	return hash
}

func root(t *testing.T, s *Snaps, epoch int) int {
	t.Helper()
	root, errno := s.Root(epoch)
	if errno != api.OK {
		t.Fatal(epoch, errno)
	}
	return root
}

// grown is snaps of some epochs of one binding each, their identities five in turn.
func grown(t *testing.T, p api.Params, epochs int) *Snaps {
	t.Helper()
	s := fresh(t, p)
	for i := range epochs {
		grow(t, s, batch(fmt.Sprint(i), string(rune('a'+i%5))))
	}
	return s
}

func there(t *testing.T, s *Snaps, last int, kept, built []int) {
	t.Helper()
	if s.Last() != last || !slices.Equal(s.Kept(), kept) || !slices.Equal(s.Built(), built) {
		t.Fatalf("last %d, kept %v, built %v; not %d, %v, %v", s.Last(), s.Kept(), s.Built(), last, kept, built)
	}
}

// byHand is the hash of a text, reckoned without the program's own layers.
func byHand(size int, tag byte, parts ...[]byte) []byte {
	text := []byte{tag}
	for _, p := range parts {
		text = binary.BigEndian.AppendUint16(text, uint16(len(p)))
		text = append(text, p...)
	}
	sum := sha256.Sum256(text)
	return sum[:size]
}

func number(n int) []byte { return binary.BigEndian.AppendUint64(nil, uint64(n)) }

// bitsOf is an identity's bits as a text of 0 and 1.
func bitsOf(id []byte) string {
	out := fmt.Sprintf("%08b", len(id))
	for _, b := range id {
		out += fmt.Sprintf("%08b", b)
	}
	return out
}

// packed is a text of 0 and 1 as bytes.
func packed(row string) []byte {
	out := make([]byte, (len(row)+7)/8)
	for i, c := range row {
		if c == '1' {
			out[i/8] |= 0x80 >> (i % 8)
		}
	}
	return out
}

// itemsAt is what the tree of an epoch has, by the batches alone.
func itemsAt(batches [][]api.Binding, epoch int) []api.Item {
	last := map[string]api.Item{}
	for e := 1; e <= epoch; e++ {
		for _, b := range batches[e] {
			last[string(b.ID)] = api.Item{ID: b.ID, Key: b.Key, Since: e}
		}
	}
	var out []api.Item
	for _, x := range last {
		out = append(out, x)
	}
	sort.Slice(out, func(i, j int) bool { return bitsOf(out[i].ID) < bitsOf(out[j].ID) })
	return out
}

// hashByHand is the hash of the tree of such items, and its newest.
func hashByHand(size int, items []api.Item) ([]byte, int) {
	if len(items) == 0 {
		return byHand(size, api.TagEmpty), 0
	}
	first, last := bitsOf(items[0].ID), bitsOf(items[len(items)-1].ID)
	if len(items) == 1 {
		x := items[0]
		return byHand(size, api.TagLeaf, x.ID, x.Key, number(x.Since)), x.Since
	}
	depth, left := 0, 0
	for first[depth] == last[depth] {
		depth++
	}
	for bitsOf(items[left].ID)[depth] == '0' {
		left++
	}
	l, newestLeft := hashByHand(size, items[:left])
	r, newestRight := hashByHand(size, items[left:])
	newest := max(newestLeft, newestRight)
	return byHand(size, api.TagNode, number(depth), packed(first[:depth]), number(newest), l, r), newest
}

func said(l []api.Item) string {
	out := ""
	for _, x := range l {
		out += fmt.Sprintf("%q=%q@%d ", x.ID, x.Key, x.Since)
	}
	return out
}

// model is snaps by the document's words, with an arena of its own.
type model struct {
	p        api.Params
	a        *arena.Arena
	batches  [][]api.Binding
	hashes   [][]byte    // what Grow told
	retained map[int]int // the root of an epoch
	built    map[int]int
	asked    map[int]int // when a built one was asked for
	clock    int
}

func newModel(t *testing.T, p api.Params) *model {
	t.Helper()
	a, errno := arena.New(p.Size, p.Arena)
	if errno != api.OK {
		t.Fatal(errno)
	}
	return &model{p: p, a: a, batches: make([][]api.Binding, 1), hashes: [][]byte{a.Hash(-1)},
		retained: map[int]int{0: -1}, built: map[int]int{}, asked: map[int]int{}}
}

func (m *model) last() int { return len(m.batches) - 1 }

func (m *model) sweep() {
	var roots []int
	for _, r := range m.retained {
		roots = append(roots, r)
	}
	for _, r := range m.built {
		roots = append(roots, r)
	}
	m.a.Sweep(roots)
}

func (m *model) put(t *testing.T, root, epoch int) int {
	t.Helper()
	for _, b := range m.batches[epoch] {
		next, errno := ptree.Insert(m.a, root, b.ID, b.Key, epoch)
		if errno != api.OK {
			t.Fatal("the model's arena: ", errno)
		}
		root = next
	}
	return root
}

func (m *model) grow(t *testing.T, l []api.Binding) ([]byte, api.Errno) {
	t.Helper()
	m.sweep()
	if errno := change.Check(m.p, l); errno != api.OK {
		return nil, errno
	}
	count := len(l)
	for _, b := range m.batches {
		count += len(b)
	}
	if len(m.batches)+1 == 1<<m.p.Height+1 || count > m.p.Changes {
		return nil, api.ErrQuota
	}
	m.batches = append(m.batches, l)
	m.retained[m.last()] = m.put(t, m.retained[m.last()-1], m.last())
	hash := m.a.Hash(m.retained[m.last()])
	m.hashes = append(m.hashes, hash)
	return hash, api.OK
}

func (m *model) root(t *testing.T, epoch int) (int, api.Errno) {
	t.Helper()
	m.sweep()
	m.clock++
	if epoch < 0 || epoch > m.last() {
		return 0, api.ErrArg
	}
	if r, ok := m.retained[epoch]; ok {
		return r, api.OK
	}
	if r, ok := m.built[epoch]; ok {
		m.asked[epoch] = m.clock
		return r, api.OK
	}
	from := epoch
	for _, ok := m.retained[from]; !ok; _, ok = m.retained[from] {
		from--
	}
	r := m.retained[from]
	for e := from + 1; e <= epoch; e++ {
		r = m.put(t, r, e)
	}
	if m.p.Cache == 0 {
		return r, api.OK
	}
	m.built[epoch], m.asked[epoch] = r, m.clock
	if len(m.built) > m.p.Cache {
		oldest := epoch
		for e := range m.built {
			if m.asked[e] < m.asked[oldest] {
				oldest = e
			}
		}
		delete(m.built, oldest)
	}
	return r, api.OK
}

func (m *model) evict() int {
	m.sweep()
	n := 0
	for e := range m.last() + 1 {
		if _, ok := m.retained[e]; ok && !tiers.Keeps(m.last(), e) {
			delete(m.retained, e)
			n++
		}
	}
	return n
}

func (m *model) drop() int {
	m.sweep()
	n := len(m.built)
	clear(m.built)
	return n
}

func epochsOf(l map[int]int) []int {
	var out []int
	for e := range l {
		out = append(out, e)
	}
	slices.Sort(out)
	return out
}

// same has snaps be as the model says, node by node.
func (m *model) same(t *testing.T, what string, s *Snaps) {
	t.Helper()
	there(t, s, m.last(), epochsOf(m.retained), epochsOf(m.built))
	if a := s.Arena(); a.Used() != m.a.Used() || a.Room() != m.a.Room() {
		t.Fatalf("%s: %d nodes, not %d", what, a.Used(), m.a.Used())
	}
	for i := range m.a.Used() + 50 {
		got, gotOK := s.Arena().Node(i)
		want, wantOK := m.a.Node(i)
		if gotOK != wantOK || !reflect.DeepEqual(got, want) {
			t.Fatalf("%s: node %d: %v, not %v", what, i, got, want)
		}
	}
}

// step is one of the four calls that count, on both.
func (m *model) step(t *testing.T, r *rand.Rand, s *Snaps) {
	t.Helper()
	switch n := r.Intn(20); {
	case n < 8:
		var l []api.Binding
		for range r.Intn(4) {
			id := make([]byte, r.Intn(m.p.MaxID+1))
			for i := range id {
				id[i] = []byte{0, 1, 0x80, 0xff}[r.Intn(4)]
			}
			l = append(l, api.Binding{ID: id, Key: fmt.Append(nil, r.Intn(9))})
		}
		got, errno := s.Grow(l)
		if want, wantErrno := m.grow(t, l); errno != wantErrno || !bytes.Equal(got, want) {
			t.Fatalf("Grow(%v): %x, %v, not %x, %v", l, got, errno, want, wantErrno)
		}
	case n < 17:
		epoch := r.Intn(m.last()+3) - 1
		got, errno := s.Root(epoch)
		if want, wantErrno := m.root(t, epoch); got != want || errno != wantErrno {
			t.Fatalf("Root(%d): %d, %v, not %d, %v", epoch, got, errno, want, wantErrno)
		}
		if errno == api.OK {
			m.shows(t, s, epoch, got)
		}
	case n < 19:
		if got, want := s.Evict(), m.evict(); got != want {
			t.Fatalf("Evict: %d, not %d", got, want)
		}
	default:
		if got, want := s.Drop(), m.drop(); got != want {
			t.Fatalf("Drop: %d, not %d", got, want)
		}
	}
}

// shows has a root be that of an epoch's tree, by the batches alone and by what Grow told.
func (m *model) shows(t *testing.T, s *Snaps, epoch, root int) {
	t.Helper()
	items := itemsAt(m.batches, epoch)
	want, _ := hashByHand(m.p.Size, items)
	if got := s.Arena().Hash(root); !bytes.Equal(got, want) || !bytes.Equal(got, m.hashes[epoch]) {
		t.Fatalf("epoch %d: hash %x, not %x", epoch, got, want)
	}
	if got := ptree.Items(s.Arena(), root); said(got) != said(items) {
		t.Fatalf("epoch %d: %s, not %s", epoch, said(got), said(items))
	}
}

// P22.1 to P22.5: calls at random, in arenas that have just the room that admit asks for.
func TestAtRandom(t *testing.T) {
	for seed := range int64(24) {
		r := rand.New(rand.NewSource(seed))
		p := tight(api.Params{
			Size: 1 + r.Intn(32), Height: 3 + r.Intn(6), MaxID: r.Intn(3), MaxKey: 1 + r.Intn(3),
			Changes: 1 + r.Intn(150), Cache: int(seed % 5), Page: 1,
		})
		s, m := fresh(t, p), newModel(t, p)
		for i := range 400 {
			m.step(t, r, s)
			m.same(t, fmt.Sprint("seed ", seed, ", step ", i), s)
		}
		for epoch := range m.last() + 1 {
			m.shows(t, s, epoch, root(t, s, epoch))
		}
	}
}

// P22.1, example 1
func TestNew(t *testing.T) {
	s := fresh(t, small(40, 1))
	there(t, s, 0, []int{0}, nil)
	if r, errno := s.Root(0); r != -1 || errno != api.OK {
		t.Fatal(r, errno)
	}
	if a := s.Arena(); a.Size() != 8 || a.Room() != small(40, 1).Arena || a.Used() != 0 {
		t.Fatal(a.Size(), a.Room(), a.Used())
	}
	if s.Evict() != 0 || s.Drop() != 0 {
		t.Fatal("something went")
	}
	there(t, s, 0, []int{0}, nil)
}

// P22.1: parameters that may not be, and the least and greatest ones that may.
func TestNewErrors(t *testing.T) {
	good := small(40, 1)
	edit := func(f func(p *api.Params)) api.Params {
		p := good
		f(&p)
		return p
	}
	cases := []struct {
		p    api.Params
		want api.Errno
	}{
		{api.Params{}, api.ErrArg},
		{edit(func(p *api.Params) { p.Size = 0 }), api.ErrArg},
		{edit(func(p *api.Params) { p.Size = 33 }), api.ErrArg},
		{edit(func(p *api.Params) { p.Height = -1 }), api.ErrArg},
		{edit(func(p *api.Params) { p.Cache = 9 }), api.ErrArg},
		{edit(func(p *api.Params) { p.Page = 0 }), api.ErrArg},
		{edit(func(p *api.Params) { p.Changes = math.MaxInt }), api.ErrArg},
		{edit(func(p *api.Params) { p.Arena = 0 }), api.ErrArg},
		{edit(func(p *api.Params) { p.Arena = api.MaxArena + 1 }), api.ErrArg},
		{edit(func(p *api.Params) { p.Arena-- }), api.ErrFull},
		{edit(func(p *api.Params) { p.Arena, p.Size = 1, 0 }), api.ErrArg},
	}
	for _, c := range cases {
		if s, errno := New(c.p); s != nil || errno != c.want {
			t.Errorf("New(%v): %v, not %v", c.p, errno, c.want)
		}
	}
	fresh(t, edit(func(p *api.Params) { p.Arena = api.MaxArena }))
	fresh(t, tight(api.Params{Size: 1, Page: 1}))
}

// P22.1: of several errors the first one; no epoch comes of a batch that is refused.
func TestGrowErrors(t *testing.T) {
	s := fresh(t, small(4, 1))
	first := grow(t, s, batch("1", "a", "b"))
	many := make([]api.Binding, api.MaxBatch+1)
	cases := []struct {
		l    []api.Binding
		want api.Errno
	}{
		{nil, api.ErrEmpty}, {[]api.Binding{}, api.ErrEmpty},
		{many, api.ErrFull},
		{batch("1", "abc"), api.ErrArg}, {batch("12345", "a"), api.ErrArg}, {batch("1", "a", "a", "abc"), api.ErrArg},
		{batch("1", "a", "a"), api.ErrTwice}, {batch("1", "", "a", "b", "c", ""), api.ErrTwice},
		{batch("1", "a", "b", "c"), api.ErrQuota},
	}
	for range 2 {
		for _, c := range cases {
			if hash, errno := s.Grow(c.l); hash != nil || errno != c.want {
				t.Errorf("Grow(%v): %x, %v, not %v", c.l, hash, errno, c.want)
			}
			there(t, s, 1, []int{0, 1}, nil)
			if !bytes.Equal(s.Arena().Hash(root(t, s, 1)), first) {
				t.Error("the tree is another one")
			}
		}
	}
	// What was refused doesn't count: there is room for two more.
	grow(t, s, batch("2", "a", "c"))
	if _, errno := s.Grow(batch("3", "a")); errno != api.ErrQuota {
		t.Error(errno)
	}
	if _, errno := s.Grow(batch("3", "a", "a")); errno != api.ErrTwice {
		t.Error(errno)
	}
	there(t, s, 2, []int{0, 1, 2}, nil)
}

// P22.1: as many epochs as there may be, and not one more.
func TestEpochs(t *testing.T) {
	for height := range 9 {
		s := fresh(t, tight(api.Params{Size: 4, Height: height, MaxID: 1, MaxKey: 2, Changes: 300, Cache: 1, Page: 1}))
		for range 1<<height - 1 {
			grow(t, s, batch("k", "a"))
		}
		if hash, errno := s.Grow(batch("k", "a")); hash != nil || errno != api.ErrQuota {
			t.Error(height, hash, errno)
		}
		if s.Last() != 1<<height-1 {
			t.Error(height, s.Last())
		}
	}
	none := fresh(t, tight(api.Params{Size: 4, Height: 3, MaxID: 1, MaxKey: 2, Page: 1}))
	if _, errno := none.Grow(batch("k", "a")); errno != api.ErrQuota {
		t.Error("without changes:", errno)
	}
}

// P22.1: the bindings come in since the new epoch, and the tree's hash hangs on what it has alone.
func TestGrow(t *testing.T) {
	p := small(40, 1)
	one, other := fresh(t, p), fresh(t, p)
	hash := grow(t, one, batch("k", "a", "b", "", "zz"))
	if !bytes.Equal(hash, grow(t, other, batch("k", "zz", "", "b", "a"))) {
		t.Error("the order of a batch is seen in the hash")
	}
	want, _ := hashByHand(8, itemsAt([][]api.Binding{nil, batch("k", "a", "b", "", "zz")}, 1))
	if !bytes.Equal(hash, want) {
		t.Errorf("%x, not %x", hash, want)
	}
	grow(t, one, batch("new", "b", "c"))
	if got := said(ptree.Items(one.Arena(), root(t, one, 2))); got != `""="k"@1 "a"="k"@1 "b"="new"@2 "c"="new"@2 "zz"="k"@1 ` {
		t.Error(got)
	}
}

// P22.2: epochs that there are not.
func TestRootErrors(t *testing.T) {
	s := grown(t, small(40, 1), 9)
	s.Evict()
	root(t, s, 3)
	for _, epoch := range []int{-1, 10, math.MinInt, math.MaxInt} {
		if r, errno := s.Root(epoch); r != 0 || errno != api.ErrArg {
			t.Errorf("Root(%d): %d, %v", epoch, r, errno)
		}
		there(t, s, 9, []int{0, 4, 6, 7, 8, 9}, []int{3})
	}
}

// P22.2: which built ones are there, and which one goes.
func TestBuilt(t *testing.T) {
	s := grown(t, small(40, 3), 30)
	s.Evict()
	kept := []int{0, 16, 20, 24, 27, 28, 29, 30}
	there(t, s, 30, kept, nil)
	steps := []struct {
		epoch int
		built []int
	}{
		{9, []int{9}}, {3, []int{3, 9}}, {25, []int{3, 9, 25}},
		{9, []int{3, 9, 25}},  // asked for again: 3 is the oldest now
		{28, []int{3, 9, 25}}, // a retained one changes nothing
		{0, []int{3, 9, 25}},
		{17, []int{9, 17, 25}},
		{25, []int{9, 17, 25}},
		{1, []int{1, 17, 25}},
		{9, []int{1, 9, 25}},
		{9, []int{1, 9, 25}},
		{3, []int{1, 3, 9}},
	}
	for i, step := range steps {
		root(t, s, step.epoch)
		if !slices.Equal(s.Built(), step.built) {
			t.Fatalf("step %d: %v, not %v", i, s.Built(), step.built)
		}
	}
	there(t, s, 30, kept, []int{1, 3, 9})
	if s.Drop() != 3 || s.Drop() != 0 {
		t.Fatal("dropped")
	}
	there(t, s, 30, kept, nil)
}

// P22.2: one that is there keeps its root, whatever else is built.
func TestRootsStay(t *testing.T) {
	s := grown(t, small(40, 2), 30)
	s.Evict()
	nine, last := root(t, s, 9), root(t, s, 30)
	for _, epoch := range []int{3, 9, 17, 9, 25, 9, 1} {
		root(t, s, epoch)
		if root(t, s, 9) != nine || root(t, s, 30) != last {
			t.Fatal("a root is another one")
		}
	}
}

// P22.2: a tree is built from the last retained one ahead, not from a built one, and no further back.
func TestBuiltFromRetained(t *testing.T) {
	s := grown(t, small(60, 2), 30)
	s.Evict()
	for range 2 {
		s.Drop() // the nodes of all that went are swept with the next call
		s.Drop()
		was := s.Arena().Used()
		root(t, s, 18) // from 16: two bindings
		two := s.Arena().Used() - was
		want := 0
		a, r := s.Arena(), root(t, s, 16)
		for e := 17; e <= 18; e++ {
			id := []byte{byte('a' + (e-1)%5)}
			want += ptree.Needs(a, r, id)
			r, _ = ptree.Insert(a, r, id, nil, e)
		}
		if two != want {
			t.Fatalf("%d nodes, not %d", two, want)
		}
		s.Drop()
		s.Drop()
		root(t, s, 18)
		root(t, s, 18)
		was = s.Arena().Used()
		root(t, s, 19)
		if more := s.Arena().Used() - was; more <= two {
			t.Fatalf("epoch 19 took %d nodes, epoch 18 %d: it was built of a built one", more, two)
		}
	}
}

// P22.2: without a cache a tree stays till the next call.
func TestNoCache(t *testing.T) {
	s := grown(t, small(40, 0), 30)
	s.Evict()
	s.Evict()
	was := s.Arena().Used()
	first := root(t, s, 11)
	hash := s.Arena().Hash(first)
	for range 2 {
		there(t, s, 30, []int{0, 16, 20, 24, 27, 28, 29, 30}, nil)
		if x, ok := ptree.Get(s.Arena(), first, []byte("a")); !ok || x.Since != 11 || !bytes.Equal(s.Arena().Hash(first), hash) {
			t.Fatal("a call that only tells took the tree away")
		}
	}
	if root(t, s, 11) != first {
		t.Fatal("built again it stands elsewhere")
	}
	root(t, s, 30)
	if s.Arena().Used() != was {
		t.Fatal("the tree is still there")
	}
	if s.Drop() != 0 {
		t.Fatal("dropped")
	}
}

// P22.3: what goes by tiers, what was evicted never comes back, and what is built stays.
func TestEvict(t *testing.T) {
	s := fresh(t, tight(api.Params{Size: 4, Height: 8, MaxID: 1, MaxKey: 4, Changes: 300, Cache: 2, Page: 1}))
	kept := []int{0}
	for e := 1; e < 200; e++ {
		grow(t, s, batch(fmt.Sprint(e), string(rune('a'+e%7))))
		kept = append(kept, e)
		there(t, s, e, kept, nil)
		if e%9 != 0 && e%50 > 3 {
			continue
		}
		before := len(kept)
		kept = slices.DeleteFunc(kept, func(k int) bool { return !tiers.Keeps(e, k) })
		if n := s.Evict(); n != before-len(kept) {
			t.Fatalf("behind %d: %d went, not %d", e, n, before-len(kept))
		}
		if n := s.Evict(); n != 0 {
			t.Fatalf("behind %d: %d more went", e, n)
		}
		there(t, s, e, kept, nil)
	}
	s.Evict()
	kept = tiers.Kept(199)
	root(t, s, 77)
	if s.Evict() != 0 {
		t.Fatal("something went")
	}
	there(t, s, 199, kept, []int{77})
	root(t, s, 78)
	there(t, s, 199, kept, []int{77, 78})
}

// P22.3: which calls begin with Sweep: what others put in is gone behind these, be they answered with an error or not.
func TestWhichCallsSweep(t *testing.T) {
	calls := []struct {
		name   string
		sweeps bool
		call   func(s *Snaps)
	}{
		{"Grow", true, func(s *Snaps) { s.Grow(batch("k", "a")) }},
		{"Grow of nothing", true, func(s *Snaps) { s.Grow(nil) }},
		{"Root", true, func(s *Snaps) { s.Root(2) }},
		{"Root of a built one", true, func(s *Snaps) { s.Root(1) }},
		{"Root of no epoch", true, func(s *Snaps) { s.Root(-1) }},
		{"Evict", true, func(s *Snaps) { s.Evict() }},
		{"Drop", true, func(s *Snaps) { s.Drop() }},
		{"Last", false, func(s *Snaps) { s.Last() }},
		{"Kept", false, func(s *Snaps) { s.Kept() }},
		{"Built", false, func(s *Snaps) { s.Built() }},
		{"Arena", false, func(s *Snaps) { s.Arena() }},
	}
	for _, c := range calls {
		s := grown(t, small(40, 1), 9)
		s.Evict()
		root(t, s, 1)
		place, errno := s.Arena().Leaf([]byte("by hand"), nil, 77)
		if errno != api.OK {
			t.Fatal(errno)
		}
		c.call(s)
		n, ok := s.Arena().Node(place)
		if still := ok && n.Since == 77; still == c.sweeps {
			t.Errorf("%s: the node is there: %v", c.name, still)
		}
	}
}

// P22.3: what goes with a call is swept with the next one, and not ahead of it.
func TestSweptWithTheNextCall(t *testing.T) {
	s := grown(t, small(40, 1), 20)
	root(t, s, 0)
	was := s.Arena().Used()
	s.Evict()
	if s.Arena().Used() != was {
		t.Fatal("Evict swept what it let go")
	}
	root(t, s, 20)
	less := s.Arena().Used()
	if less >= was {
		t.Fatal("what went was not swept")
	}
	r := root(t, s, 10)
	s.Drop()
	if _, ok := s.Arena().Node(r); !ok {
		t.Fatal("Drop swept what it let go")
	}
	s.Drop()
	if s.Arena().Used() != less {
		t.Fatal("what went was not swept")
	}
}

// P22.4: of all epochs, whichever are there.
func TestBuiltAgain(t *testing.T) {
	for _, cache := range []int{0, 1, 2, 8} {
		s := fresh(t, tight(api.Params{Size: 16, Height: 8, MaxID: 2, MaxKey: 4, Changes: 600, Cache: cache, Page: 1}))
		hashes := [][]byte{s.Arena().Hash(-1)}
		batches := make([][]api.Binding, 1)
		for e := 1; e < 150; e++ {
			batches = append(batches, batch(fmt.Sprint(e), fmt.Sprint(e%13), fmt.Sprint(e%7+13), fmt.Sprint(e%50+30)))
			hashes = append(hashes, grow(t, s, batches[e]))
		}
		s.Evict()
		for i := range 150 {
			epoch := i * 37 % 150
			r := root(t, s, epoch)
			want, _ := hashByHand(16, itemsAt(batches, epoch))
			if got := s.Arena().Hash(r); !bytes.Equal(got, hashes[epoch]) || !bytes.Equal(got, want) {
				t.Fatalf("cache %d, epoch %d: %x, not %x", cache, epoch, got, hashes[epoch])
			}
		}
	}
}

// P22.5: the arena is never full, even where each change takes as many nodes as one can.
func TestNeverFull(t *testing.T) {
	for cache := range 4 {
		p := tight(api.Params{Size: 4, Height: 6, MaxID: 3, MaxKey: 1, Changes: 200, Cache: cache, Page: 1})
		s := fresh(t, p)
		// One identity parts from the others at each of its bits, and is bound again and again.
		deep := []byte{0xaa, 0xaa, 0xaa}
		ids := []string{"", "1", "22"}
		for i := range 24 {
			other := bytes.Clone(deep)
			other[i/8] ^= 0x80 >> (i % 8)
			ids = append(ids, string(other))
		}
		grow(t, s, batch("k", ids...))
		for range 57 {
			grow(t, s, batch("n", string(deep), ids[5], ids[25]))
		}
		s.Evict()
		for i := range 200 {
			root(t, s, i*11%(s.Last()+1))
			if a := s.Arena(); a.Used()+a.Room() != p.Arena || a.Room() < 1 {
				t.Fatal(a.Used(), a.Room())
			}
		}
		if ptree.Deep(s.Arena(), root(t, s, s.Last())) < 24 {
			t.Fatal("the tree is not deep")
		}
	}
}

// The greatest directory that its arena may hold.
func TestGreatest(t *testing.T) {
	p := tight(api.Params{Size: 32, Height: 8, MaxID: 24, MaxKey: 48, Changes: 4096, Cache: 3, Page: 32})
	s := fresh(t, p)
	for e := 1; e < 129; e++ {
		var l []api.Binding
		for i := range 32 {
			sum := sha256.Sum256([]byte{byte(e), byte(i)})
			l = append(l, api.Binding{ID: sum[:24-i%3], Key: bytes.Repeat(sum[:16], 3)})
		}
		grow(t, s, l)
	}
	if _, errno := s.Grow(batch("k", "a")); errno != api.ErrQuota {
		t.Fatal(errno)
	}
	if s.Evict() != 129-len(tiers.Kept(128)) {
		t.Fatal(s.Kept())
	}
	for _, epoch := range []int{127, 63, 1, 65, 111, 63} {
		if got := len(ptree.Items(s.Arena(), root(t, s, epoch))); got != 32*epoch {
			t.Fatal(epoch, got)
		}
	}
}

// The rule 'Objects': of snaps that no call made.
func TestNoCallMadeIt(t *testing.T) {
	for _, s := range []*Snaps{nil, {}} {
		for _, l := range [][]api.Binding{nil, batch("k", "a"), batch("k", "a", "a")} {
			if hash, errno := s.Grow(l); hash != nil || errno != api.ErrNil {
				t.Error(hash, errno)
			}
		}
		for _, epoch := range []int{0, -1, 1, math.MaxInt} {
			if r, errno := s.Root(epoch); r != 0 || errno != api.ErrNil {
				t.Error(r, errno)
			}
		}
		if s.Evict() != 0 || s.Drop() != 0 || s.Last() != 0 || len(s.Kept()) != 0 || len(s.Built()) != 0 || s.Arena() != nil {
			t.Error("not zero")
		}
	}
}

// The rule 'Memory': what is handed in is neither changed nor kept, and an answer is nobody else's.
func TestMemory(t *testing.T) {
	s := fresh(t, small(60, 1))
	id, key := []byte("a."), []byte("k.")
	l := []api.Binding{{ID: id[:1], Key: key[:1]}, {ID: []byte("x")}, {ID: []byte("y")}}
	hash := grow(t, s, l[:1])
	want := bytes.Clone(hash)
	if string(id) != "a." || string(key) != "k." || string(l[1].ID) != "x" {
		t.Fatal("what was handed in has changed")
	}
	clear(hash[:cap(hash)])
	clear(id)
	clear(key)
	clear(l)
	for range 20 {
		grow(t, s, batch("new", "b"))
	}
	s.Evict()
	if got := s.Arena().Hash(root(t, s, 1)); !bytes.Equal(got, want) {
		t.Fatalf("%x, not %x", got, want)
	}
	for range 2 {
		there(t, s, 21, []int{0, 8, 12, 16, 18, 19, 20, 21}, []int{1})
		kept, built := s.Kept(), s.Built()
		clear(kept[:cap(kept)])
		clear(built[:cap(built)])
	}
}

// The rule 'Ends': whatever others do to the arena, no call panics.
func TestArenaSweptByOthers(t *testing.T) {
	for _, cache := range []int{0, 1} {
		s := grown(t, small(40, cache), 20)
		s.Evict()
		root(t, s, 3)
		s.Arena().Sweep(nil)
		if hash, errno := s.Grow(batch("k", "a")); errno != api.OK && hash != nil {
			t.Error(hash, errno)
		}
		for epoch := range 22 {
			if r, errno := s.Root(epoch); errno != api.OK && r != 0 {
				t.Error(epoch, r, errno)
			}
		}
		s.Evict()
		s.Drop()
		// What stands on epoch 0 can always be built again.
		if x, ok := ptree.Get(s.Arena(), root(t, s, 7), []byte("b")); !ok || x.Since != 7 {
			t.Error(x, ok)
		}
	}
}
