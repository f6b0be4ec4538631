package history

import (
	"bytes"
	"crypto/sha256"
	"encoding/binary"
	"fmt"
	"math"
	"math/rand"
	"reflect"
	"slices"
	"sort"
	"strings"
	"testing"

	"annals/admit"
	"annals/api"
	"annals/device"
	"annals/ledger"
	"annals/mts"
	"annals/ptree"
	"annals/record"
	"annals/skip"
	"annals/tiers"
)

// params is small ones, with so many epochs and changes, and an arena of just what these need.
func params(height, changes int) api.Params {
	return tight(api.Params{Size: 4, Height: height, MaxID: 2, MaxKey: 4, Changes: changes, Cache: 1, Page: 3})
}

func tight(p api.Params) api.Params {
	p.Arena = admit.Need(p)
	return p
}

func fresh(t *testing.T, sectors int) *device.Device {
	t.Helper()
	d, errno := device.New(sectors)
	want(t, "New", errno, api.OK)
	return d
}

func open(t *testing.T, d *device.Device, p api.Params, seed string) *History {
	t.Helper()
	h, errno := Open(d, p, []byte(seed))
	if errno != api.OK || h == nil || h.Stopped() {
		t.Fatalf("Open: %v, %v", h, errno)
	}
	return h
}

// want has a call tell that errno.
func want(t *testing.T, what string, got, errno api.Errno) {
	t.Helper()
	if got != errno {
		t.Fatalf("%s: %v, not %v", what, got, errno)
	}
}

// batch is bindings of identities, all with one key.
func batch(key string, ids ...string) []api.Binding {
	var out []api.Binding
	for _, id := range ids {
		out = append(out, api.Binding{ID: []byte(id), Key: []byte(key)})
	}
	return out
}

// byHand is the hash of a text, reckoned without the program's own layers.
func byHand(size int, tag byte, parts ...[]byte) []byte {
	text := []byte{tag}
	for _, p := range parts {
		text = binary.BigEndian.AppendUint16(text, uint16(len(p)))
		text = append(text, p...)
	}
	sum := sha256.Sum256(text)
	return sum[:size]
}

func eight(n int) []byte { return binary.BigEndian.AppendUint64(nil, uint64(n)) }

// number is a number as the codec has it.
func number(n int) []byte {
	digits := bytes.TrimLeft(eight(n), "\x00")
	return append([]byte{byte(len(digits))}, digits...)
}

// bitsOf is an identity's bits as a text of 0 and 1.
func bitsOf(id []byte) string {
	out := fmt.Sprintf("%08b", len(id))
	for _, b := range id {
		out += fmt.Sprintf("%08b", b)
	}
	return out
}

// packed is a text of 0 and 1 as bytes.
func packed(row string) []byte {
	out := make([]byte, (len(row)+7)/8)
	for i, c := range row {
		if c == '1' {
			out[i/8] |= 0x80 >> (i % 8)
		}
	}
	return out
}

// treeByHand is the hash of the tree of such items, in the order of their bits, and its newest.
func treeByHand(size int, items []api.Item) ([]byte, int) {
	if len(items) == 0 {
		return byHand(size, api.TagEmpty), 0
	}
	if len(items) == 1 {
		x := items[0]
		return byHand(size, api.TagLeaf, x.ID, x.Key, eight(x.Since)), x.Since
	}
	first, last := bitsOf(items[0].ID), bitsOf(items[len(items)-1].ID)
	depth, left := 0, 0
	for first[depth] == last[depth] {
		depth++
	}
	for bitsOf(items[left].ID)[depth] == '0' {
		left++
	}
	l, newestLeft := treeByHand(size, items[:left])
	r, newestRight := treeByHand(size, items[left:])
	newest := max(newestLeft, newestRight)
	return byHand(size, api.TagNode, eight(depth), packed(first[:depth]), eight(newest), l, r), newest
}

// listByHand is the root over the digests of a batch.
func listByHand(size int, l []api.Binding) []byte {
	if len(l) == 0 {
		return byHand(size, api.TagEmpty)
	}
	if len(l) == 1 {
		return byHand(size, api.TagChange, l[0].ID, l[0].Key)
	}
	k := 1
	for 2*k < len(l) {
		k *= 2
	}
	return byHand(size, api.TagPair, listByHand(size, l[:k]), listByHand(size, l[k:]))
}

// recordHash is a record's hash by hand.
func recordHash(size int, r api.Record) []byte {
	b := slices.Concat(number(r.Epoch), number(r.Time), number(size), r.Tree, number(r.Count), number(size), r.List)
	for _, link := range r.Links {
		b = slices.Concat(b, number(size), link)
	}
	return byHand(size, api.TagRecord, b)
}

// model is a directory by the document's words.
type model struct {
	p       api.Params
	keys    *mts.Keys
	batches [][]api.Binding
	records []api.Record
	clock   int
}

func newModel(t *testing.T, p api.Params, seed string) *model {
	t.Helper()
	keys, errno := mts.New(p.Size, []byte(seed), p.Height)
	want(t, "mts.New", errno, api.OK)
	m := &model{p: p, keys: keys}
	m.add(nil)
	return m
}

// add makes a new epoch, at the clock's time.
func (m *model) add(l []api.Binding) {
	epoch := len(m.records)
	m.batches = append(m.batches, l)
	tree, _ := treeByHand(m.p.Size, m.items(epoch))
	r := api.Record{Epoch: epoch, Time: m.clock, Tree: tree, Count: len(l), List: listByHand(m.p.Size, l)}
	for k := 1; epoch > 0 && epoch%k == 0; k *= 2 {
		r.Links = append(r.Links, recordHash(m.p.Size, m.records[epoch-k]))
	}
	m.records = append(m.records, r)
}

// items is what the tree of an epoch has.
func (m *model) items(epoch int) []api.Item {
	last := map[string]api.Item{}
	for e := 1; e <= epoch; e++ {
		for _, b := range m.batches[e] {
			last[string(b.ID)] = api.Item{ID: b.ID, Key: b.Key, Since: e}
		}
	}
	var out []api.Item
	for _, x := range last {
		out = append(out, x)
	}
	sort.Slice(out, func(i, j int) bool { return bitsOf(out[i].ID) < bitsOf(out[j].ID) })
	return out
}

func (m *model) changes() int { return len(slices.Concat(m.batches...)) }

// publish is what Publish tells of a directory whose log has room.
func (m *model) publish(l []api.Binding) (int, api.Errno) {
	seen := map[string]bool{}
	if len(l) == 0 {
		return 0, api.ErrEmpty
	}
	if len(l) > 32 {
		return 0, api.ErrFull
	}
	for _, b := range l {
		if len(b.ID) > m.p.MaxID || len(b.Key) > m.p.MaxKey {
			return 0, api.ErrArg
		}
	}
	for _, b := range l {
		if seen[string(b.ID)] {
			return 0, api.ErrTwice
		}
		seen[string(b.ID)] = true
	}
	if len(m.records) == 1<<m.p.Height || m.changes()+len(l) > m.p.Changes {
		return 0, api.ErrQuota
	}
	m.add(l)
	return len(m.records) - 1, api.OK
}

// signed is an epoch's.
func (m *model) signed(t *testing.T, epoch int) api.Signed {
	t.Helper()
	s, errno := m.keys.Sign(epoch, recordHash(m.p.Size, m.records[epoch]))
	want(t, "Sign", errno, api.OK)
	return api.Signed{Record: m.records[epoch], Signature: s}
}

// spoken is anything as a text, in which no list and an empty one are alike.
func spoken(x any) string {
	return strings.ReplaceAll(fmt.Sprintf("%#v", x), "(nil)", "{}")
}

// same has a directory be as the model, in all that it tells but the signatures.
func same(t *testing.T, h *History, m *model) {
	t.Helper()
	last := len(m.records) - 1
	if h.Epoch() != last || h.Changes() != m.changes() || h.Now() != m.clock || h.Params() != m.p || !bytes.Equal(h.Public(), m.keys.Public()) {
		t.Fatalf("epoch %d, %d changes, clock %d; not %d, %d, %d", h.Epoch(), h.Changes(), h.Now(), last, m.changes(), m.clock)
	}
	var times []int
	for epoch, r := range m.records {
		times = append(times, r.Time)
		if spoken(h.Batch(epoch)) != spoken(m.batches[epoch]) {
			t.Fatalf("batch %d: %v", epoch, h.Batch(epoch))
		}
	}
	if !slices.Equal(h.Times(), times) {
		t.Fatal(h.Times(), times)
	}
	g := h.Gauge()
	if g.Epochs != last+1 || g.Changes != m.changes() || g.Snapshots != len(h.Snaps().Kept()) || g.Built != len(h.Snaps().Built()) || g.Nodes != h.Snaps().Arena().Used() {
		t.Fatal(g)
	}
}

// sameSigned has each signed record be the model's, and be taken.
func sameSigned(t *testing.T, h *History, m *model) {
	t.Helper()
	for epoch := range m.records {
		s, errno := h.Signed(epoch)
		if errno != api.OK || spoken(s) != spoken(m.signed(t, epoch)) {
			t.Fatalf("epoch %d: %v, not %v", epoch, s.Record, m.records[epoch])
		}
		if !record.Check(m.p.Size, m.p.Height, h.Public(), s) {
			t.Fatal("epoch", epoch, "is not taken")
		}
	}
}

// P24.1, P24.3, example 1: a new directory has epoch 0, signed.
func TestNewDirectory(t *testing.T) {
	for _, p := range []api.Params{params(3, 10), params(0, 0), {Size: 1, Arena: 1, Page: 1}, tight(api.Params{Size: 32, Height: 2, MaxID: 24, MaxKey: 48, Changes: 100, Page: 32})} {
		for _, seed := range []string{"", "s", strings.Repeat("x", 64)} {
			h := open(t, fresh(t, 40), p, seed)
			m := newModel(t, p, seed)
			same(t, h, m)
			sameSigned(t, h, m)
			if h.Epoch() != 0 || len(h.Batch(0)) != 0 || len(h.Way(0, 0)) != 0 || !slices.Equal(h.Times(), []int{0}) {
				t.Fatal(h.Epoch(), h.Batch(0), h.Way(0, 0), h.Times())
			}
			if g := h.Gauge(); g != (api.Gauge{Epochs: 1, Snapshots: 1}) {
				t.Fatal(g)
			}
			s, _ := h.Signed(0)
			if empty := byHand(p.Size, api.TagEmpty); !bytes.Equal(s.Record.Tree, empty) || !bytes.Equal(s.Record.List, empty) || len(s.Record.Links) != 0 {
				t.Fatal(s.Record)
			}
		}
	}
}

// P24.1: the ledger's errors, in its order.
func TestOpenErrors(t *testing.T) {
	good := params(3, 10)
	bad, small, other := good, good, good
	bad.Height = 9
	small.Arena--
	other.Page++
	dead := fresh(t, 9)
	want(t, "Fuse", dead.Fuse(0), api.OK)
	want(t, "Sync", dead.Sync(), api.ErrDead)
	used := fresh(t, 40)
	if _, errno := open(t, used, good, "s").Publish(batch("1", "a")); errno != api.OK {
		t.Fatal(errno)
	}
	cases := []struct {
		d     *device.Device
		p     api.Params
		seed  string
		errno api.Errno
	}{
		{fresh(t, 9), bad, "", api.ErrArg}, {nil, bad, "", api.ErrArg}, {nil, api.Params{}, "", api.ErrArg},
		{nil, small, strings.Repeat("x", 65), api.ErrFull},
		{nil, good, strings.Repeat("x", 65), api.ErrArg},
		{nil, good, "", api.ErrNil}, {new(device.Device), good, "", api.ErrNil},
		{dead, good, "", api.ErrDead},
		{fresh(t, 1), good, "", api.ErrFull},
		{used, good, "t", api.ErrLog}, {used, other, "s", api.ErrLog},
	}
	for i, c := range cases {
		if h, errno := Open(c.d, c.p, []byte(c.seed)); h != nil || errno != c.errno {
			t.Errorf("case %d: %v, %v, not %v", i, h, errno, c.errno)
		}
	}
	stops := fresh(t, 9)
	want(t, "Fuse", stops.Fuse(2), api.OK)
	if h, errno := Open(stops, good, nil); h != nil || errno != api.ErrDead {
		t.Error(h, errno)
	}
}

// P24.1: what is logged is grown, whoever logged it; the clock is the last epoch's time, not where it was ticked to.
func TestOpen(t *testing.T) {
	p := params(4, 40)
	d := fresh(t, 100)
	l, errno := ledger.Open(d, p, []byte("s"))
	want(t, "ledger.Open", errno, api.OK)
	m := newModel(t, p, "s")
	for i, time := range []int{0, 0, 7, 7, 1 << 40, api.MaxTime} {
		list := batch(fmt.Sprint(i), "a", string(rune('a'+i%3))+"x", "")
		want(t, "Publish", l.Publish(api.Entry{Time: time, Batch: list}), api.OK)
		m.clock = time
		m.add(list)
		h := open(t, d, p, "s")
		same(t, h, m)
		sameSigned(t, h, m)
		want(t, "Tick", h.Tick(api.MaxTime), api.OK)
		if open(t, d, p, "s").Now() != time {
			t.Fatal("a tick is logged")
		}
	}
	if got := open(t, d, p, "s").Gauge(); got.Snapshots != 7 || got.Built != 0 || got.Nodes == 0 {
		t.Fatal(got)
	}
}

// P24.2: what is refused, by the error that is named first; nothing comes of it.
func TestPublishErrors(t *testing.T) {
	p := params(2, 4)
	d := fresh(t, 40)
	h := open(t, d, p, "s")
	m := newModel(t, p, "s")
	publish(t, h, m, batch("1", "a"))
	many := make([]api.Binding, api.MaxBatch+1)
	cases := []struct {
		l     []api.Binding
		errno api.Errno
	}{
		{nil, api.ErrEmpty}, {[]api.Binding{}, api.ErrEmpty}, {many, api.ErrFull},
		{batch("1", "abc"), api.ErrArg}, {batch("12345", "a"), api.ErrArg}, {batch("1", "a", "a", "abc"), api.ErrArg},
		{batch("1", "a", "a"), api.ErrTwice}, {batch("1", "", "a", "b", "c", "d", ""), api.ErrTwice},
		{batch("1", "a", "b", "c", "d"), api.ErrQuota},
	}
	refuse := func() {
		t.Helper()
		was, gauge := d.Changes(), h.Gauge()
		for i, c := range cases {
			if n, errno := h.Publish(c.l); n != 0 || errno != c.errno {
				t.Fatalf("case %d: %d, %v, not %v", i, n, errno, c.errno)
			}
			if d.Changes() != was || h.Gauge() != gauge {
				t.Fatal("something has changed")
			}
			same(t, h, m)
		}
	}
	refuse()
	publish(t, h, m, batch("2", "a", "b"))
	refuse()
	publish(t, h, m, batch("3", "c"))
	cases = append(cases, cases[len(cases)-1])
	cases[len(cases)-1].l = batch("4", "a")
	refuse()
	sameSigned(t, h, m)
}

// publish has a directory and its model take a batch.
func publish(t *testing.T, h *History, m *model, l []api.Binding) {
	t.Helper()
	n, errno := h.Publish(l)
	if wanted, code := m.publish(l); n != wanted || errno != code || errno != api.OK {
		t.Fatalf("Publish: %d, %v, not %d, %v", n, errno, wanted, code)
	}
}

// P24.2: as many epochs as there may be, and as many changes.
func TestQuota(t *testing.T) {
	for height := range 5 {
		h := open(t, fresh(t, 100), params(height, 40), "s")
		for i := range 1<<height - 1 {
			if n, errno := h.Publish(batch("1", "a")); n != i+1 || errno != api.OK {
				t.Fatal(height, n, errno)
			}
		}
		if n, errno := h.Publish(batch("1", "a")); n != 0 || errno != api.ErrQuota || h.Epoch() != 1<<height-1 {
			t.Fatal(height, n, errno)
		}
		if _, errno := h.Publish(batch("1", "a", "a")); errno != api.ErrTwice {
			t.Fatal(errno)
		}
	}
}

// P24.2: the ledger's errors, behind those of the batch and ErrQuota; a log without room goes on with what fits.
func TestLedgerErrors(t *testing.T) {
	p := params(3, 6)
	d := fresh(t, 6)
	h := open(t, d, p, "s")
	m := newModel(t, p, "s")
	publish(t, h, m, batch("1", "a"))
	gauge := h.Gauge()
	if n, errno := h.Publish(batch("1234", "aa", "bb", "cc", "dd", "ee", "ff")); n != 0 || errno != api.ErrQuota {
		t.Fatal(n, errno)
	}
	if n, errno := h.Publish(batch("1234", "aa", "bb", "cc", "dd", "ee")); n != 0 || errno != api.ErrFull || h.Stopped() || h.Gauge() != gauge {
		t.Fatal(n, errno)
	}
	same(t, h, m)
	publish(t, h, m, batch("2", "a"))
	if _, errno := h.Publish(batch("3", "a")); errno != api.ErrFull {
		t.Fatal(errno)
	}
	same(t, open(t, d, p, "s"), m)
}

// P24.2, P24.3: a device that fails it stops the directory for good; what was published is still told.
func TestStopped(t *testing.T) {
	p := params(3, 6)
	d := fresh(t, 60)
	h := open(t, d, p, "s")
	m := newModel(t, p, "s")
	publish(t, h, m, batch("1", "a"))
	want(t, "Fuse", d.Fuse(3), api.OK)
	gauge := h.Gauge()
	if n, errno := h.Publish(batch("2", "a")); n != 0 || errno != api.ErrDead || !h.Stopped() || h.Gauge() != gauge {
		t.Fatal(n, errno)
	}
	for _, crashed := range []bool{false, true} {
		if crashed {
			want(t, "Crash", d.Crash([]byte{1}), api.OK)
		}
		for _, c := range []struct {
			l     []api.Binding
			errno api.Errno
		}{{batch("2", "a"), api.ErrDead}, {nil, api.ErrEmpty}, {batch("2", "a", "a"), api.ErrTwice}, {batch("2", "a", "b", "c", "d", "e", "f"), api.ErrQuota}} {
			if n, errno := h.Publish(c.l); n != 0 || errno != c.errno {
				t.Fatal(n, errno)
			}
		}
		m.clock += 5
		want(t, "Tick", h.Tick(m.clock), api.OK)
		same(t, h, m)
		sameSigned(t, h, m)
		if _, errno := h.Signed(2); errno != api.ErrFuture {
			t.Fatal("the epoch on its way is signed:", errno)
		}
	}
	// The mark of the one on its way stayed: it is an epoch of its own time.
	m.clock = 0
	m.add(batch("2", "a"))
	g := open(t, d, p, "s")
	same(t, g, m)
	sameSigned(t, g, m)
}

// P24.2: the clock goes forward alone; an epoch has the clock's time.
func TestTick(t *testing.T) {
	p := params(4, 40)
	h := open(t, fresh(t, 100), p, "s")
	m := newModel(t, p, "s")
	for i, c := range []struct {
		t     int
		errno api.Errno
		now   int
	}{
		{0, api.OK, 0}, {-1, api.ErrArg, 0}, {30, api.OK, 30}, {10, api.OK, 30}, {math.MinInt, api.ErrArg, 30}, {30, api.OK, 30}, {31, api.OK, 31},
		{api.MaxTime + 1, api.ErrArg, 31}, {math.MaxInt, api.ErrArg, 31}, {api.MaxTime, api.OK, api.MaxTime}, {0, api.OK, api.MaxTime},
	} {
		want(t, "Tick", h.Tick(c.t), c.errno)
		m.clock = c.now
		if h.Now() != c.now {
			t.Fatal(i, h.Now())
		}
		publish(t, h, m, batch(fmt.Sprint(i), "a"))
		same(t, h, m)
	}
	sameSigned(t, h, m)
}

// P24.3: epochs that there are not.
func TestNoEpoch(t *testing.T) {
	p := params(2, 40)
	h := open(t, fresh(t, 100), p, "s")
	m := newModel(t, p, "s")
	for range 3 {
		for _, epoch := range []int{-1, math.MinInt, len(m.records), 4, 256, 1 << 20, math.MaxInt} {
			if epoch >= 0 && epoch < len(m.records) {
				continue
			}
			expect := api.ErrFuture
			if epoch < 0 {
				expect = api.ErrArg
			}
			if s, errno := h.Signed(epoch); errno != expect || !reflect.DeepEqual(s, api.Signed{}) {
				t.Error(epoch, errno)
			}
			if len(h.Batch(epoch)) != 0 || len(h.Way(epoch, 0)) != 0 || len(h.Way(epoch, epoch)) != 0 || len(h.Way(0, epoch)) != 0 {
				t.Error(epoch, h.Batch(epoch), h.Way(epoch, 0))
			}
		}
		publish(t, h, m, batch("1", "a", "b"))
	}
}

// P24.3: the records on the way, of all two epochs; each of them follows from the one that it begins with.
func TestWay(t *testing.T) {
	p := params(6, 60)
	d := fresh(t, 400)
	h := open(t, d, p, "s")
	m := newModel(t, p, "s")
	for i := range 50 {
		want(t, "Tick", h.Tick(i/3), api.OK)
		m.clock = i / 3
		publish(t, h, m, batch(fmt.Sprint(i), string(rune('a'+i%5))))
	}
	for _, g := range []*History{h, open(t, d, p, "s")} {
		for from := -1; from <= 51; from++ {
			for to := -2; to <= 52; to++ {
				var expect []api.Record
				if from >= 0 && from <= 50 {
					for _, epoch := range skip.Way(from, to) {
						expect = append(expect, m.records[epoch])
					}
				}
				way := g.Way(from, to)
				if spoken(way) != spoken(expect) {
					t.Fatal(from, to, way)
				}
				if from < 0 || from > 50 || to < 0 || to > from {
					continue
				}
				if last, ok := skip.Follow(4, m.records[from], way, to); !ok || spoken(last) != spoken(m.records[to]) {
					t.Fatal(from, to, last, ok)
				}
			}
		}
	}
	for _, n := range []int{math.MinInt, math.MaxInt, 1 << 20} {
		if len(h.Way(n, 0)) != 0 || len(h.Way(50, n)) != 0 || len(h.Way(n, n)) != 0 {
			t.Error(n)
		}
	}
}

// P24.3: Snaps are the directory's own: what goes, and what is built, is seen in the gauge, and in no record.
func TestSnaps(t *testing.T) {
	p := params(6, 60)
	d := fresh(t, 400)
	h := open(t, d, p, "s")
	m := newModel(t, p, "s")
	gauge := func(snapshots, built int) {
		t.Helper()
		same(t, h, m)
		if g := h.Gauge(); g.Snapshots != snapshots || g.Built != built {
			t.Fatal(g)
		}
	}
	for i := range 30 {
		publish(t, h, m, batch(fmt.Sprint(i), string(rune('a'+i%5))))
		gauge(i+2, 0)
	}
	kept := len(tiers.Kept(30))
	if h.Snaps().Evict() != 31-kept {
		t.Fatal(h.Snaps().Kept())
	}
	gauge(kept, 0)
	for epoch, r := range m.records {
		root, errno := h.Snaps().Root(epoch)
		if a := h.Snaps().Arena(); errno != api.OK || !bytes.Equal(a.Hash(root), r.Tree) || len(ptree.Items(a, root)) != min(5, epoch) {
			t.Fatal(epoch, errno)
		}
	}
	gauge(kept, 1)
	for i := range 5 {
		publish(t, h, m, batch("new", fmt.Sprint(i)))
	}
	gauge(kept+5, 1)
	if h.Snaps().Drop() != 1 {
		t.Fatal("dropped")
	}
	gauge(kept+5, 0)
	sameSigned(t, h, m)
	h = open(t, d, p, "s")
	gauge(36, 0)
	sameSigned(t, h, m)
}

// P24.5: whoever is handed the trees may grow them by hand, or sweep their nodes: the records stay what they are.
func TestTreesByHand(t *testing.T) {
	meddle := map[string]func(h *History){
		"grown":             func(h *History) { h.Snaps().Grow(batch("x", "zz")) },
		"grown to the last": func(h *History) { grownFull(h) },
		"swept":             func(h *History) { h.Snaps().Arena().Sweep(nil) },
		"both": func(h *History) {
			h.Snaps().Arena().Sweep(nil)
			h.Snaps().Grow(batch("x", "zz"))
		},
	}
	for name, by := range meddle {
		p := params(4, 40)
		d := fresh(t, 200)
		h := open(t, d, p, "s")
		m := newModel(t, p, "s")
		for i := range 9 {
			publish(t, h, m, batch(fmt.Sprint(i), "a", string(rune('b'+i%3))))
			if i%3 == 1 {
				by(h)
			}
		}
		same(t, h, m)
		sameSigned(t, h, m)
		sameSigned(t, open(t, d, p, "s"), m)
		for epoch, r := range m.records {
			if root, errno := h.Snaps().Root(epoch); errno != api.OK || !bytes.Equal(h.Snaps().Arena().Hash(root), r.Tree) {
				t.Fatal(name, epoch, errno)
			}
		}
	}
}

// grownFull grows the trees of a directory till they take no more.
func grownFull(h *History) {
	for {
		if _, errno := h.Snaps().Grow(batch("x", "zz")); errno != api.OK {
			return
		}
	}
}

// P24.4: the device stops at each change of a publishing, and any of its sectors stay.
func TestCrash(t *testing.T) {
	p := params(3, 20)
	d := fresh(t, 40)
	h := open(t, d, p, "s")
	before, behind := newModel(t, p, "s"), newModel(t, p, "s")
	for i, l := range [][]api.Binding{batch("1", "a"), batch("2", "a", "bb", "c"), batch("3", "c")} {
		want(t, "Tick", h.Tick(10*i), api.OK)
		before.clock, behind.clock = 10*i, 10*i
		publish(t, h, before, l)
		behind.add(l)
	}
	going := batch("2345", "b", "aa", "cc", "dd", "ee", "ff", "gg")
	behind.clock = 25
	behind.add(going)
	came, told := 0, false
	for n := 0; !told; n++ {
		c := d.Copy()
		g := open(t, c, p, "s")
		want(t, "Tick", g.Tick(25), api.OK)
		want(t, "Fuse", c.Fuse(n), api.OK)
		_, errno := g.Publish(going)
		told = errno == api.OK
		if told != (g.Epoch() == 4) || told == g.Stopped() {
			t.Fatal(n, errno, g.Epoch())
		}
		waits := len(c.Waits())
		for k := range 1 << waits {
			again := c.Copy()
			keep := make([]byte, waits)
			for i := range keep {
				keep[i] = byte(k >> i & 1)
			}
			want(t, "Crash", again.Crash(keep), api.OK)
			f, m := open(t, again, p, "s"), before
			if told || f.Epoch() == 4 {
				came++
				m = behind
			}
			same(t, f, m)
			sameSigned(t, f, m)
			if e, errno := f.Publish(batch("9", "z")); e != len(m.records) || errno != api.OK {
				t.Fatal("behind a crash:", e, errno)
			}
		}
	}
	if came != 2 {
		t.Fatal("of all ways of stopping the epoch is there in", came)
	}
}

// P24.4, P24.5: a long life of requests, evicting, crashes, held against the model; what was ever signed of an epoch stays.
func TestLife(t *testing.T) {
	for seed := range 12 {
		r := rand.New(rand.NewSource(int64(seed)))
		p := tight(api.Params{Size: 1 + r.Intn(12), Height: 3 + r.Intn(3), MaxID: 1, MaxKey: 2, Changes: 60, Cache: r.Intn(3), Page: 1})
		d := fresh(t, 300)
		m := newModel(t, p, "s")
		told := map[int]string{}
		h := open(t, d, p, "s")
		for range 80 {
			step(t, h, m, d, r)
			if h.Stopped() || r.Intn(12) == 0 {
				h = reopened(t, d, m, r)
			}
			same(t, h, m)
			epoch := r.Intn(len(m.records))
			s, errno := h.Signed(epoch)
			if was, ok := told[epoch]; errno != api.OK || ok && was != spoken(s) {
				t.Fatal("epoch", epoch, "is signed otherwise")
			}
			told[epoch] = spoken(s)
		}
		sameSigned(t, h, m)
	}
}

// step does something to a directory and its model; where the device stops, the model has the epoch on its way last.
func step(t *testing.T, h *History, m *model, d *device.Device, r *rand.Rand) {
	t.Helper()
	switch r.Intn(6) {
	case 0:
		h.Snaps().Evict()
	case 1:
		h.Snaps().Root(r.Intn(h.Epoch() + 1))
	case 2:
		m.clock = max(m.clock, r.Intn(50))
		want(t, "Tick", h.Tick(m.clock), api.OK)
	default:
		var l []api.Binding
		for range r.Intn(4) {
			l = append(l, api.Binding{ID: []byte{byte('a' + r.Intn(8))}, Key: make([]byte, r.Intn(3))})
		}
		want(t, "Fuse", d.Fuse(r.Intn(40)), api.OK)
		got, errno := h.Publish(l)
		if errno == api.ErrDead {
			m.batches = append(m.batches, l)
			return
		}
		if expect, code := m.publish(l); got != expect || errno != code {
			t.Fatal(got, errno, expect, code)
		}
	}
}

// reopened is a directory behind a crash; the model has the epoch on its way, if the directory does.
func reopened(t *testing.T, d *device.Device, m *model, r *rand.Rand) *History {
	t.Helper()
	keep := make([]byte, len(d.Waits()))
	for i := range keep {
		keep[i] = byte(r.Intn(2))
	}
	want(t, "Crash", d.Crash(keep), api.OK)
	h := open(t, d, m.p, "s")
	if len(m.batches) > len(m.records) {
		going := m.batches[len(m.records)]
		m.batches = m.batches[:len(m.records)]
		if h.Epoch() == len(m.records) {
			m.add(going)
		}
	}
	m.clock = m.records[len(m.records)-1].Time
	return h
}

// The greatest directory: all epochs and changes, in the sectors that admit says hold all.
func TestGreatest(t *testing.T) {
	p := tight(api.Params{Size: 32, Height: 8, MaxID: 24, MaxKey: 48, Changes: 4096, Cache: 3, Page: 32})
	d := fresh(t, admit.Sectors(p))
	h := open(t, d, p, "s")
	for e := 1; e < 256; e++ {
		var l []api.Binding
		// Sixteen changes an epoch, and one more in the first sixteen: all that there may be.
		for i := range 16 + max(0, min(1, 17-e)) {
			sum := sha256.Sum256([]byte{byte(e), byte(i)})
			l = append(l, api.Binding{ID: sum[:24], Key: bytes.Repeat(sum[:16], 3)})
		}
		if n, errno := h.Publish(l); n != e || errno != api.OK {
			t.Fatal(e, n, errno)
		}
		if e%16 == 0 {
			h.Snaps().Evict()
		}
	}
	if _, errno := h.Publish(batch("k", "a")); errno != api.ErrQuota || h.Changes() != 4096 {
		t.Fatal(errno, h.Changes())
	}
	g := open(t, d, p, "s")
	for _, epoch := range []int{0, 1, 128, 200, 255} {
		one, _ := h.Signed(epoch)
		other, errno := g.Signed(epoch)
		if errno != api.OK || spoken(one) != spoken(other) || !record.Check(32, 8, h.Public(), one) {
			t.Fatal(epoch, errno)
		}
	}
}

// The rule 'Objects': ErrNil ahead of all else; 0, none, nil, true.
func TestNoHistory(t *testing.T) {
	for _, h := range []*History{nil, {}, new(History)} {
		for _, l := range [][]api.Binding{nil, batch("k", "a"), batch("k", "a", "a")} {
			if n, errno := h.Publish(l); n != 0 || errno != api.ErrNil {
				t.Error(n, errno)
			}
		}
		for _, n := range []int{0, -1, 1, math.MaxInt, math.MinInt} {
			want(t, "Tick", h.Tick(n), api.ErrNil)
			if s, errno := h.Signed(n); errno != api.ErrNil || !reflect.DeepEqual(s, api.Signed{}) {
				t.Error(s, errno)
			}
			if len(h.Batch(n)) != 0 || len(h.Way(n, 0)) != 0 {
				t.Error(h.Batch(n), h.Way(n, 0))
			}
		}
		if h.Epoch() != 0 || h.Changes() != 0 || h.Now() != 0 || h.Params() != (api.Params{}) || len(h.Public()) != 0 || len(h.Times()) != 0 ||
			h.Snaps() != nil || h.Gauge() != (api.Gauge{}) || !h.Stopped() {
			t.Error("not zero")
		}
	}
}

// scribble writes over lists, their spare room too.
func scribble(lists ...[]byte) {
	for _, b := range lists {
		b = b[:cap(b)]
		for i := range b {
			b[i] = 0xee
		}
	}
}

// scribbleRecord writes over all that a record has.
func scribbleRecord(r api.Record) {
	scribble(r.Tree, r.List)
	scribble(r.Links...)
	clear(r.Links[:cap(r.Links)])
}

// The rule 'Memory': what is handed in is neither changed nor kept, and answers share nothing.
func TestMemory(t *testing.T) {
	p := params(4, 40)
	d := fresh(t, 200)
	seed := append(make([]byte, 0, 8), 's', 9)
	h, errno := Open(d, p, seed[:1])
	want(t, "Open", errno, api.OK)
	if seed[1] != 9 {
		t.Fatal("Open changes what it is given")
	}
	scribble(seed)
	m := newModel(t, p, "s")
	for i := range 8 {
		id, key := []byte{byte('a' + i), '.'}, []byte{'k', '.'}
		l := []api.Binding{{ID: id[:1], Key: key[:1]}, {ID: []byte("x")}}
		publish(t, h, m, l[:1])
		if string(id[1:]) != "." || string(key) != "k." || string(l[1].ID) != "x" {
			t.Fatal("Publish changes what it is given")
		}
		m.batches[i+1] = batch("k", string(id[:1]))
		scribble(id, key)
		clear(l)
	}
	for range 2 {
		for epoch := range m.records {
			first, _ := h.Signed(epoch)
			other, _ := h.Signed(epoch)
			list, second := h.Batch(epoch), h.Batch(epoch)
			scribbleRecord(first.Record)
			scribble(slices.Concat(first.Signature.Chains, first.Signature.Path)...)
			clear(first.Signature.Chains)
			clear(first.Signature.Path)
			for i := range list {
				scribble(list[i].ID, list[i].Key)
			}
			clear(list[:cap(list)])
			if spoken(other) != spoken(m.signed(t, epoch)) || spoken(second) != spoken(m.batches[epoch]) {
				t.Fatal("two answers share memory")
			}
			way := h.Way(8, epoch)
			for i := range way {
				scribbleRecord(way[i])
			}
			clear(way[:cap(way)])
		}
		scribble(h.Public())
		clear(h.Times())
		same(t, h, m)
		sameSigned(t, h, m)
		h = open(t, d, p, "s")
	}
}
