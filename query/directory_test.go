package query

import (
	"fmt"
	"math/rand"
	"testing"

	"annals/admit"
	"annals/api"
	"annals/arena"
	"annals/device"
	"annals/feed"
	"annals/history"
	"annals/ideal"
	"annals/path"
	"annals/ptree"
	"annals/seek"
	"annals/skip"
	"annals/snaps"
	"annals/span"
)

// directory is a directory, and what it is held against: the map, all trees in an arena that is never swept, the records, and trees that are asked for as the document says.
type directory struct {
	t       *testing.T
	p       api.Params
	h       *history.History
	m       *ideal.Map
	nodes   *arena.Arena
	roots   []int
	records []api.Record
	trees   *snaps.Snaps
}

// tight is parameters with an arena of just what the others need.
func tight(p api.Params) api.Params {
	p.Arena = admit.Need(p)
	return p
}

// small is parameters of few epochs and changes.
func small() api.Params {
	return tight(api.Params{Size: 4, Height: 5, MaxID: 2, MaxKey: 4, Changes: 120, Cache: 2, Page: 4})
}

func opened(t *testing.T, p api.Params) *directory {
	t.Helper()
	disk, errno := device.New(admit.Sectors(p))
	ok(t, errno)
	h, errno := history.Open(disk, p, []byte("seed"))
	ok(t, errno)
	m, errno := ideal.New(p)
	ok(t, errno)
	nodes, errno := arena.New(p.Size, api.MaxArena)
	ok(t, errno)
	trees, errno := snaps.New(p)
	ok(t, errno)
	d := &directory{t: t, p: p, h: h, m: m, nodes: nodes, trees: trees}
	d.grown(-1, nil)
	return d
}

func ok(t *testing.T, errno api.Errno) {
	t.Helper()
	if errno != api.OK {
		t.Fatal(errno)
	}
}

// grown has the tree and the record of a new epoch.
func (d *directory) grown(root int, l []api.Binding) {
	d.t.Helper()
	epoch := len(d.roots)
	for _, b := range l {
		var errno api.Errno
		root, errno = ptree.Insert(d.nodes, root, b.ID, b.Key, epoch)
		ok(d.t, errno)
	}
	d.roots = append(d.roots, root)
	s, errno := d.h.Signed(epoch)
	ok(d.t, errno)
	d.records = append(d.records, s.Record)
}

// run does a request of the directory, and holds the reply, and the trees behind it, against what the document says.
func (d *directory) run(a api.Ask) api.Reply {
	d.t.Helper()
	got := Run(d.h, a)
	want := d.reply(a)
	if told(got) != told(want) {
		d.t.Fatalf("%+v:\n%v\nnot\n%v", a, got, want)
	}
	if d.h.Epoch() != d.m.Epoch() || d.h.Now() != d.m.Now() || d.h.Changes() != d.m.Changes() {
		d.t.Fatalf("%+v: epoch %d, now %d", a, d.h.Epoch(), d.h.Now())
	}
	for _, l := range [][2][]int{{d.h.Snaps().Kept(), d.trees.Kept()}, {d.h.Snaps().Built(), d.trees.Built()}} {
		if told(l[0]) != told(l[1]) {
			d.t.Fatalf("%+v: trees %v, not %v", a, l[0], l[1])
		}
	}
	return got
}

// told is a thing as text, in which an empty list is none.
func told(x any) string { return fmt.Sprintf("%+v", x) }

// reply is what the document says of a request.
func (d *directory) reply(a api.Ask) api.Reply {
	r := api.Reply{Answer: d.m.Do(a)}
	if r.Answer.Code != api.OK {
		return r
	}
	switch a.Kind {
	case api.AskPublish:
		_, errno := d.trees.Grow(a.Batch)
		ok(d.t, errno)
		d.grown(d.roots[len(d.roots)-1], a.Batch)
	case api.AskEvict:
		d.trees.Evict()
	case api.AskDrop:
		d.trees.Drop()
	case api.AskAsof, api.AskInterval:
		r.Proof.Way = d.way(a.ID, a.To)
	case api.AskWhen:
		r.Proof.Way = d.way(a.ID, r.Answer.Epoch)
		var times []int
		for epoch := range a.To + 1 {
			times = append(times, d.m.Time(epoch))
		}
		for _, epoch := range seek.Probes(times, a.Time) {
			r.Proof.Seen = append(r.Proof.Seen, d.along(a.To, epoch))
		}
	case api.AskDiff:
		d.trees.Root(a.To)
		r.Proof.Tree = span.Prove(d.nodes, d.roots[a.To], a.From, a.Some, a.ID, a.Limit)
	case api.AskFeed:
		r.Proof = d.page(a, r.Answer.Events)
	case api.AskVersions:
		r.Proof = d.looks(a)
	}
	return r
}

// way is the way of an identity in the tree of an epoch, which is asked for.
func (d *directory) way(id []byte, epoch int) api.Path {
	d.trees.Root(epoch)
	return path.Prove(d.nodes, d.roots[epoch], id)
}

// along is the records on the way from an epoch to another one.
func (d *directory) along(from, to int) []api.Record {
	var l []api.Record
	for _, epoch := range skip.Way(from, to) {
		l = append(l, d.records[epoch])
	}
	return l
}

func (d *directory) page(a api.Ask, l []api.Event) api.Proof {
	var p api.Proof
	if a.From == a.To {
		return p
	}
	var batches [][]api.Binding
	for epoch := a.Epoch; epoch <= a.To; epoch++ {
		batches = append(batches, d.m.Batch(epoch))
	}
	p.Lists = feed.Prove(d.p.Size, batches, a.Index, a.Limit)
	last := 0
	for _, e := range l {
		if e.Epoch != last {
			p.Seen = append(p.Seen, d.along(a.To, e.Epoch))
		}
		last = e.Epoch
	}
	return p
}

func (d *directory) looks(a api.Ask) api.Proof {
	var p api.Proof
	at := a.To
	for at > a.From {
		p.Seen = append(p.Seen, d.along(a.To, at))
		p.Ways = append(p.Ways, d.way(a.ID, at))
		x := d.m.Do(api.Ask{Kind: api.AskAsof, ID: a.ID, To: at})
		if !x.Present || x.Since <= a.From || len(p.Ways) == a.Limit+1 {
			break
		}
		at = x.Since - 1
	}
	return p
}

// publish makes an epoch of identities that all have one key, a time behind the last one.
func (d *directory) publish(key string, ids ...string) {
	d.t.Helper()
	d.run(api.Ask{Kind: api.AskTick, Time: d.m.Now() + 10})
	if r := d.run(api.Ask{Kind: api.AskPublish, Batch: batch(key, ids...)}); r.Answer.Code != api.OK {
		d.t.Fatal(r.Answer)
	}
}

func batch(key string, ids ...string) []api.Binding {
	var l []api.Binding
	for _, id := range ids {
		l = append(l, api.Binding{ID: []byte(id), Key: []byte(key)})
	}
	return l
}

// five is a directory of five epochs, at the times 10 to 50.
func five(t *testing.T) *directory {
	t.Helper()
	d := opened(t, small())
	for i, ids := range [][]string{{"a", "b"}, {"c"}, {"a"}, {"d", "b", "e"}, {"a"}} {
		d.publish(string(rune('1'+i)), ids...)
	}
	return d
}

// drawn is one of few identities, of unlike lengths, the empty one among them.
func drawn(r *rand.Rand) []byte {
	ids := [...]string{"", "a", "b", "c", "aa", "ab", "ba", "\x00", "\x00\x00", "\xff", "z"}
	return []byte(ids[r.Intn(len(ids))])
}

// drawnBatch is a batch that may be, but for a few.
func drawnBatch(r *rand.Rand) []api.Binding {
	var l []api.Binding
	for range r.Intn(6) {
		key := make([]byte, r.Intn(5))
		r.Read(key)
		l = append(l, api.Binding{ID: drawn(r), Key: key})
	}
	return l
}

// drawnAsk is a request of whatever kind, mostly one that may be.
func (d *directory) drawnAsk(r *rand.Rand) api.Ask {
	last := d.m.Epoch()
	a := api.Ask{Kind: r.Intn(12), ID: drawn(r), To: r.Intn(last + 1), Limit: 1 + r.Intn(d.p.Page)}
	a.From = r.Intn(a.To + 1)
	a.Time = d.m.Now() - 20 + r.Intn(30)
	if a.Kind == api.AskWhen {
		a.Time = r.Intn(d.m.Now()+20) - 3
	}
	a.Some = r.Intn(2) == 0
	a.Epoch = a.From + 1
	if a.To > a.From {
		a.Epoch += r.Intn(a.To - a.From)
		a.Index = r.Intn(len(d.m.Batch(a.Epoch)))
	}
	a.Batch = drawnBatch(r)
	if r.Intn(8) == 0 {
		spoil(r, &a)
	}
	return a
}

// spoil puts something into a request that may not be in it.
func spoil(r *rand.Rand, a *api.Ask) {
	numbers := [...]*int{&a.From, &a.To, &a.Time, &a.Epoch, &a.Index, &a.Limit}
	*numbers[r.Intn(len(numbers))] = r.Intn(60) - 10
	if r.Intn(4) == 0 {
		a.ID = []byte("long")
	}
}
