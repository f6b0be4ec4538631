package extract

import (
	"bytes"
	"math/rand"
	"slices"

	"annals/api"
	"annals/arena"
	"annals/bits"
	"annals/change"
	"annals/merkle"
	"annals/path"
	"annals/ptree"
	"annals/record"
	"annals/sha"
	"annals/skip"
	"annals/span"
)

// liar answers what the directory did not, and shows it: where digests are short, texts that meet are found by trying.
type liar struct {
	*directory
	r *rand.Rand
}

// tries is after how many ones that don't meet a liar gives up.
const tries = 1 << 17

// until tries until it is found.
func (l liar) until(found func() bool) {
	l.t.Helper()
	for range tries {
		if found() {
			return
		}
	}
	l.t.Fatal("nothing meets")
}

// lies tells whether to lie.
func (l liar) lies() bool { return l.r.Intn(5) < 2 }

// time is one that may be told: early ones come as often as late ones.
func (l liar) time() int { return l.r.Intn(1 << (1 + l.r.Intn(12))) }

// truth is the ask's honest way at an epoch.
func (l liar) truth(id []byte, epoch int) api.Path {
	return l.reply(api.Ask{Kind: api.AskAsof, ID: id, To: epoch}).Proof.Way
}

// end is where a way of an identity behind hops might end.
func (l liar) end(id []byte, hops []api.Hop) api.Part {
	shown := 0
	if len(hops) > 0 {
		shown = hops[len(hops)-1].Depth + 1
	}
	switch key := bits.Key(id); l.r.Intn(5) {
	case 0:
		depth := min(shown+1+l.r.Intn(8), 8*len(key))
		key[(depth-1)/8] ^= 128 >> ((depth - 1) % 8)
		return api.Part{
			Kind: api.EndClosed, Depth: depth, Prefix: bits.First(key, depth), Newest: l.r.Intn(9),
			Left: drawnBytes(l.r, l.p.Size), Right: drawnBytes(l.r, l.p.Size),
		}
	case 1:
		return api.Part{Kind: api.EndLeaf, ID: []byte(ids()[l.r.Intn(10)]), Key: drawnBytes(l.r, 2), Since: l.r.Intn(9)}
	}
	return api.Part{Kind: api.EndLeaf, ID: id, Key: drawnBytes(l.r, 2), Since: l.r.Intn(9)}
}

// way is a way of an identity under a root's hash that shows whatever.
func (l liar) way(id, root []byte, like api.Path) api.Path {
	l.t.Helper()
	var p api.Path
	l.until(func() bool {
		p = api.Path{Hops: slices.Clone(like.Hops[:l.r.Intn(len(like.Hops)+1)])}
		if n := len(p.Hops); n > 0 && l.r.Intn(3) == 0 {
			h := &p.Hops[l.r.Intn(n)]
			h.Newest, h.Sibling = l.r.Intn(9), drawnBytes(l.r, l.p.Size)
		}
		p.End = l.end(id, p.Hops)
		list := path.Texts(l.p.Size, id, p)
		return len(list) > 0 && bytes.Equal(sha.Cut(l.p.Size, list[0]), root)
	})
	return p
}

// planted is a tree of one identity and its way.
func (l liar) planted(id []byte, since int) ([]byte, api.Path) {
	l.t.Helper()
	nodes, errno := arena.New(l.p.Size, 10)
	ok(l.t, errno)
	root := -1
	for _, x := range []string{string(id), "p", "q"}[l.r.Intn(2):] {
		root, errno = ptree.Insert(nodes, root, []byte(x), drawnBytes(l.r, 2), since)
		ok(l.t, errno)
	}
	return nodes.Hash(root), path.Prove(nodes, root, id)
}

// link has a record link to another one.
func (l liar) link(from *api.Record, to api.Record) {
	from.Links = slices.Clone(from.Links)
	from.Links[slices.Index(skip.Links(from.Epoch), to.Epoch)] = record.Hash(l.p.Size, to)
}

// along is the records on the way from an epoch to an earlier one, the last of which is what edit makes of it: one of them meets the record that there is.
func (l liar) along(from, to int, edit func(*api.Record)) []api.Record {
	l.t.Helper()
	var way []api.Record
	for _, epoch := range skip.Way(from, to) {
		way = append(way, l.record(epoch))
	}
	// Those behind the one that meets are free.
	meets := l.r.Intn(len(way))
	for i := len(way) - 1; i >= meets; i-- {
		hash := record.Hash(l.p.Size, way[i])
		l.until(func() bool {
			way[i].Time = l.time()
			if i == len(way)-1 {
				edit(&way[i])
			} else {
				l.link(&way[i], way[i+1])
			}
			return i > meets || bytes.Equal(record.Hash(l.p.Size, way[i]), hash)
		})
	}
	return way
}

// honest is the records on the way from an epoch to an earlier one.
func (l liar) honest(from, to int) []api.Record {
	var way []api.Record
	for _, epoch := range skip.Way(from, to) {
		way = append(way, l.record(epoch))
	}
	return way
}

// look is what an epoch's record and the identity's way in its tree might be; of the epoch To the record is the head.
func (l liar) look(a api.Ask, epoch int) ([]api.Record, api.Record, api.Path) {
	l.t.Helper()
	way, r := l.honest(a.To, epoch), l.record(epoch)
	shown := l.truth(a.ID, epoch)
	if epoch < a.To && l.lies() {
		var tree []byte
		tree, shown = l.planted(a.ID, l.r.Intn(epoch+2))
		way = l.along(a.To, epoch, func(r *api.Record) { r.Tree = tree })
		r = way[len(way)-1]
	}
	if l.lies() {
		shown = l.way(a.ID, r.Tree, shown)
	}
	return way, r, shown
}

// state is what a way shows of an identity.
func state(id []byte, p api.Path) (api.Item, bool) {
	if p.End.Kind != api.EndLeaf || !bytes.Equal(p.End.ID, id) {
		return api.Item{}, false
	}
	return api.Item{ID: id, Key: p.End.Key, Since: p.End.Since}, true
}

// stated is a reply with a way, and what that shows.
func (l liar) stated(a api.Ask, p api.Path) api.Reply {
	var r api.Reply
	item, present := state(a.ID, p)
	r.Answer.Present, r.Answer.Key, r.Answer.Since = present, item.Key, item.Since
	r.Answer.Same = a.Kind == api.AskInterval && !(present && item.Since > a.From)
	r.Proof.Way = p
	return r
}

// when lies of the looks, and of the way.
func (l liar) when(a api.Ask) api.Reply {
	l.t.Helper()
	var seen [][]api.Record
	found, shown := l.record(a.To), l.truth(a.ID, a.To)
	fits := func(epoch int) bool {
		way, r, p := l.look(a, epoch)
		seen = append(seen, way)
		if r.Time <= a.Time {
			found, shown = r, p
		}
		return r.Time <= a.Time
	}
	l.until(func() bool {
		seen = nil
		if !fits(0) {
			return false
		}
		for low, high := 0, a.To; low < high; {
			if middle := (low + high + 1) / 2; fits(middle) {
				low = middle
			} else {
				high = middle - 1
			}
		}
		return true
	})
	r := l.stated(a, shown)
	r.Answer.Epoch, r.Proof.Seen = found.Epoch, seen
	return r
}

// versions lies of the looks.
func (l liar) versions(a api.Ask) api.Reply {
	l.t.Helper()
	var r api.Reply
	l.until(func() bool {
		r = api.Reply{}
		for epoch := a.To; epoch > a.From; {
			way, _, shown := l.look(a, epoch)
			r.Proof.Seen, r.Proof.Ways = append(r.Proof.Seen, way), append(r.Proof.Ways, shown)
			item, present := state(a.ID, shown)
			if !present || item.Since <= a.From {
				break
			}
			if len(r.Answer.Items) == a.Limit {
				r.Answer.More = true
				break
			}
			if item.Since > epoch {
				return false
			}
			r.Answer.Items = append(r.Answer.Items, item)
			epoch = item.Since - 1
		}
		return true
	})
	return r
}

// batch is a cut of an epoch's changes that leads to a record's list, and what shows it.
func (l liar) batch(r api.Record, batch []api.Binding, from, to int) ([]api.Event, [][]byte) {
	l.t.Helper()
	size := l.p.Size
	truth := merkle.Range(size, change.Leaves(size, batch), from, to)
	events, inside := make([]api.Event, to-from), make([][]byte, to-from)
	var outside [][]byte
	lie := l.lies()
	l.until(func() bool {
		changes := -1
		if lie {
			changes = l.r.Intn(len(events))
		}
		for i := range events {
			b := batch[from+i]
			if i == changes || lie && l.r.Intn(4) == 0 {
				b = api.Binding{ID: drawnBytes(l.r, 1), Key: drawnBytes(l.r, 2)}
			}
			events[i] = api.Event{Epoch: r.Epoch, Index: from + i, ID: b.ID, Key: b.Key}
			inside[i] = change.Leaf(size, b)
		}
		outside = slices.Clone(truth)
		for i := range outside {
			if lie && l.r.Intn(8) == 0 {
				outside[i] = drawnBytes(l.r, size)
			}
		}
		root, errno := merkle.Fold(size, r.Count, from, inside, outside)
		return errno == api.OK && bytes.Equal(root, r.List)
	})
	return events, outside
}

// drawnBatch is a batch of one's own.
func (l liar) drawnBatch() []api.Binding {
	var batch []api.Binding
	for range 1 + l.r.Intn(6) {
		batch = append(batch, api.Binding{ID: drawnBytes(l.r, 1), Key: drawnBytes(l.r, 2)})
	}
	return batch
}

// page lies of the epochs' lists, and of their changes.
func (l liar) page(a api.Ask) api.Reply {
	l.t.Helper()
	var r api.Reply
	if a.From == a.To {
		return r
	}
	from, left := a.Index, a.Limit
	for epoch := a.Epoch; epoch <= a.To && left > 0; epoch++ {
		way, of, batch := l.honest(a.To, epoch), l.record(epoch), l.m.Batch(epoch)
		if epoch < a.To && l.lies() {
			for batch = nil; len(batch) <= from; {
				batch = append(batch, l.drawnBatch()...)
			}
			way = l.along(a.To, epoch, func(r *api.Record) { r.Count, r.List = len(batch), change.List(l.p.Size, batch) })
			of = way[len(way)-1]
		}
		n := min(left, of.Count-from)
		events, outside := l.batch(of, batch, from, from+n)
		r.Answer.Events = append(r.Answer.Events, events...)
		r.Proof.Seen, r.Proof.Lists = append(r.Proof.Seen, way), append(r.Proof.Lists, outside)
		r.Answer.More, r.Answer.Epoch, r.Answer.Since = true, epoch, from+n
		if from+n == of.Count {
			r.Answer.Epoch, r.Answer.Since = epoch+1, 0
		}
		from, left = 0, left-n
	}
	if r.Answer.Epoch > a.To {
		r.Answer.More, r.Answer.Epoch = false, 0
	}
	return r
}

// cloned is a part with kids of its own.
func cloned(p api.Part) api.Part {
	p.Kids = slices.Clone(p.Kids)
	for i := range p.Kids {
		p.Kids[i] = cloned(p.Kids[i])
	}
	return p
}

// parts is a part and all that stand in it.
func parts(p *api.Part) []*api.Part {
	l := []*api.Part{p}
	for i := range p.Kids {
		l = append(l, parts(&p.Kids[i])...)
	}
	return l
}

// newest is that of a part, all forks above leaves put right.
func newest(p *api.Part) int {
	switch p.Kind {
	case api.EndLeaf:
		return p.Since
	case api.EndOpen:
		p.Newest = max(newest(&p.Kids[0]), newest(&p.Kids[1]))
	}
	return p.Newest
}

// spoiled is a tree with one of its parts otherwise: what a leaf has, what a fork does not show, or what it no longer shows.
func (l liar) spoiled(tree api.Part) api.Part {
	tree = cloned(tree)
	all := parts(&tree)
	switch p := all[l.r.Intn(len(all))]; p.Kind {
	case api.EndEmpty:
		*p = api.Part{Kind: api.EndLeaf, ID: []byte(ids()[l.r.Intn(10)]), Key: drawnBytes(l.r, 2), Since: l.r.Intn(9)}
	case api.EndLeaf:
		p.Key, p.Since = drawnBytes(l.r, 2), l.r.Intn(9)
	case api.EndClosed:
		p.Newest, p.Left, p.Right = l.r.Intn(9), drawnBytes(l.r, l.p.Size), drawnBytes(l.r, l.p.Size)
	case api.EndOpen:
		left, right := span.Hash(l.p.Size, p.Kids[0]), span.Hash(l.p.Size, p.Kids[1])
		p.Kind, p.Kids, p.Left, p.Right = api.EndClosed, nil, left, right
	}
	newest(&tree)
	return tree
}

// whole is the tree of an epoch, all forks open.
func (l liar) whole(epoch int) api.Part {
	l.t.Helper()
	nodes, errno := arena.New(l.p.Size, 10000)
	ok(l.t, errno)
	root := -1
	for at := range epoch + 1 {
		for _, b := range l.m.Batch(at) {
			root, errno = ptree.Insert(nodes, root, b.ID, b.Key, at)
			ok(l.t, errno)
		}
	}
	return span.Prove(nodes, root, 0, false, nil, 100)
}

// diff lies of the tree: spoiled again and again, it shows a page, under the head's hash.
func (l liar) diff(a api.Ask) api.Reply {
	l.t.Helper()
	head := l.record(a.To).Tree
	tree := l.whole(a.To)
	var r api.Reply
	wants := 1 + l.r.Intn(3)
	l.until(func() bool {
		next := l.spoiled(tree)
		if !bytes.Equal(span.Hash(l.p.Size, next), head) {
			return false
		}
		tree = next
		items, more, errno := span.List(l.p.Size, tree, a.From, a.Some, a.ID, a.Limit)
		wants--
		if errno != api.OK {
			// It shows too little: from the beginning.
			tree = l.whole(a.To)
			return false
		}
		r = api.Reply{Answer: api.Answer{Items: items, More: more}, Proof: api.Proof{Tree: tree}}
		return wants <= 0
	})
	return r
}

// lie is a reply to a request that is taken, whatever it tells.
func (l liar) lie(a api.Ask) api.Reply {
	l.t.Helper()
	switch a.Kind {
	case api.AskWhen:
		return l.when(a)
	case api.AskDiff:
		return l.diff(a)
	case api.AskFeed:
		return l.page(a)
	case api.AskVersions:
		return l.versions(a)
	}
	return l.stated(a, l.way(a.ID, l.record(a.To).Tree, l.truth(a.ID, a.To)))
}
