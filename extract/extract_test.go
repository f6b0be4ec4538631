package extract

import (
	"bytes"
	"math"
	"math/rand"
	"slices"
	"testing"

	"annals/api"
	"annals/bits"
	"annals/mts"
	"annals/record"
	"annals/span"
	"annals/tell"
)

// tags is how often a couple of texts with a tag was the first one that was unlike.
type tags [api.TagTree + 1]int

// P29.1, P29.2, P29.3, P28.4: of replies that are taken, the directory's own one among them, each two whose answers part have the first two texts that are unlike, with one hash; the others have none.
func TestLies(t *testing.T) {
	for _, x := range []struct {
		kind, rounds int
		tags         []int
	}{
		{api.AskAsof, 4, []int{api.TagNode, api.TagLeaf}}, {api.AskInterval, 4, []int{api.TagNode, api.TagLeaf}},
		{api.AskWhen, 4, []int{api.TagRecord, api.TagNode, api.TagLeaf}}, {api.AskVersions, 4, []int{api.TagRecord, api.TagNode, api.TagLeaf}},
		{api.AskDiff, 8, []int{api.TagNode, api.TagLeaf}}, {api.AskFeed, 8, []int{api.TagRecord, api.TagPair, api.TagChange}},
	} {
		r := rand.New(rand.NewSource(int64(x.kind)))
		alike := 0
		var met tags
		for range x.rounds {
			l := liar{many(t, r, 1), r}
			for range 8 {
				alike += l.heldRight(l.drawnAsk(r, x.kind), &met)
			}
		}
		for _, tag := range x.tags {
			if met[tag] < 20 || alike < 100 {
				t.Error("few were held against each other:", x.kind, met, alike)
			}
		}
	}
}

// heldRight has Pair tell what the chapter says of replies to one request: it counts with which tags they part, and tells how often they do not.
func (l liar) heldRight(a api.Ask, met *tags) int {
	l.t.Helper()
	own := l.reply(a)
	if told(own.Answer) != told(l.m.Do(a)) {
		l.t.Fatal(a, own.Answer)
	}
	replies := []api.Reply{own}
	for range 5 {
		replies = append(replies, l.lie(a))
	}
	alike := 0
	for _, one := range replies {
		l.taken(a, one)
		for _, other := range replies {
			if told(one.Answer) == told(other.Answer) {
				first, second, found := l.pair(a, one, other)
				isNone(l.t, "answers that do not part", first, second, found)
				alike++
				continue
			}
			met[l.parted(a, one, other)]++
		}
	}
	return alike
}

// parted has Pair tell of two replies that part what the chapter says: the tag of the first two texts that are unlike.
func (d *directory) parted(a api.Ask, one, other api.Reply) int {
	d.t.Helper()
	want, unlike := unlikeOf(couples(d.p.Size, a, d.record(a.To), one, other))
	if !unlike || !bytes.Equal(hashed(d.p.Size, want.one), hashed(d.p.Size, want.other)) {
		d.t.Fatalf("%+v: nothing unlike with one hash:\n%+v\n%+v", a, one, other)
	}
	first, second, found := d.pair(a, one, other)
	if !found || !bytes.Equal(first, want.one) || !bytes.Equal(second, want.other) {
		d.t.Errorf("%+v: %x, %x, %v, not %x", a, first, second, found, want)
	}
	return int(want.one[0])
}

// taken has a reply be taken.
func (d *directory) taken(a api.Ask, r api.Reply) {
	d.t.Helper()
	got, errno := d.check(a, r)
	if errno != api.OK || told(got) != told(r.Answer) {
		d.t.Fatalf("%+v is not taken: %v\n%+v", a, errno, r)
	}
}

// P29.1: a response and itself, whatever the size of digests.
func TestItself(t *testing.T) {
	for _, size := range []int{1, 4, 32} {
		d, r := five(t, size), rand.New(rand.NewSource(int64(size)))
		for i := range 60 {
			a := d.drawnAsk(r, kinds()[i%6])
			one, other := d.reply(a), d.reply(a)
			first, second, found := d.pair(a, one, other)
			isNone(t, told(a), first, second, found)
		}
	}
}

// meeting is a number of which the text has that hash.
func meeting(t *testing.T, hash []byte, text func(n int) []byte) int {
	t.Helper()
	for n := range 1 << 20 {
		if bytes.Equal(hashed(len(hash), text(n)), hash) {
			return n
		}
	}
	t.Fatal("none meets")
	return 0
}

// two is a number's last two bytes.
func two(n int) []byte { return []byte{byte(n >> 8), byte(n)} }

// otherKey is a leaf with another key, and the same hash.
func otherKey(t *testing.T, size int, p api.Part) api.Part {
	t.Helper()
	hash := hashed(size, partText(size, p))
	n := meeting(t, hash, func(n int) []byte {
		p.Key = two(n)
		return partText(size, p)
	})
	p.Key = two(n)
	return p
}

// is has Pair tell two texts.
func (d *directory) is(what string, a api.Ask, one, other api.Reply, first, second []byte) {
	d.t.Helper()
	d.taken(a, one)
	d.taken(a, other)
	x, y, found := d.pair(a, one, other)
	if !found || !bytes.Equal(x, first) || !bytes.Equal(y, second) || bytes.Equal(x, y) || !bytes.Equal(hashed(d.p.Size, x), hashed(d.p.Size, y)) {
		d.t.Errorf("%s: %x, %x, %v, not %x, %x", what, x, y, found, first, second)
	}
	y, x, found = d.pair(a, other, one)
	if !found || !bytes.Equal(x, first) || !bytes.Equal(y, second) {
		d.t.Errorf("%s, the other way round: %x, %x, %v, not %x, %x", what, y, x, found, second, first)
	}
}

// The leaf at the end of a way is another one; digests of two bytes, too, meet.
func TestWay(t *testing.T) {
	for size := 1; size <= 2; size++ {
		d := five(t, size)
		for _, a := range []api.Ask{{Kind: api.AskAsof, ID: []byte("a"), To: 5}, {Kind: api.AskInterval, ID: []byte("a"), From: 3, To: 5}, {Kind: api.AskWhen, ID: []byte("a"), To: 5, Time: 60}} {
			own := d.reply(a)
			lie := d.reply(a)
			end := otherKey(t, size, own.Proof.Way.End)
			lie.Answer.Key, lie.Proof.Way.End = end.Key, end
			d.is(told(a), a, own, lie, partText(size, own.Proof.Way.End), partText(size, end))
		}
	}
}

// Where there is nothing, a leaf is shown: the root's own text is another one.
func TestWayInNothing(t *testing.T) {
	d := opened(t, 1)
	a := api.Ask{Kind: api.AskAsof, ID: []byte("a")}
	leaf := api.Part{Kind: api.EndLeaf, ID: []byte("a")}
	n := meeting(t, hashed(1, []byte{0}), func(n int) []byte {
		leaf.Key = two(n)
		return partText(1, leaf)
	})
	leaf.Key = two(n)
	lie := api.Reply{Answer: api.Answer{Present: true, Key: leaf.Key}, Proof: api.Proof{Way: api.Path{End: leaf}}}
	d.is("nothing", a, d.reply(a), lie, []byte{0}, partText(1, leaf))
}

// A diff's tree: the left one ahead of the right one, and nothing below a fork that one of the two has closed.
func TestTree(t *testing.T) {
	d := five(t, 1)
	whole := liar{d, nil}.whole(5)
	// The fork of a, and of b and c, stands left of that of d and e.
	changed := func(ids string) api.Part {
		tree := cloned(whole)
		for _, p := range parts(&tree) {
			if p.Kind == api.EndLeaf && bytes.Contains([]byte(ids), p.ID) {
				*p = otherKey(t, 1, *p)
			}
		}
		return tree
	}
	leaf := func(tree api.Part, id string) []byte {
		for _, p := range parts(&tree) {
			if p.Kind == api.EndLeaf && string(p.ID) == id {
				return partText(1, *p)
			}
		}
		return nil
	}
	shows := func(a api.Ask, tree api.Part) api.Reply {
		items, more, errno := span.List(1, tree, a.From, a.Some, a.ID, a.Limit)
		ok(t, errno)
		return api.Reply{Answer: api.Answer{Items: items, More: more}, Proof: api.Proof{Tree: tree}}
	}
	all, last := api.Ask{Kind: api.AskDiff, To: 5, Limit: 4}, api.Ask{Kind: api.AskDiff, From: 4, To: 5, Limit: 4}
	for _, x := range []struct {
		one, other, id string
	}{{"", "a", "a"}, {"", "b", "b"}, {"", "da", "a"}, {"", "dc", "c"}, {"a", "ad", "d"}, {"ab", "cb", "a"}, {"bd", "b", "d"}} {
		one, other := changed(x.one), changed(x.other)
		d.is(told(x), all, shows(all, one), shows(all, other), leaf(one, x.id), leaf(other, x.id))
	}
	// Of the last epoch a alone is shown: b to e stand in forks that the directory leaves closed.
	own := d.reply(last)
	if span.Count(own.Proof.Tree) != 5 || span.Count(whole) != 9 {
		t.Fatal(own)
	}
	for _, ids := range []string{"a", "ab", "ad", "abcde"} {
		lie := changed(ids)
		d.is("closed: "+ids, last, own, shows(last, lie), leaf(whole, "a"), leaf(lie, "a"))
	}
	first, second, found := d.pair(last, own, shows(last, changed("bcde")))
	isNone(t, "the answers do not part", first, second, found)
}

// A page's lists: of the epoch with three changes from the second one on, and of the next epoch, which has one.
func TestLists(t *testing.T) {
	d := five(t, 1)
	a := api.Ask{Kind: api.AskFeed, To: 5, Epoch: 4, Index: 1, Limit: 3}
	own := d.reply(a)
	texts := func(r api.Reply) [][]byte {
		leaves := [][]byte{r.Proof.Lists[0][0]}
		var changes [][]byte
		for _, e := range r.Answer.Events {
			changes = append(changes, spelled(3, e.ID, e.Key))
			leaves = append(leaves, hashed(1, changes[len(changes)-1]))
		}
		// d, which stands outside, and b are left of e: the greatest power of 2 below 3 is 2.
		left := spelled(4, leaves[0], leaves[1])
		return [][]byte{spelled(4, hashed(1, left), leaves[2]), left, changes[0], changes[1], changes[2]}
	}
	lie := func(changed ...int) api.Reply {
		r := d.reply(a)
		for _, i := range changed {
			e := &r.Answer.Events[i]
			hash := hashed(1, spelled(3, e.ID, e.Key))
			n := meeting(t, hash, func(n int) []byte { return spelled(3, e.ID, two(n)) })
			e.Key = two(n)
		}
		return r
	}
	for _, x := range []struct{ changed, first int }{{0, 2}, {1, 3}, {2, 4}} {
		d.is("a change", a, own, lie(x.changed), texts(own)[x.first], texts(lie(x.changed))[x.first])
		d.is("and the last one", a, own, lie(x.changed, 2), texts(own)[x.first], texts(lie(x.changed, 2))[x.first])
	}
	// The left part's text is another one, with the same hash: so is what stands outside, and the first change.
	r := lie(1, 2)
	hash := hashed(1, texts(own)[1])
	n := meeting(t, hash, func(n int) []byte {
		r.Proof.Lists[0][0], r.Answer.Events[0].Key = []byte{byte(n)}, two(n)
		return texts(r)[1]
	})
	r.Proof.Lists[0][0], r.Answer.Events[0].Key = []byte{byte(n)}, two(n)
	d.is("a part", a, own, r, texts(own)[1], texts(r)[1])
	// The root's is, and so are what stands outside, and both other changes.
	r = lie(2)
	hash = hashed(1, texts(own)[0])
	spoil := func(n int) []byte {
		r.Proof.Lists[0][0], r.Answer.Events[1].Key = []byte{byte(n >> 8)}, two(n)
		return texts(r)[0]
	}
	n = meeting(t, hash, func(n int) []byte {
		if text := spoil(n); !bytes.Equal(text, texts(own)[0]) {
			return text
		}
		return nil
	})
	spoil(n)
	d.is("the root", a, own, r, texts(own)[0], texts(r)[0])
}

// The looks of an identity's versions: each one's records ahead of its way, and a look ahead of the next one.
func TestVersions(t *testing.T) {
	d := five(t, 1)
	a := api.Ask{Kind: api.AskVersions, ID: []byte("a"), To: 5, Limit: 4}
	own := d.reply(a)
	if len(own.Proof.Seen) != 3 || len(own.Proof.Seen[1]) != 1 {
		t.Fatal(own)
	}
	way := func(r api.Reply, look int) api.Reply {
		end := otherKey(t, 1, r.Proof.Ways[look].End)
		r.Proof.Ways = slices.Clone(r.Proof.Ways)
		r.Answer.Items = slices.Clone(r.Answer.Items)
		r.Proof.Ways[look].End, r.Answer.Items[look].Key = end, end.Key
		return r
	}
	seen := func(r api.Reply) api.Reply {
		x := r.Proof.Seen[1][0]
		x.Time++
		x.Time += meeting(t, hashed(1, recordText(r.Proof.Seen[1][0])), func(n int) []byte {
			y := x
			y.Time += n
			return recordText(y)
		})
		r.Proof.Seen = slices.Clone(r.Proof.Seen)
		r.Proof.Seen[1] = []api.Record{x}
		return r
	}
	leaf := func(r api.Reply, look int) []byte { return partText(1, r.Proof.Ways[look].End) }
	for look := range 3 {
		d.is("a way", a, own, way(own, look), leaf(own, look), leaf(way(own, look), look))
	}
	first := way(seen(own), 0)
	d.is("a way ahead of a record", a, own, first, leaf(own, 0), leaf(first, 0))
	second := way(seen(own), 1)
	d.is("a record ahead of its way", a, own, second, recordText(own.Proof.Seen[1][0]), recordText(second.Proof.Seen[1][0]))
	third := way(seen(own), 2)
	d.is("a record ahead of a later way", a, own, third, recordText(own.Proof.Seen[1][0]), recordText(third.Proof.Seen[1][0]))
	x, y, found := d.pair(a, own, seen(own))
	isNone(t, "the answers do not part", x, y, found)
}

// Of a time's reply all looks come ahead of the way.
func TestWhen(t *testing.T) {
	d := five(t, 1)
	a := api.Ask{Kind: api.AskWhen, ID: []byte("a"), To: 5, Time: 60}
	own, lie := d.reply(a), d.reply(a)
	end := otherKey(t, 1, own.Proof.Way.End)
	lie.Proof.Way.End, lie.Answer.Key = end, end.Key
	// On the way to epoch 0 epoch 4 is the first one, and of the second look, too.
	x := &lie.Proof.Seen[0][0]
	want := recordText(*x)
	x.List = []byte{x.List[0] + 1}
	x.Time = meeting(t, hashed(1, want), func(n int) []byte {
		y := *x
		y.Time = n
		return recordText(y)
	})
	d.is("looks ahead", a, own, lie, want, recordText(*x))
}

// P29.1: one that is not taken, whichever it is, has no pair with any.
func TestNotTaken(t *testing.T) {
	d := five(t, 1)
	a := api.Ask{Kind: api.AskAsof, ID: []byte("a"), To: 5}
	own, lie := d.reply(a), d.reply(a)
	end := otherKey(t, 1, own.Proof.Way.End)
	lie.Answer.Key, lie.Proof.Way.End = end.Key, end
	d.is("both are taken", a, own, lie, partText(1, own.Proof.Way.End), partText(1, end))
	one, other := tell.Encode(1, a.Kind, own), tell.Encode(1, a.Kind, lie)
	none := func(what string, p api.Params, public, ask []byte, roots [][]byte, one, other []byte) {
		t.Helper()
		for _, x := range [][2][]byte{{one, other}, {other, one}} {
			first, second, found := Pair(p, public, ask, roots, x[0], x[1])
			isNone(t, what, first, second, found)
		}
	}
	ask, roots, public := d.written(a), d.heads(a), d.s.Public()
	said := lie
	said.Answer.Key = []byte("other")
	shown := own
	shown.Proof.Way.End.Key = []byte("other")
	for what, b := range map[string][]byte{
		"no bytes": nil, "a byte less": other[:len(other)-1], "a byte more": append(bytes.Clone(other), 0), "an error": {1, 2, 1, 83},
		"another answer than is shown": tell.Encode(1, a.Kind, said), "another leaf": tell.Encode(1, a.Kind, shown),
		"an earlier epoch's": d.s.Do(d.written(api.Ask{Kind: api.AskAsof, ID: []byte("a"), To: 3})),
		"another kind's":     d.s.Do(d.written(api.Ask{Kind: api.AskInterval, ID: []byte("a"), To: 5})),
	} {
		none(what, d.p, public, ask, roots, one, b)
		none(what+", twice", d.p, public, ask, roots, b, b)
	}
	none("another key", d.p, []byte{public[0] + 1}, ask, roots, one, other)
	none("no key", d.p, nil, ask, roots, one, other)
	none("no root", d.p, public, ask, nil, one, other)
	none("a root more", d.p, public, ask, [][]byte{roots[0], roots[0]}, one, other)
	none("another root", d.p, public, ask, d.heads(api.Ask{Kind: api.AskAsof, To: 4}), one, other)
	none("no request", d.p, public, nil, roots, one, other)
	none("another request", d.p, public, d.written(api.Ask{Kind: api.AskAsof, ID: []byte("b"), To: 5}), roots, one, other)
	p := d.p
	p.MaxID = 0
	none("a longer identity", p, public, ask, roots, one, other)
	p = d.p
	p.Size = 2
	none("another size", p, public, ask, roots, one, other)
	publish := d.written(api.Ask{Kind: api.AskPublish, Batch: []api.Binding{{ID: []byte("a")}}})
	none("what is not shown", d.p, public, publish, nil, []byte{1, 3, 0, 1, 6}, []byte{1, 3, 0, 1, 7})
}

// P29.1: two that show the same in unlike ways have no pair, be there texts with one hash or not.
func TestAnswersAlike(t *testing.T) {
	for _, size := range []int{1, 32} {
		d := five(t, size)
		a := api.Ask{Kind: api.AskDiff, From: 4, To: 5, Limit: 4}
		own, open := d.reply(a), d.reply(a)
		open.Proof.Tree = liar{d, nil}.whole(5)
		for _, x := range [][2]api.Reply{{own, open}, {open, own}} {
			d.taken(a, x[1])
			first, second, found := d.pair(a, x[0], x[1])
			isNone(t, "open forks", first, second, found)
		}
	}
}

// signed is the record of epoch 0 with any tree, signed, and the key.
func signed(t *testing.T, p api.Params, tree []byte) ([]byte, []byte) {
	t.Helper()
	keys, errno := mts.New(p.Size, nil, p.Height)
	ok(t, errno)
	r := api.Record{Tree: tree, List: make([]byte, p.Size)}
	signature, errno := keys.Sign(0, record.Hash(p.Size, r))
	ok(t, errno)
	b, errno := record.Seal(p.Size, api.Signed{Record: r, Signature: signature})
	ok(t, errno)
	return keys.Public(), b
}

// chain is a leaf below so many open forks, each with a closed one beside it.
func chain(leaf api.Part, forks int) api.Part {
	p, key := leaf, bits.Key(leaf.ID)
	for depth := forks - 1; depth >= 0; depth-- {
		prefix := bits.First(key, depth+1)
		prefix[depth/8] ^= 128 >> (depth % 8)
		beside := api.Part{Kind: api.EndClosed, Depth: depth + 1, Prefix: prefix, Left: []byte{1}, Right: []byte{2}}
		kids := []api.Part{p, beside}
		if bits.Bit(key, depth) == 1 {
			kids = []api.Part{beside, p}
		}
		p = api.Part{Kind: api.EndOpen, Depth: depth, Prefix: bits.First(key, depth), Newest: leaf.Since, Kids: kids}
	}
	return p
}

// A tree as deep as it may be, and what is unlike at its end.
func TestDeep(t *testing.T) {
	leaf := api.Part{Kind: api.EndLeaf, ID: bytes.Repeat([]byte{0x5a}, 255), Key: []byte("k"), Since: 1}
	other := otherKey(t, 1, leaf)
	p := api.Params{Size: 1, Page: 1}
	d := directory{t: t, p: p}
	request := d.written(api.Ask{Kind: api.AskDiff, Limit: 1})
	var replies [][]byte
	for _, leaf := range []api.Part{leaf, other} {
		r := api.Reply{Answer: api.Answer{Items: []api.Item{{ID: leaf.ID, Key: leaf.Key, Since: 1}}}}
		r.Proof.Tree = chain(leaf, 2047)
		replies = append(replies, tell.Encode(1, api.AskDiff, r))
	}
	public, root := signed(t, p, span.Hash(1, chain(leaf, 2047)))
	first, second, found := Pair(p, public, request, [][]byte{root, root}, replies[0], replies[1])
	if !found || !bytes.Equal(first, partText(1, leaf)) || !bytes.Equal(second, partText(1, other)) {
		t.Errorf("%x, %x, %v", first, second, found)
	}
}

// What is handed in is neither changed nor kept, and the two texts share nothing with it, nor with each other.
func TestMemory(t *testing.T) {
	r := rand.New(rand.NewSource(3))
	for _, kind := range kinds() {
		l := liar{five(t, 1), r}
		a := l.drawnAsk(r, kind)
		one, other := l.reply(a), l.lie(a)
		for told(one.Answer) == told(other.Answer) {
			a = l.drawnAsk(r, kind)
			one, other = l.reply(a), l.lie(a)
		}
		args := append([][]byte{l.s.Public(), l.written(a), tell.Encode(1, kind, one), tell.Encode(1, kind, other)}, l.heads(a)...)
		var kept [][]byte
		for i, b := range args {
			kept = append(kept, bytes.Clone(b))
			args[i] = append(make([]byte, 0, len(b)+3), b...)
		}
		first, second, found := Pair(l.p, args[0], args[1], args[4:], args[2], args[3])
		if !found {
			t.Fatal(kind)
		}
		was := [2][]byte{bytes.Clone(first), bytes.Clone(second)}
		for i, b := range args {
			if !bytes.Equal(b, kept[i]) || !bytes.Equal(b[len(b):cap(b)], make([]byte, cap(b)-len(b))) {
				t.Error(kind, "argument", i, "was changed")
			}
			scribble(b)
		}
		if !bytes.Equal(first, was[0]) || !bytes.Equal(second, was[1]) {
			t.Error(kind, "a text shares memory with an argument")
		}
		scribble(first)
		if !bytes.Equal(second, was[1]) {
			t.Error(kind, "the texts share memory")
		}
	}
}

// scribble writes over a list, its spare room too.
func scribble(b []byte) {
	b = b[:cap(b)]
	for i := range b {
		b[i] ^= 0xff
	}
}

// Whatever bytes and numbers there are, it ends, and there is no pair.
func TestWhatever(t *testing.T) {
	d, r := five(t, 1), rand.New(rand.NewSource(9))
	numbers := []int{math.MinInt, -1, 0, 1, 4, 8, 32, 33, 1 << 31, math.MaxInt}
	draw := func() int { return numbers[r.Intn(len(numbers))] }
	noise := func() []byte { return drawnBytes(r, r.Intn(60)) }
	first, second, found := Pair(api.Params{}, nil, nil, nil, nil, nil)
	isNone(t, "nothing", first, second, found)
	for i := range 2000 {
		a := d.drawnAsk(r, kinds()[i%6])
		own := tell.Encode(1, a.Kind, d.reply(a))
		p := api.Params{Size: draw(), Height: draw(), MaxID: draw(), MaxKey: draw(), Changes: draw(), Arena: draw(), Cache: draw(), Page: draw()}
		first, second, found = Pair(p, noise(), noise(), [][]byte{noise(), nil}, noise(), noise())
		isNone(t, "noise", first, second, found)
		first, second, found = Pair(p, d.s.Public(), d.written(a), d.heads(a), own, noise())
		isNone(t, "noise as a reply", first, second, found)
		spoiled := bytes.Clone(own)
		spoiled[r.Intn(len(spoiled))] = byte(r.Intn(256))
		first, second, found = Pair(d.p, d.s.Public(), d.written(a), d.heads(a), own, spoiled)
		if found && (bytes.Equal(first, second) || !bytes.Equal(hashed(1, first), hashed(1, second))) || !found && len(first)+len(second) > 0 {
			t.Errorf("%+v: %x, %x", a, first, second)
		}
	}
}
