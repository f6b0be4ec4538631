package verify

import (
	"bytes"
	"math"
	"math/rand"
	"reflect"
	"slices"
	"testing"

	"annals/api"
	"annals/feed"
	"annals/history"
	"annals/mts"
	"annals/path"
	"annals/query"
	"annals/record"
	"annals/tell"
)

// P28.3, P27.4: what a directory answers with OK is taken, whatever the size of its digests, and shows the map's answer.
func TestTaken(t *testing.T) {
	for _, size := range []int{1, 2, 5, 16, 32} {
		r := rand.New(rand.NewSource(int64(size)))
		d := many(t, r, size, 12)
		for i := range 600 {
			a := d.drawnAsk(r, kinds()[i%6])
			if i%50 == 0 {
				query.Run(d.h, api.Ask{Kind: api.AskEvict})
			}
			want := d.m.Do(a)
			ok(t, want.Code)
			if got, errno := d.check(a, d.response(a)); errno != api.OK || told(got) != told(want) {
				t.Fatalf("size %d: %+v: %v, %v, not %v", size, a, got, errno, want)
			}
		}
	}
}

// Of a new directory, and of ranges without epochs.
func TestTakenOfNothing(t *testing.T) {
	d := opened(t, small(4))
	for _, kind := range kinds() {
		a := d.drawnAsk(rand.New(rand.NewSource(1)), kind)
		d.taken("nothing", a, query.Run(d.h, a))
	}
	d = five(t, 4)
	for epoch := range 6 {
		for _, a := range []api.Ask{
			{Kind: api.AskInterval, ID: []byte("a"), From: epoch, To: epoch}, {Kind: api.AskDiff, From: epoch, To: epoch, Limit: 1},
			{Kind: api.AskFeed, From: epoch, To: epoch, Epoch: epoch + 1, Limit: 1}, {Kind: api.AskVersions, ID: []byte("a"), From: epoch, To: epoch, Limit: 1},
		} {
			d.taken("a range without epochs", a, query.Run(d.h, a))
		}
	}
}

// Behind a crash the responses are the same, and are taken with the records that were signed ahead of it.
func TestTakenBehindCrash(t *testing.T) {
	r := rand.New(rand.NewSource(11))
	d := many(t, r, 8, 12)
	d.disk.Fuse(r.Intn(2))
	lost := api.Ask{Kind: api.AskPublish, Batch: []api.Binding{{ID: []byte("a")}}}
	if reply := query.Run(d.h, lost); reply.Answer.Code != api.ErrDead {
		t.Fatal(reply)
	}
	var asks []api.Ask
	var responses [][]byte
	for i := range 120 {
		asks = append(asks, d.drawnAsk(r, kinds()[i%6]))
		responses = append(responses, d.response(asks[i]))
	}
	ok(t, d.disk.Crash(nil))
	h, errno := history.Open(d.disk, d.p, []byte("seed"))
	ok(t, errno)
	d.h = h
	for i, a := range asks {
		if !bytes.Equal(d.response(a), responses[i]) {
			t.Errorf("%+v is answered otherwise", a)
		}
		d.taken("behind a crash", a, query.Run(d.h, a))
	}
}

// P28.1: the heads are the records of just the epochs that are named, in order.
func TestHeads(t *testing.T) {
	d := five(t, 4)
	for _, kind := range kinds() {
		for from := range 6 {
			for to := range 6 {
				a := api.Ask{Kind: kind, From: from, To: to}
				got, errno := Heads(d.p, d.h.Public(), a, d.heads(a))
				var want []api.Record
				for _, epoch := range []int{from, to} {
					s, _ := d.h.Signed(epoch)
					want = append(want, s.Record)
				}
				if kind == api.AskAsof || kind == api.AskWhen {
					want = want[1:]
				}
				if errno != api.OK || told(got) != told(want) {
					t.Errorf("%+v: %v, %v", a, got, errno)
				}
			}
		}
	}
}

// P28.1: all that are no heads.
func TestNoHeads(t *testing.T) {
	d := five(t, 4)
	r := d.roots
	one, two := api.Ask{Kind: api.AskAsof, To: 3}, api.Ask{Kind: api.AskDiff, From: 1, To: 3}
	spoiled := bytes.Clone(r[3])
	spoiled[len(spoiled)-1]++
	for _, x := range []struct {
		what  string
		ask   api.Ask
		roots [][]byte
	}{
		{"none", one, nil}, {"none of two", two, nil}, {"one of two", two, [][]byte{r[3]}}, {"the first of two", two, [][]byte{r[1]}}, {"one more", one, [][]byte{r[3], r[3]}},
		{"one more behind two", two, [][]byte{r[1], r[3], r[3]}}, {"another epoch", one, [][]byte{r[2]}}, {"swapped", two, [][]byte{r[3], r[1]}}, {"one twice", two, [][]byte{r[3], r[3]}},
		{"another first one", two, [][]byte{r[2], r[3]}}, {"another signature", one, [][]byte{spoiled}}, {"another first signature", two, [][]byte{spoiled, r[3]}}, {"no bytes", one, [][]byte{nil}},
		{"a byte more", one, [][]byte{append(bytes.Clone(r[3]), 0)}}, {"a byte less", one, [][]byte{r[3][:len(r[3])-1]}}, {"below 0", api.Ask{Kind: api.AskAsof, To: -1}, [][]byte{r[0]}},
		{"an epoch that there is not", api.Ask{Kind: api.AskAsof, To: 6}, [][]byte{r[5]}}, {"a huge epoch", api.Ask{Kind: api.AskAsof, To: math.MaxInt}, [][]byte{r[5]}},
	} {
		if got, errno := Heads(d.p, d.h.Public(), x.ask, x.roots); errno != api.ErrProof || len(got) > 0 {
			t.Errorf("%s: %v, %v", x.what, got, errno)
		}
	}
	for _, kind := range []int{api.AskPublish, api.AskTick, api.AskEvict, api.AskDrop, 0, 11, -1, math.MaxInt, math.MinInt} {
		for _, roots := range [][][]byte{nil, {r[0]}, {r[0], r[0]}} {
			if got, errno := Heads(d.p, d.h.Public(), api.Ask{Kind: kind}, roots); errno != api.ErrProof || len(got) > 0 {
				t.Errorf("kind %d, which is not shown: %v, %v", kind, got, errno)
			}
		}
	}
}

// P28.1: no other key, and no other parameters.
func TestOtherKey(t *testing.T) {
	d, other := five(t, 4), signing(t, small(4))
	a := api.Ask{Kind: api.AskAsof, To: 3}
	for _, public := range [][]byte{nil, other.keys.Public(), d.h.Public()[:3], append(d.h.Public(), 0)} {
		if got, errno := Heads(d.p, public, a, d.heads(a)); errno != api.ErrProof || len(got) > 0 {
			t.Errorf("key %x: %v, %v", public, got, errno)
		}
	}
	for _, p := range []api.Params{{}, {Size: 4}, {Size: 4, Height: 3}, {Size: 4, Height: 5}, {Size: 3, Height: 4}, {Size: 5, Height: 4}, {Size: -1, Height: 4}, {Size: math.MaxInt, Height: math.MaxInt}, {Size: 4, Height: -1}} {
		if got, errno := Heads(p, d.h.Public(), a, d.heads(a)); errno != api.ErrProof || len(got) > 0 {
			t.Errorf("%+v: %v, %v", p, got, errno)
		}
	}
	// The signature's number is the epoch.
	s, _ := d.h.Signed(3)
	keys, _ := mts.New(d.p.Size, []byte("seed"), d.p.Height)
	s.Signature, _ = keys.Sign(2, record.Hash(d.p.Size, s.Record))
	b, errno := record.Seal(d.p.Size, s)
	ok(t, errno)
	if got, errno := Heads(d.p, d.h.Public(), a, [][]byte{b}); errno != api.ErrProof {
		t.Error("signed by another epoch's key:", got, errno)
	}
}

// P28.2: bytes that are no request, or one that is not shown.
func TestAsks(t *testing.T) {
	d := five(t, 4)
	a := api.Ask{Kind: api.AskAsof, ID: []byte("a"), To: 3}
	b, response := written(t, a), d.response(a)
	for _, spoiled := range [][]byte{nil, b[:len(b)-1], append(bytes.Clone(b), 0), {1, 11}, {1, 0}} {
		got, errno := Check(d.p, d.h.Public(), spoiled, d.heads(a), response)
		isRefused(t, "no request", got, errno)
	}
	for _, a := range []api.Ask{{Kind: api.AskPublish, Batch: []api.Binding{{ID: []byte("a")}}}, {Kind: api.AskTick, Time: 3}, {Kind: api.AskEvict}, {Kind: api.AskDrop}} {
		for _, roots := range [][][]byte{nil, {d.roots[0]}, {d.roots[0], d.roots[0]}} {
			for _, response := range [][]byte{{1, 1, 0}, {1, 3, 0, 1, 6}, d.response(a)} {
				got, errno := Check(d.p, d.h.Public(), written(t, a), roots, response)
				isRefused(t, "not shown", got, errno)
			}
		}
	}
}

// P28.2: an identity, a limit beyond the parameters: what is shown is right, but for these.
func TestBeyondParams(t *testing.T) {
	d := five(t, 4)
	for _, a := range []api.Ask{
		{Kind: api.AskAsof, ID: []byte("zz"), To: 3}, {Kind: api.AskWhen, ID: []byte("zz"), To: 3}, {Kind: api.AskInterval, ID: []byte("zz"), To: 3},
		{Kind: api.AskDiff, Some: true, ID: []byte("zz"), To: 3, Limit: 2}, {Kind: api.AskVersions, ID: []byte("zz"), To: 3, Limit: 2}, {Kind: api.AskFeed, To: 3, Epoch: 1, Limit: 2},
	} {
		b, response := written(t, a), d.response(a)
		for maxID := range 4 {
			for page := range 4 {
				p := d.p
				p.MaxID, p.Page = maxID, page
				got, errno := Check(p, d.h.Public(), b, d.heads(a), response)
				if maxID >= len(a.ID) && page >= a.Limit {
					if errno != api.OK {
						t.Errorf("%+v, %+v: %v", a, p, errno)
					}
					continue
				}
				isRefused(t, told(a)+told(p), got, errno)
			}
		}
	}
}

// P28.2: a limit of 0, though what is shown would be right.
func TestNoLimit(t *testing.T) {
	d := five(t, 4)
	tree := query.Run(d.h, api.Ask{Kind: api.AskDiff, From: 5, To: 5, Limit: 1}).Proof.Tree
	d.refused("no limit", api.Ask{Kind: api.AskDiff, From: 1, To: 5}, api.Reply{Answer: api.Answer{More: true}, Proof: api.Proof{Tree: tree}})
	look := query.Run(d.h, api.Ask{Kind: api.AskVersions, ID: []byte("a"), From: 1, To: 5, Limit: 1}).Proof
	look.Seen, look.Ways = look.Seen[:1], look.Ways[:1]
	d.refused("no limit", api.Ask{Kind: api.AskVersions, ID: []byte("a"), From: 1, To: 5}, api.Reply{Answer: api.Answer{More: true}, Proof: look})
	d.refused("no limit", api.Ask{Kind: api.AskVersions, ID: []byte("a"), From: 5, To: 5}, api.Reply{})
	d.refused("no limit", api.Ask{Kind: api.AskFeed, From: 5, To: 5, Epoch: 6}, api.Reply{})
}

// P28.2: a range whose end is ahead of its beginning, though what is shown would be right.
func TestRangeBackward(t *testing.T) {
	d := five(t, 4)
	way := query.Run(d.h, api.Ask{Kind: api.AskAsof, ID: []byte("a"), To: 2})
	way.Answer.Same = true
	d.refused("backward", api.Ask{Kind: api.AskInterval, ID: []byte("a"), From: 3, To: 2}, way)
	tree := query.Run(d.h, api.Ask{Kind: api.AskDiff, From: 2, To: 2, Limit: 1})
	d.refused("backward", api.Ask{Kind: api.AskDiff, From: 3, To: 2, Limit: 1}, tree)
	d.refused("backward", api.Ask{Kind: api.AskVersions, ID: []byte("a"), From: 3, To: 2, Limit: 1}, api.Reply{})
	d.refused("backward", api.Ask{Kind: api.AskFeed, From: 3, To: 2, Epoch: 4, Limit: 1}, api.Reply{})
}

// P28.2: roots that are not the request's heads.
func TestRoots(t *testing.T) {
	d := five(t, 4)
	for _, kind := range kinds() {
		a := d.drawnAsk(rand.New(rand.NewSource(7)), kind)
		a.To = 5
		b, response, heads := written(t, a), d.response(a), d.heads(a)
		d.taken("right", a, query.Run(d.h, a))
		for i := range heads {
			for at := range heads[i] {
				roots := d.heads(a)
				roots[i][at] ^= 1
				if got, errno := Check(d.p, d.h.Public(), b, roots, response); errno != api.ErrProof {
					t.Fatal(a, i, at, got, errno)
				}
			}
			for epoch, root := range d.roots {
				roots := d.heads(a)
				if bytes.Equal(root, roots[i]) {
					continue
				}
				roots[i] = root
				got, errno := Check(d.p, d.h.Public(), b, roots, response)
				isRefused(t, told([]any{a, epoch}), got, errno)
			}
		}
		for _, roots := range [][][]byte{nil, heads[1:], append(slices.Clone(heads), heads[0])} {
			got, errno := Check(d.p, d.h.Public(), b, roots, response)
			isRefused(t, "more or fewer", got, errno)
		}
	}
}

// P28.2: an answer whose Code is not OK shows nothing.
func TestCodes(t *testing.T) {
	d := five(t, 4)
	for _, kind := range kinds() {
		a := d.drawnAsk(rand.New(rand.NewSource(3)), kind)
		reply := query.Run(d.h, a)
		for _, code := range []api.Errno{api.ErrArg, api.ErrFuture, api.ErrEarly, api.ErrCursor, api.ErrProof, 255} {
			reply.Answer.Code = code
			d.refused("a code", a, reply)
			d.refused("a code alone", a, api.Reply{Answer: api.Answer{Code: code}})
		}
	}
}

// P28.2: bytes that are no reply, and replies with any byte changed.
func TestReplyBytes(t *testing.T) {
	d := five(t, 16)
	r := rand.New(rand.NewSource(4))
	for i := range 60 {
		a := d.drawnAsk(r, kinds()[i%6])
		b, response, heads := written(t, a), d.response(a), d.heads(a)
		refused := func(what string, response []byte) {
			t.Helper()
			got, errno := Check(d.p, d.h.Public(), b, heads, response)
			isRefused(t, what+told(a), got, errno)
		}
		refused("nothing", nil)
		refused("more", append(bytes.Clone(response), 0))
		refused("less", response[:r.Intn(len(response))])
		for at := 0; at < len(response); at += 1 + r.Intn(12) {
			spoiled := bytes.Clone(response)
			spoiled[at] ^= byte(1 << r.Intn(8))
			refused("a byte", spoiled)
		}
	}
}

// changed is an answer with each thing in it changed, one by one.
func changed(x api.Answer) []api.Answer {
	var l []api.Answer
	put := func(change func(*api.Answer)) {
		y := x
		y.Key, y.Items, y.Events = bytes.Clone(x.Key), slices.Clone(x.Items), slices.Clone(x.Events)
		change(&y)
		l = append(l, y)
	}
	for _, by := range []int{-1, 1, 4} {
		put(func(y *api.Answer) { y.Epoch += by })
		put(func(y *api.Answer) { y.Since += by })
	}
	put(func(y *api.Answer) { y.Present = !y.Present })
	put(func(y *api.Answer) { y.Present, y.Key, y.Since = !y.Present, nil, 0 })
	put(func(y *api.Answer) { y.Same = !y.Same })
	put(func(y *api.Answer) { y.More = !y.More })
	put(func(y *api.Answer) { y.More, y.Epoch, y.Since = !y.More, 0, 0 })
	put(func(y *api.Answer) { y.Key = append(y.Key, 'x') })
	put(func(y *api.Answer) { y.Key = []byte("x") })
	put(func(y *api.Answer) { y.Key = nil })
	put(func(y *api.Answer) { y.Items, y.Events = nil, nil })
	put(func(y *api.Answer) {
		y.Items, y.Events = append(y.Items, api.Item{ID: []byte("x"), Since: 1}), append(y.Events, api.Event{Epoch: 1})
	})
	for i := range x.Items {
		put(func(y *api.Answer) { y.Items = slices.Delete(y.Items, i, i+1) })
		put(func(y *api.Answer) { y.Items = slices.Insert(y.Items, i, y.Items[i]) })
		put(func(y *api.Answer) { y.Items[i], y.Items[0] = y.Items[0], y.Items[i] })
		put(func(y *api.Answer) { y.Items[i].Since++ })
		put(func(y *api.Answer) { y.Items[i].ID = []byte("x") })
		put(func(y *api.Answer) { y.Items[i].Key = []byte("x") })
	}
	for i := range x.Events {
		put(func(y *api.Answer) { y.Events = slices.Delete(y.Events, i, i+1) })
		put(func(y *api.Answer) { y.Events = slices.Insert(y.Events, i, y.Events[i]) })
		put(func(y *api.Answer) { y.Events[i], y.Events[0] = y.Events[0], y.Events[i] })
		put(func(y *api.Answer) { y.Events[i].Epoch++ })
		put(func(y *api.Answer) { y.Events[i].Index++ })
		put(func(y *api.Answer) { y.Events[i].ID = []byte("x") })
		put(func(y *api.Answer) { y.Events[i].Key = []byte("x") })
	}
	return l
}

// P28.2: the answer is just what is shown, field by field.
func TestChangedAnswers(t *testing.T) {
	r := rand.New(rand.NewSource(5))
	d := many(t, r, 8, 12)
	for i := range 300 {
		a := d.drawnAsk(r, kinds()[i%6])
		reply := query.Run(d.h, a)
		right := tell.Encode(d.p.Size, a.Kind, reply)
		for _, x := range changed(reply.Answer) {
			response := tell.Encode(d.p.Size, a.Kind, api.Reply{Answer: x, Proof: reply.Proof})
			if bytes.Equal(response, right) {
				continue
			}
			got, errno := d.check(a, response)
			isRefused(t, told(a)+told(x), got, errno)
		}
	}
}

// each is a list with one thing in it dropped, doubled, or laid at the beginning; and one that has an empty one more.
func each[T any](l []T) [][]T {
	var none T
	out := [][]T{nil, append(slices.Clone(l), none)}
	for i := range l {
		first := slices.Clone(l)
		first[0], first[i] = first[i], first[0]
		out = append(out, slices.Delete(slices.Clone(l), i, i+1), slices.Insert(slices.Clone(l), i, l[i]), first)
	}
	return out
}

// P28.2: what shows an answer is just that, no look, list or way more or fewer.
func TestChangedProofs(t *testing.T) {
	r := rand.New(rand.NewSource(6))
	d := many(t, r, 8, 12)
	tried := map[int]int{}
	for i := range 300 {
		a := d.drawnAsk(r, kinds()[i%6])
		reply := query.Run(d.h, a)
		right := tell.Encode(d.p.Size, a.Kind, reply)
		try := func(change func(*api.Proof)) {
			t.Helper()
			other := reply
			change(&other.Proof)
			if !bytes.Equal(tell.Encode(d.p.Size, a.Kind, other), right) {
				tried[a.Kind]++
				d.refused(told(other.Proof), a, other)
			}
		}
		for _, l := range each(reply.Proof.Seen) {
			try(func(p *api.Proof) { p.Seen = l })
		}
		for _, l := range each(reply.Proof.Ways) {
			try(func(p *api.Proof) { p.Ways = l })
		}
		for _, l := range each(reply.Proof.Lists) {
			try(func(p *api.Proof) { p.Lists = l })
		}
		for _, l := range each(reply.Proof.Way.Hops) {
			try(func(p *api.Proof) { p.Way.Hops = l })
		}
		for k := range reply.Proof.Seen {
			for _, l := range each(reply.Proof.Seen[k])[2:] {
				try(func(p *api.Proof) { p.Seen = slices.Clone(p.Seen); p.Seen[k] = l })
			}
		}
		try(func(p *api.Proof) { p.Way = api.Path{} })
		try(func(p *api.Proof) { p.Tree = api.Part{} })
		try(func(p *api.Proof) { *p = api.Proof{} })
	}
	for _, kind := range kinds() {
		if tried[kind] < 50 {
			t.Error("few were tried:", tried)
		}
	}
}

// P28.4: what was answered to another request is taken only if it is this one's answer, too.
func TestOthersReplies(t *testing.T) {
	r := rand.New(rand.NewSource(8))
	d := many(t, r, 8, 12)
	for _, kind := range kinds() {
		var asks []api.Ask
		var responses [][]byte
		for range 45 {
			a := d.drawnAsk(r, kind)
			asks = append(asks, a)
			responses = append(responses, d.response(a))
		}
		refusals := 0
		for _, a := range asks {
			want := told(d.m.Do(a))
			for k, response := range responses {
				got, errno := d.check(a, response)
				if errno == api.OK && told(got) != want {
					t.Fatalf("%+v by the reply to %+v: %v, not %s", a, asks[k], got, want)
				}
				if errno != api.OK {
					refusals++
				}
			}
		}
		if refusals == 0 {
			t.Error("none was refused:", kind)
		}
	}
}

// AskWhen: the record that is found counts, not the head.
func TestWhenUnderHead(t *testing.T) {
	d := five(t, 8)
	a := api.Ask{Kind: api.AskWhen, ID: []byte("a"), Time: 35, To: 5}
	reply := query.Run(d.h, a)
	d.taken("right", a, reply)
	late := query.Run(d.h, api.Ask{Kind: api.AskAsof, ID: []byte("a"), To: 5})
	reply.Proof.Way, reply.Answer.Key, reply.Answer.Since = late.Proof.Way, late.Answer.Key, late.Answer.Since
	d.refused("the way of the head", a, reply)
}

// AskWhen: no epoch is early enough.
func TestWhenEarly(t *testing.T) {
	s := signing(t, small(4))
	s.add(20, nil)
	s.add(30, nil)
	a := api.Ask{Kind: api.AskWhen, To: 1}
	reply := api.Reply{Proof: api.Proof{Seen: [][]api.Record{s.along(1, 0)}}}
	for _, x := range []struct {
		time  int
		errno api.Errno
	}{{19, api.ErrProof}, {0, api.ErrProof}, {20, api.OK}} {
		a.Time = x.time
		reply.Proof.Seen = reply.Proof.Seen[:1]
		if x.errno == api.OK {
			reply.Proof.Seen = append(reply.Proof.Seen, nil)
		}
		if got, errno := s.check(a, reply); errno != x.errno {
			t.Error(x, got, errno)
		}
	}
}

// AskFeed: what the cursor may be.
func TestFeedCursor(t *testing.T) {
	d := five(t, 8)
	// Of a range without epochs there is one cursor, and nothing to show.
	for _, x := range []struct {
		epoch, index int
		taken        bool
	}{{3, 0, true}, {2, 0, false}, {4, 0, false}, {0, 0, false}, {3, 1, false}} {
		a := api.Ask{Kind: api.AskFeed, From: 2, To: 2, Epoch: x.epoch, Index: x.index, Limit: 2}
		if x.taken {
			d.taken("the cursor", a, api.Reply{})
			continue
		}
		d.refused("no cursor", a, api.Reply{})
	}
	a := api.Ask{Kind: api.AskFeed, From: 2, To: 2, Epoch: 3, Limit: 2}
	page := query.Run(d.h, api.Ask{Kind: api.AskFeed, From: 1, To: 2, Epoch: 2, Limit: 2})
	d.refused("a page", a, page)
	d.refused("lists", a, api.Reply{Proof: api.Proof{Lists: [][][]byte{nil}}})
	d.refused("looks", a, api.Reply{Proof: api.Proof{Seen: [][]api.Record{nil}}})
	d.refused("events", a, api.Reply{Answer: page.Answer})
	// What is shown would be right, but the cursor is not of the range.
	from := api.Ask{Kind: api.AskFeed, From: 1, To: 4, Epoch: 2, Limit: 2}
	reply := query.Run(d.h, from)
	d.taken("the cursor", from, reply)
	for from.From = range 4 {
		if from.From > 1 {
			d.refused("a cursor ahead of the range", from, reply)
			d.refused("ahead of the range, nothing", from, api.Reply{})
		}
	}
	d.refused("a cursor behind the range", api.Ask{Kind: api.AskFeed, From: 1, To: 3, Epoch: 4, Limit: 2}, query.Run(d.h, api.Ask{Kind: api.AskFeed, From: 1, To: 4, Epoch: 4, Limit: 2}))
	d.refused("behind the range, nothing", api.Ask{Kind: api.AskFeed, From: 1, To: 3, Epoch: 4, Limit: 2}, api.Reply{})
}

// AskFeed: a page that ends too early, though each of its changes is shown.
func TestFeedTooShort(t *testing.T) {
	d := five(t, 8)
	a := api.Ask{Kind: api.AskFeed, From: 0, To: 5, Epoch: 1, Limit: 3}
	d.taken("whole", a, query.Run(d.h, a))
	for limit := 1; limit <= 2; limit++ {
		less := a
		less.Limit = limit
		d.refused("shorter", a, query.Run(d.h, less))
	}
	d.refused("no page at all", a, api.Reply{})
	d.refused("no page at all, more", a, api.Reply{Answer: api.Answer{More: true, Epoch: 1}})
	less := a
	less.To = 3
	short := query.Run(d.h, less)
	d.taken("to its end", less, short)
	// Up to the end of an epoch, but not of the last one.
	a.Limit = 4
	two := api.Ask{Kind: api.AskFeed, From: 0, To: 5, Epoch: 1, Limit: 3}
	reply := query.Run(d.h, two)
	if !reply.Answer.More || reply.Answer.Since != 0 {
		t.Fatal(reply.Answer)
	}
	d.refused("up to an epoch's end", a, reply)
	reply.Answer.More, reply.Answer.Epoch = false, 0
	d.refused("up to an epoch's end, and no more", a, reply)
}

// AskFeed: an epoch without changes ends the page, whoever signs it.
func TestFeedEmptyEpoch(t *testing.T) {
	s := signing(t, small(8))
	one := []api.Binding{{ID: []byte("a"), Key: []byte("k")}}
	s.add(0, nil)
	s.add(1, one)
	s.add(2, nil)
	s.add(3, one)
	event := api.Event{Epoch: 1, ID: []byte("a"), Key: []byte("k")}
	page := func(looks int) api.Proof {
		p := api.Proof{Lists: make([][][]byte, looks)}
		for i := range looks {
			p.Seen = append(p.Seen, s.along(3, 1+i))
		}
		return p
	}
	a := api.Ask{Kind: api.AskFeed, From: 0, To: 3, Epoch: 1, Limit: 1}
	if got, errno := s.check(a, api.Reply{Answer: api.Answer{Events: []api.Event{event}, More: true, Epoch: 2}, Proof: page(1)}); errno != api.OK {
		t.Error("up to an epoch's end:", got, errno)
	}
	a.Limit = 2
	later := event
	later.Epoch = 3
	for looks := range 4 {
		for _, events := range [][]api.Event{nil, {event}, {event, later}} {
			for _, x := range []api.Answer{{Events: events}, {Events: events, More: true, Epoch: 2}, {Events: events, More: true, Epoch: 3}} {
				got, errno := s.check(a, api.Reply{Answer: x, Proof: page(looks)})
				isRefused(t, told(x), got, errno)
			}
		}
	}
}

// AskVersions: a page that ends too early, or goes on too long, though each look is shown.
func TestVersionsLooks(t *testing.T) {
	d := five(t, 8)
	a := api.Ask{Kind: api.AskVersions, ID: []byte("a"), From: 0, To: 5, Limit: 3}
	reply := query.Run(d.h, a)
	d.taken("whole", a, reply)
	for n := range 3 {
		less := reply
		less.Proof = api.Proof{Seen: reply.Proof.Seen[:n], Ways: reply.Proof.Ways[:n]}
		for k := range n + 1 {
			for _, more := range []bool{false, true} {
				less.Answer.Items, less.Answer.More = reply.Answer.Items[:k], more
				d.refused("fewer looks", a, less)
			}
		}
	}
	// The look that shows that there are more is there, and none behind it.
	a.Limit = 2
	reply = query.Run(d.h, a)
	d.taken("more", a, reply)
	a.Limit = 1
	reply.Answer.Items = reply.Answer.Items[:1]
	d.refused("one look more", a, reply)
	reply.Proof.Seen, reply.Proof.Ways = reply.Proof.Seen[:2], reply.Proof.Ways[:2]
	d.taken("as many looks as the limit, and one", a, reply)
	reply.Proof.Seen, reply.Proof.Ways = reply.Proof.Seen[:1], reply.Proof.Ways[:1]
	d.refused("one look fewer", a, reply)
	nobody := api.Ask{Kind: api.AskVersions, ID: []byte("z"), From: 0, To: 5, Limit: 3}
	d.refused("no look", nobody, api.Reply{})
	d.taken("one look", nobody, query.Run(d.h, nobody))
}

// item is an identity's key since an epoch.
func item(id string, since int) api.Item {
	return api.Item{ID: []byte(id), Key: []byte("k"), Since: since}
}

// look adds what shows an identity at an epoch.
func (s *signer) look(p *api.Proof, id string, to, epoch int) {
	p.Seen = append(p.Seen, s.along(to, epoch))
	p.Ways = append(p.Ways, path.Prove(s.nodes, s.trees[epoch], []byte(id)))
}

// AskVersions: a change behind the epoch that is looked at shows nothing, but as the one that is more.
func TestVersionsOfTheFuture(t *testing.T) {
	s := signing(t, small(8))
	s.add(0, nil)
	s.add(1, nil, item("a", 4), item("b", 1))
	s.add(2, nil, item("a", 2), item("b", 2))
	s.add(3, nil, item("a", 2), item("b", 5))
	a := api.Ask{Kind: api.AskVersions, ID: []byte("b"), To: 3, Limit: 2}
	var one api.Proof
	s.look(&one, "b", 3, 3)
	for _, x := range []api.Answer{{}, {More: true}, {Items: []api.Item{item("b", 5)}}, {Items: []api.Item{item("b", 5)}, More: true}} {
		got, errno := s.check(a, api.Reply{Answer: x, Proof: one})
		isRefused(t, "behind the first look", got, errno)
	}
	a.ID = []byte("a")
	var two api.Proof
	s.look(&two, "a", 3, 3)
	s.look(&two, "a", 3, 1)
	for _, x := range []api.Answer{{Items: []api.Item{item("a", 2)}}, {Items: []api.Item{item("a", 2)}, More: true}, {Items: []api.Item{item("a", 2), item("a", 4)}}} {
		got, errno := s.check(a, api.Reply{Answer: x, Proof: two})
		isRefused(t, "behind the second look", got, errno)
	}
	a.Limit = 1
	want := api.Answer{Items: []api.Item{item("a", 2)}, More: true}
	if got, errno := s.check(a, api.Reply{Answer: want, Proof: two}); errno != api.OK || told(got) != told(want) {
		t.Error("what is more:", got, errno)
	}
	// As of an epoch, what the tree says counts.
	asof := api.Ask{Kind: api.AskAsof, ID: []byte("b"), To: 3}
	want = api.Answer{Present: true, Key: []byte("k"), Since: 5}
	if got, errno := s.check(asof, api.Reply{Answer: want, Proof: api.Proof{Way: one.Ways[0]}}); errno != api.OK || told(got) != told(want) {
		t.Error("as of:", got, errno)
	}
}

// A look leads from the head: a record that is signed, but that the head does not link to, shows nothing.
func TestOtherRecords(t *testing.T) {
	s, other := signing(t, small(8)), signing(t, small(8))
	l := []api.Binding{{ID: []byte("a"), Key: []byte("k")}}
	for _, x := range []*signer{s, other} {
		x.add(0, nil)
		batch := l
		if x == other {
			batch = []api.Binding{{ID: []byte("b"), Key: []byte("k")}}
		}
		x.add(1, batch, item(string(batch[0].ID), 1))
		x.add(2, l, item("a", 2))
	}
	a := api.Ask{Kind: api.AskFeed, To: 2, Epoch: 1, Limit: 1}
	page := func(x *signer, id string) api.Reply {
		return api.Reply{
			Answer: api.Answer{Events: []api.Event{{Epoch: 1, ID: []byte(id), Key: []byte("k")}}, More: true, Epoch: 2},
			Proof:  api.Proof{Lists: [][][]byte{nil}, Seen: [][]api.Record{x.along(2, 1)}},
		}
	}
	if got, errno := s.check(a, page(s, "a")); errno != api.OK {
		t.Error(got, errno)
	}
	got, errno := s.check(a, page(other, "b"))
	isRefused(t, "another record", got, errno)
}

// Where two records of one epoch are signed, the one that is named last is the head.
func TestHeadIsTheLast(t *testing.T) {
	s := signing(t, small(8))
	s.add(0, nil)
	s.add(1, nil, item("a", 1))
	other := s.records[1]
	other.Tree = s.nodes.Hash(-1)
	twin := s.seal(other)
	a := api.Ask{Kind: api.AskInterval, ID: []byte("a"), From: 1, To: 1}
	want := api.Answer{Present: true, Key: []byte("k"), Since: 1, Same: true}
	response := tell.Encode(8, a.Kind, api.Reply{Answer: want, Proof: api.Proof{Way: path.Prove(s.nodes, s.trees[1], a.ID)}})
	got, errno := Check(s.p, s.keys.Public(), written(t, a), [][]byte{twin, s.roots[1]}, response)
	if errno != api.OK || told(got) != told(want) {
		t.Error(got, errno)
	}
	got, errno = Check(s.p, s.keys.Public(), written(t, a), [][]byte{s.roots[1], twin}, response)
	isRefused(t, "under the first one", got, errno)
}

// A page whose changes do not end where their epoch does: the place behind the last one.
func TestFeedGoesOn(t *testing.T) {
	s := signing(t, small(8))
	l := []api.Binding{{ID: []byte("a")}, {ID: []byte("b")}, {ID: []byte("c")}}
	s.add(0, nil)
	s.add(1, l)
	for index := range 3 {
		for limit := 1; limit <= 3; limit++ {
			a := api.Ask{Kind: api.AskFeed, To: 1, Epoch: 1, Index: index, Limit: limit}
			x := api.Answer{}
			for i := index; i < min(3, index+limit); i++ {
				x.Events = append(x.Events, api.Event{Epoch: 1, Index: i, ID: l[i].ID})
			}
			if index+limit < 3 {
				x.More, x.Epoch, x.Since = true, 1, index+limit
			}
			r := api.Reply{Answer: x, Proof: api.Proof{Lists: feed.Prove(8, [][]api.Binding{l}, index, limit), Seen: [][]api.Record{nil}}}
			if got, errno := s.check(a, r); errno != api.OK || told(got) != told(x) {
				t.Error(a, got, errno)
			}
		}
	}
}

// What is handed in is neither changed nor kept, and nothing of an answer shares memory with it.
func TestMemory(t *testing.T) {
	d := five(t, 8)
	for _, kind := range kinds() {
		a := api.Ask{Kind: kind, To: 5, Limit: 4}
		switch kind {
		case api.AskAsof, api.AskInterval:
			a.ID, a.Limit = []byte("a"), 0
		case api.AskWhen:
			a.ID, a.Time, a.Limit = []byte("a"), 99, 0
		case api.AskVersions:
			a.ID = []byte("a")
		case api.AskFeed:
			a.Epoch = 1
		}
		args := append([][]byte{d.h.Public(), written(t, a), d.response(a)}, d.heads(a)...)
		var kept [][]byte
		for i, b := range args {
			kept = append(kept, bytes.Clone(b))
			args[i] = append(make([]byte, 0, len(b)+3), b...)
		}
		got, errno := Check(d.p, args[0], args[1], args[3:], args[2])
		ok(t, errno)
		heads, errno := Heads(d.p, args[0], a, args[3:])
		ok(t, errno)
		before := told(got) + told(heads)
		for i, b := range args {
			if !bytes.Equal(b, kept[i]) || !bytes.Equal(b[len(b):cap(b)], make([]byte, cap(b)-len(b))) {
				t.Error(kind, "argument", i, "was changed")
			}
			for at := range b {
				b[at] ^= 0xff
			}
		}
		if told(got)+told(heads) != before {
			t.Error(kind, "the answer shares memory with an argument")
		}
		if !apart(append(rooms(reflect.ValueOf(got)), rooms(reflect.ValueOf(heads))...)) {
			t.Error(kind, "two lists share memory")
		}
	}
}

// room is the memory of a list, its spare room too.
type room struct{ begin, end uintptr }

// rooms is the memory of all lists in a thing.
func rooms(v reflect.Value) []room {
	var l []room
	switch v.Kind() {
	case reflect.Struct:
		for i := range v.NumField() {
			l = append(l, rooms(v.Field(i))...)
		}
	case reflect.Slice:
		if v.Cap() > 0 {
			l = append(l, room{v.Pointer(), v.Pointer() + uintptr(v.Cap())*v.Type().Elem().Size()})
		}
		for i := range v.Len() {
			l = append(l, rooms(v.Index(i))...)
		}
	}
	return l
}

// apart tells whether no two lists have memory in common.
func apart(l []room) bool {
	slices.SortFunc(l, func(a, b room) int { return int(a.begin) - int(b.begin) })
	for i := 1; i < len(l); i++ {
		if l[i].begin < l[i-1].end {
			return false
		}
	}
	return true
}

// Whatever bytes and numbers there are, it ends, and shows nothing.
func TestWhatever(t *testing.T) {
	d := five(t, 4)
	r := rand.New(rand.NewSource(9))
	numbers := []int{math.MinInt, -1, 0, 1, 4, 8, 32, 33, 1 << 31, math.MaxInt}
	draw := func() int { return numbers[r.Intn(len(numbers))] }
	noise := func() []byte {
		b := make([]byte, r.Intn(60))
		r.Read(b)
		return b
	}
	nothing, errno := Check(api.Params{}, nil, nil, nil, nil)
	isRefused(t, "nothing", nothing, errno)
	for i := range 4000 {
		a := d.drawnAsk(r, kinds()[i%6])
		p := api.Params{Size: draw(), Height: draw(), MaxID: draw(), MaxKey: draw(), Changes: draw(), Arena: draw(), Cache: draw(), Page: draw()}
		got, errno := Check(p, noise(), noise(), [][]byte{noise(), nil}, noise())
		isRefused(t, "noise", got, errno)
		got, errno = Check(p, d.h.Public(), written(t, a), d.heads(a), noise())
		isRefused(t, "noise as a reply", got, errno)
		a = api.Ask{Kind: draw(), From: draw(), To: draw(), Limit: draw(), Time: draw(), Epoch: draw(), Index: draw()}
		if got, errno := Heads(p, d.h.Public(), a, [][]byte{noise()}); errno != api.ErrProof || len(got) > 0 {
			t.Fatal(got, errno)
		}
	}
	// Parameters alone say nothing but how much may be asked.
	p := d.p
	p.MaxID, p.Page, p.MaxKey, p.Changes, p.Arena, p.Cache = math.MaxInt, math.MaxInt, -1, -1, -1, -1
	for i := range 60 {
		a := d.drawnAsk(r, kinds()[i%6])
		if _, errno := Check(p, d.h.Public(), written(t, a), d.heads(a), d.response(a)); errno != api.OK {
			t.Error(a, errno)
		}
	}
}
