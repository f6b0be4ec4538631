package tell

import (
	"bytes"
	"math/rand"
	"testing"

	"annals/admit"
	"annals/api"
	"annals/device"
	"annals/feed"
	"annals/history"
	"annals/ideal"
	"annals/path"
	"annals/seek"
	"annals/span"
)

// directory is a directory, and its map.
type directory struct {
	t *testing.T
	h *history.History
	m *ideal.Map
}

// published is a directory with that many epochs of drawn batches.
func published(t *testing.T, r *rand.Rand, size, epochs int) directory {
	t.Helper()
	p := api.Params{Size: size, Height: 6, MaxID: 2, MaxKey: 5, Changes: 400, Cache: 2, Page: 32}
	p.Arena = admit.Need(p)
	d, errno := device.New(admit.Sectors(p))
	if errno != api.OK {
		t.Fatal(errno)
	}
	h, errno := history.Open(d, p, []byte("seed"))
	if errno != api.OK {
		t.Fatal(errno)
	}
	m, errno := ideal.New(p)
	if errno != api.OK {
		t.Fatal(errno)
	}
	for i := range epochs {
		m.Do(api.Ask{Kind: api.AskTick, Time: 10 * i})
		h.Tick(10 * i)
		l := drawnBatch(r)
		if answer := m.Do(api.Ask{Kind: api.AskPublish, Batch: l}); answer.Code != api.OK {
			t.Fatal(answer)
		}
		if _, errno := h.Publish(l); errno != api.OK {
			t.Fatal(errno)
		}
	}
	return directory{t, h, m}
}

// drawnID is one of few identities.
func drawnID(r *rand.Rand) []byte { return []byte("abcdefghij"[r.Intn(10):][:1]) }

func drawnBatch(r *rand.Rand) []api.Binding {
	var l []api.Binding
	for i := range 1 + r.Intn(7) {
		l = append(l, api.Binding{ID: []byte("abcdefghij"[i:][:1]), Key: drawnBytes(r, 5)})
	}
	return l
}

// way is the way of an identity in the tree of an epoch.
func (d directory) way(epoch int, id []byte) api.Path {
	root, errno := d.h.Snaps().Root(epoch)
	if errno != api.OK {
		d.t.Fatal(errno)
	}
	return path.Prove(d.h.Snaps().Arena(), root, id)
}

// look is the records on the way to an epoch.
func (d directory) look(p *api.Proof, to, epoch int) {
	p.Seen = append(p.Seen, d.h.Way(to, epoch))
}

// proof is what shows an answer that is OK.
func (d directory) proof(a api.Ask, x api.Answer) api.Proof {
	var p api.Proof
	switch a.Kind {
	case api.AskAsof, api.AskInterval:
		p.Way = d.way(a.To, a.ID)
	case api.AskWhen:
		p.Way = d.way(x.Epoch, a.ID)
		for _, epoch := range seek.Probes(d.h.Times()[:a.To+1], a.Time) {
			d.look(&p, a.To, epoch)
		}
	case api.AskDiff:
		root, _ := d.h.Snaps().Root(a.To)
		p.Tree = span.Prove(d.h.Snaps().Arena(), root, a.From, a.Some, a.ID, a.Limit)
	case api.AskFeed:
		var batches [][]api.Binding
		for epoch := a.Epoch; epoch <= a.To; epoch++ {
			batches = append(batches, d.h.Batch(epoch))
		}
		p.Lists = feed.Prove(d.h.Params().Size, batches, a.Index, a.Limit)
		for i := range p.Lists {
			d.look(&p, a.To, a.Epoch+i)
		}
	case api.AskVersions:
		at := a.To
		for i := 0; at > a.From; i++ {
			d.look(&p, a.To, at)
			p.Ways = append(p.Ways, d.way(at, a.ID))
			state := d.m.Do(api.Ask{Kind: api.AskAsof, ID: a.ID, To: at})
			if !state.Present || state.Since <= a.From || i == a.Limit {
				break
			}
			at = state.Since - 1
		}
	}
	return p
}

// drawnAsk is a request of whatever kind, mostly one that is answered with OK.
func (d directory) drawnAsk(r *rand.Rand) api.Ask {
	last := d.m.Epoch()
	a := api.Ask{Kind: 3 + r.Intn(8), ID: drawnID(r), To: r.Intn(last + 1), Limit: 1 + r.Intn(12)}
	a.From = r.Intn(a.To + 1)
	a.Time = 10*r.Intn(last+2) - 5
	a.Some = r.Intn(2) == 0
	a.Epoch = a.From + 1
	if a.To > a.From {
		a.Epoch += r.Intn(a.To - a.From)
		a.Index = r.Intn(len(d.m.Batch(a.Epoch)))
	}
	if r.Intn(30) == 0 {
		a.To = last + 1
	}
	return a
}

// P26.3: what a directory answers is read as it was, whatever the size of its digests.
func TestReplies(t *testing.T) {
	for _, size := range []int{1, 2, 7, 16, 32} {
		r := rand.New(rand.NewSource(int64(size)))
		d := published(t, r, size, 40)
		shown := map[int]int{}
		for range 1500 {
			a := d.drawnAsk(r)
			reply := api.Reply{Answer: d.m.Do(a)}
			if reply.Answer.Code == api.OK {
				reply.Proof = d.proof(a, reply.Answer)
				shown[a.Kind]++
			}
			b := Encode(size, a.Kind, reply)
			if !bytes.Equal(b, spelledReply(a.Kind, reply)) {
				t.Fatalf("%+v: %q", a, b)
			}
			taken(t, size, a.Kind, b, reply)
			refused(t, "more", size, a.Kind, append(bytes.Clone(b), 0))
			refused(t, "less", size, a.Kind, b[:r.Intn(len(b))])
		}
		for _, kind := range []int{3, 4, 5, 6, 7, 10} {
			if shown[kind] < 50 {
				t.Error("few were shown:", shown)
			}
		}
	}
}
