package server

import (
	"fmt"
	"math/rand"
	"testing"

	"annals/admit"
	"annals/api"
	"annals/ask"
	"annals/device"
	"annals/ideal"
	"annals/tell"
)

// told is a thing as text, in which an empty list is none.
func told(x any) string { return fmt.Sprintf("%+v", x) }

func ok(t *testing.T, errno api.Errno) {
	t.Helper()
	if errno != api.OK {
		t.Fatal(errno)
	}
}

// seed is that of all servers here.
const seed = "seed"

// tight is parameters with an arena of just what the others need.
func tight(p api.Params) api.Params {
	p.Arena = admit.Need(p)
	return p
}

// small is parameters of few epochs and changes.
func small() api.Params {
	return tight(api.Params{Size: 4, Height: 4, MaxID: 2, MaxKey: 4, Changes: 60, Cache: 1, Page: 4})
}

// directory is a server, and its map.
type directory struct {
	t    *testing.T
	p    api.Params
	disk *device.Device
	s    *Server
	m    *ideal.Map
}

func opened(t *testing.T, p api.Params) *directory {
	t.Helper()
	disk, errno := device.New(admit.Sectors(p))
	ok(t, errno)
	m, errno := ideal.New(p)
	ok(t, errno)
	d := &directory{t: t, p: p, disk: disk, m: m}
	d.open()
	return d
}

// open has a server on the device as it is.
func (d *directory) open() {
	d.t.Helper()
	s, errno := Open(d.disk, d.p, []byte(seed))
	ok(d.t, errno)
	d.s = s
}

// written is a request's bytes.
func written(t *testing.T, a api.Ask) []byte {
	t.Helper()
	b, errno := ask.Encode(a)
	if errno != api.OK {
		t.Fatal(a, errno)
	}
	return b
}

// do has the server do a request: its reply.
func (d *directory) do(a api.Ask) api.Reply {
	d.t.Helper()
	r, errno := tell.Decode(d.p.Size, a.Kind, d.s.Do(written(d.t, a)))
	ok(d.t, errno)
	return r
}

// publish makes an epoch, of the server and of the map.
func (d *directory) publish(time int, l []api.Binding) {
	d.t.Helper()
	for _, a := range []api.Ask{{Kind: api.AskTick, Time: time}, {Kind: api.AskPublish, Batch: l}} {
		if got, want := d.do(a).Answer, d.m.Do(a); told(got) != told(want) || got.Code != api.OK {
			d.t.Fatal(a, got, want)
		}
	}
}

// batch is bindings of identities that all have one key.
func batch(key string, ids ...string) []api.Binding {
	var l []api.Binding
	for _, id := range ids {
		l = append(l, api.Binding{ID: []byte(id), Key: []byte(key)})
	}
	return l
}

// five is a directory of five epochs, at the times 10 to 50.
func five(t *testing.T) *directory {
	t.Helper()
	d := opened(t, small())
	for i, ids := range [][]string{{"a", "b"}, {"c"}, {"a"}, {"d", "b", "e"}, {"a"}} {
		d.publish(10*i+10, batch(string(rune('1'+i)), ids...))
	}
	return d
}

// drawn is one of few identities, of unlike lengths, one of them too long.
func drawn(r *rand.Rand) []byte {
	ids := [...]string{"", "a", "b", "c", "aa", "ab", "ba", "\x00", "\x00\x00", "\xff", "z", "long"}
	return []byte(ids[r.Intn(len(ids)-r.Intn(2))])
}

func drawnBytes(r *rand.Rand, n int) []byte {
	b := make([]byte, n)
	r.Read(b)
	return b
}

// drawnBatch is a batch that may be, but for a few.
func drawnBatch(r *rand.Rand) []api.Binding {
	var l []api.Binding
	for range r.Intn(6) {
		l = append(l, api.Binding{ID: drawn(r), Key: drawnBytes(r, r.Intn(5))})
	}
	return l
}

// drawnAsk is a request of whatever kind, mostly one that is answered with OK.
func (d *directory) drawnAsk(r *rand.Rand) api.Ask {
	last := d.m.Epoch()
	from, to := r.Intn(last+1), r.Intn(last+1)
	if r.Intn(10) > 0 {
		from, to = min(from, to), max(from, to)
	}
	if r.Intn(20) == 0 {
		to += 5
	}
	id, limit := drawn(r), r.Intn(d.p.Page+2)
	switch kind := 1 + r.Intn(10); kind {
	case api.AskPublish:
		return api.Ask{Kind: kind, Batch: drawnBatch(r)}
	case api.AskTick:
		return api.Ask{Kind: kind, Time: max(0, d.m.Now()-10+r.Intn(30))}
	case api.AskAsof:
		return api.Ask{Kind: kind, ID: id, To: to}
	case api.AskWhen:
		return api.Ask{Kind: kind, ID: id, To: to, Time: r.Intn(d.m.Now() + 20)}
	case api.AskInterval:
		return api.Ask{Kind: kind, ID: id, From: from, To: to}
	case api.AskDiff:
		a := api.Ask{Kind: kind, From: from, To: to, Limit: limit}
		if r.Intn(2) == 0 {
			a.Some, a.ID = true, id
		}
		return a
	case api.AskFeed:
		a := api.Ask{Kind: kind, From: from, To: to, Limit: limit, Epoch: from + 1}
		if to > from {
			a.Epoch += r.Intn(to - from)
			a.Index = r.Intn(max(1, len(d.m.Batch(a.Epoch))))
		}
		return a
	case api.AskVersions:
		return api.Ask{Kind: kind, ID: id, From: from, To: to, Limit: limit}
	default:
		return api.Ask{Kind: kind}
	}
}

// heads is the signed records that a request names.
func (d *directory) heads(a api.Ask) [][]byte {
	d.t.Helper()
	var l [][]byte
	epochs, _ := ask.Roots(a)
	for _, epoch := range epochs {
		b, errno := d.s.Root(epoch)
		ok(d.t, errno)
		l = append(l, b)
	}
	return l
}

// roots is all signed records.
func (d *directory) roots() [][]byte {
	d.t.Helper()
	var l [][]byte
	for epoch := range d.s.Epoch() + 1 {
		b, errno := d.s.Root(epoch)
		ok(d.t, errno)
		l = append(l, b)
	}
	return l
}
