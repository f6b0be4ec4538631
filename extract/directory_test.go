package extract

import (
	"fmt"
	"math/rand"
	"testing"

	"annals/admit"
	"annals/api"
	"annals/ask"
	"annals/device"
	"annals/ideal"
	"annals/record"
	"annals/server"
	"annals/tell"
	"annals/verify"
)

// told is a thing as text, in which an empty list is none.
func told(x any) string { return fmt.Sprintf("%+v", x) }

func ok(t *testing.T, errno api.Errno) {
	t.Helper()
	if errno != api.OK {
		t.Fatal(errno)
	}
}

// directory is a server, and its map.
type directory struct {
	t *testing.T
	p api.Params
	s *server.Server
	m *ideal.Map
}

func opened(t *testing.T, size int) *directory {
	t.Helper()
	p := api.Params{Size: size, Height: 3, MaxID: 2, MaxKey: 4, Changes: 60, Cache: 1, Page: 4}
	p.Arena = admit.Need(p)
	disk, errno := device.New(admit.Sectors(p))
	ok(t, errno)
	s, errno := server.Open(disk, p, []byte("seed"))
	ok(t, errno)
	m, errno := ideal.New(p)
	ok(t, errno)
	return &directory{t, p, s, m}
}

// written is a request's bytes.
func (d *directory) written(a api.Ask) []byte {
	d.t.Helper()
	b, errno := ask.Encode(a)
	ok(d.t, errno)
	return b
}

// publish makes an epoch of a batch, a time behind the last one.
func (d *directory) publish(l []api.Binding) {
	d.t.Helper()
	for _, a := range []api.Ask{{Kind: api.AskTick, Time: d.m.Now() + 10}, {Kind: api.AskPublish, Batch: l}} {
		ok(d.t, d.m.Do(a).Code)
		d.s.Do(d.written(a))
	}
	if d.s.Epoch() != d.m.Epoch() {
		d.t.Fatal(d.s.Epoch())
	}
}

// five is a directory of five epochs, at the times 10 to 50.
func five(t *testing.T, size int) *directory {
	t.Helper()
	d := opened(t, size)
	for i, ids := range [][]string{{"a", "b"}, {"c"}, {"a"}, {"d", "b", "e"}, {"a"}} {
		var l []api.Binding
		for _, id := range ids {
			l = append(l, api.Binding{ID: []byte(id), Key: []byte{byte('1' + i)}})
		}
		d.publish(l)
	}
	return d
}

// many is a directory of as many epochs as there may be, of drawn batches.
func many(t *testing.T, r *rand.Rand, size int) *directory {
	t.Helper()
	d := opened(t, size)
	for range admit.Epochs(d.p) - 1 {
		var l []api.Binding
		for i, id := range ids() {
			if r.Intn(2) == 0 || i == 9 && len(l) == 0 {
				l = append(l, api.Binding{ID: []byte(id), Key: drawnBytes(r, r.Intn(5))})
			}
		}
		d.publish(l[:min(len(l), 8)])
	}
	return d
}

// ids is the identities that there are.
func ids() [10]string {
	return [10]string{"", "a", "b", "aa", "ab", "\x00", "c", "z", "ba", "\xff"}
}

func drawnBytes(r *rand.Rand, n int) []byte {
	b := make([]byte, n)
	r.Read(b)
	return b
}

// kinds is those of requests that are shown.
func kinds() []int {
	return []int{api.AskAsof, api.AskWhen, api.AskInterval, api.AskDiff, api.AskFeed, api.AskVersions}
}

// drawnAsk is a request that is answered with OK.
func (d *directory) drawnAsk(r *rand.Rand, kind int) api.Ask {
	last := d.m.Epoch()
	a := api.Ask{Kind: kind, To: r.Intn(last + 1)}
	id := []byte(ids()[r.Intn(10)])
	from, limit := r.Intn(a.To+1), 1+r.Intn(d.p.Page)
	switch kind {
	case api.AskAsof:
		a.ID = id
	case api.AskWhen:
		a.ID, a.Time = id, r.Intn(10*last+20)
	case api.AskInterval:
		a.ID, a.From = id, from
	case api.AskDiff:
		a.From, a.Limit = from, limit
		if r.Intn(2) == 0 {
			a.Some, a.ID = true, id
		}
	case api.AskFeed:
		a.From, a.Limit, a.Epoch = from, limit, from+1
		if a.To > a.From {
			a.Epoch += r.Intn(a.To - a.From)
			a.Index = r.Intn(len(d.m.Batch(a.Epoch)))
		}
	case api.AskVersions:
		a.ID, a.From, a.Limit = id, from, limit
	}
	return a
}

// heads is the signed records that a request names.
func (d *directory) heads(a api.Ask) [][]byte {
	d.t.Helper()
	var l [][]byte
	epochs, _ := ask.Roots(a)
	for _, epoch := range epochs {
		b, errno := d.s.Root(epoch)
		ok(d.t, errno)
		l = append(l, b)
	}
	return l
}

// record is an epoch's.
func (d *directory) record(epoch int) api.Record {
	d.t.Helper()
	b, errno := d.s.Root(epoch)
	ok(d.t, errno)
	s, errno := record.Open(d.p.Size, d.p.Height, b)
	ok(d.t, errno)
	return s.Record
}

// reply is what the server answers.
func (d *directory) reply(a api.Ask) api.Reply {
	d.t.Helper()
	r, errno := tell.Decode(d.p.Size, a.Kind, d.s.Do(d.written(a)))
	ok(d.t, errno)
	return r
}

// pair has two replies held against each other.
func (d *directory) pair(a api.Ask, one, other api.Reply) ([]byte, []byte, bool) {
	d.t.Helper()
	return Pair(d.p, d.s.Public(), d.written(a), d.heads(a), tell.Encode(d.p.Size, a.Kind, one), tell.Encode(d.p.Size, a.Kind, other))
}

// isNone has there be no pair, and nothing beside that.
func isNone(t *testing.T, what string, one, other []byte, found bool) {
	t.Helper()
	if found || len(one) > 0 || len(other) > 0 {
		t.Errorf("%s: %x, %x, %v", what, one, other, found)
	}
}

// check has a reply checked.
func (d *directory) check(a api.Ask, r api.Reply) (api.Answer, api.Errno) {
	d.t.Helper()
	return verify.Check(d.p, d.s.Public(), d.written(a), d.heads(a), tell.Encode(d.p.Size, a.Kind, r))
}
