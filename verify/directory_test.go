package verify

import (
	"bytes"
	"fmt"
	"math/rand"
	"testing"

	"annals/admit"
	"annals/api"
	"annals/arena"
	"annals/ask"
	"annals/change"
	"annals/device"
	"annals/history"
	"annals/ideal"
	"annals/mts"
	"annals/ptree"
	"annals/query"
	"annals/record"
	"annals/skip"
	"annals/tell"
)

// told is a thing as text, in which an empty list is none.
func told(x any) string { return fmt.Sprintf("%+v", x) }

func ok(t *testing.T, errno api.Errno) {
	t.Helper()
	if errno != api.OK {
		t.Fatal(errno)
	}
}

// tight is parameters with an arena of just what the others need.
func tight(p api.Params) api.Params {
	p.Arena = admit.Need(p)
	return p
}

// small is parameters of few epochs, with digests of so many bytes.
func small(size int) api.Params {
	return tight(api.Params{Size: size, Height: 4, MaxID: 2, MaxKey: 4, Changes: 60, Cache: 1, Page: 4})
}

// directory is a directory, its map, and its signed records.
type directory struct {
	t     *testing.T
	p     api.Params
	disk  *device.Device
	h     *history.History
	m     *ideal.Map
	roots [][]byte
}

func opened(t *testing.T, p api.Params) *directory {
	t.Helper()
	disk, errno := device.New(admit.Sectors(p))
	ok(t, errno)
	h, errno := history.Open(disk, p, []byte("seed"))
	ok(t, errno)
	m, errno := ideal.New(p)
	ok(t, errno)
	d := &directory{t: t, p: p, disk: disk, h: h, m: m}
	d.seal()
	return d
}

// seal has the signed record of the last epoch.
func (d *directory) seal() {
	d.t.Helper()
	s, errno := d.h.Signed(d.h.Epoch())
	ok(d.t, errno)
	b, errno := record.Seal(d.p.Size, s)
	ok(d.t, errno)
	d.roots = append(d.roots, b)
}

// publish makes an epoch of a batch, a time behind the last one.
func (d *directory) publish(l []api.Binding) {
	d.t.Helper()
	for _, a := range []api.Ask{{Kind: api.AskTick, Time: d.m.Now() + 10}, {Kind: api.AskPublish, Batch: l}} {
		ok(d.t, d.m.Do(a).Code)
		ok(d.t, query.Run(d.h, a).Answer.Code)
	}
	d.seal()
}

// five is a directory of five epochs, at the times 10 to 50.
func five(t *testing.T, size int) *directory {
	t.Helper()
	d := opened(t, small(size))
	for i, ids := range [][]string{{"a", "b"}, {"c"}, {"a"}, {"d", "b", "e"}, {"a"}} {
		var l []api.Binding
		for _, id := range ids {
			l = append(l, api.Binding{ID: []byte(id), Key: []byte{byte('1' + i)}})
		}
		d.publish(l)
	}
	return d
}

// many is a directory of so many epochs of drawn batches.
func many(t *testing.T, r *rand.Rand, size, epochs int) *directory {
	t.Helper()
	d := opened(t, small(size))
	for range epochs {
		var l []api.Binding
		for i := range 5 {
			key := make([]byte, r.Intn(5))
			r.Read(key)
			if r.Intn(2) == 0 || i == 4 && len(l) == 0 {
				l = append(l, api.Binding{ID: []byte(ids()[r.Intn(2)*5+i]), Key: key})
			}
		}
		d.publish(l)
	}
	return d
}

// ids is the identities that there are; of the first five and the others each batch has some, in order.
func ids() [10]string {
	return [10]string{"", "a", "b", "aa", "ab", "\x00", "c", "z", "ba", "\xff"}
}

// drawnAsk is a query that is answered with OK.
func (d *directory) drawnAsk(r *rand.Rand, kind int) api.Ask {
	last := d.m.Epoch()
	a := api.Ask{Kind: kind, To: r.Intn(last + 1)}
	id := []byte(ids()[r.Intn(10)])
	from, limit := r.Intn(a.To+1), 1+r.Intn(d.p.Page)
	switch kind {
	case api.AskAsof:
		a.ID = id
	case api.AskWhen:
		a.ID, a.Time = id, r.Intn(10*last+20)
	case api.AskInterval:
		a.ID, a.From = id, from
	case api.AskDiff:
		a.From, a.Limit = from, limit
		if r.Intn(2) == 0 {
			a.Some, a.ID = true, id
		}
	case api.AskFeed:
		a.From, a.Limit, a.Epoch = from, limit, from+1
		if a.To > a.From {
			a.Epoch += r.Intn(a.To - a.From)
			a.Index = r.Intn(len(d.m.Batch(a.Epoch)))
		}
	case api.AskVersions:
		a.ID, a.From, a.Limit = id, from, limit
	}
	return a
}

// kinds is those of queries.
func kinds() []int {
	return []int{api.AskAsof, api.AskWhen, api.AskInterval, api.AskDiff, api.AskFeed, api.AskVersions}
}

// written is a request's bytes.
func written(t *testing.T, a api.Ask) []byte {
	t.Helper()
	b, errno := ask.Encode(a)
	ok(t, errno)
	return b
}

// heads is the signed records that a request names.
func (d *directory) heads(a api.Ask) [][]byte {
	var l [][]byte
	epochs, _ := ask.Roots(a)
	for _, epoch := range epochs {
		l = append(l, bytes.Clone(d.roots[epoch]))
	}
	return l
}

// response is what a request is answered, as bytes.
func (d *directory) response(a api.Ask) []byte {
	return tell.Encode(d.p.Size, a.Kind, query.Run(d.h, a))
}

// check has a response checked, with the records that the request names.
func (d *directory) check(a api.Ask, response []byte) (api.Answer, api.Errno) {
	d.t.Helper()
	return Check(d.p, d.h.Public(), written(d.t, a), d.heads(a), response)
}

// taken has a reply be taken, and show the answer that it tells.
func (d *directory) taken(what string, a api.Ask, r api.Reply) {
	d.t.Helper()
	got, errno := d.check(a, tell.Encode(d.p.Size, a.Kind, r))
	if errno != api.OK || told(got) != told(r.Answer) {
		d.t.Errorf("%s: %+v: %v, %v", what, a, got, errno)
	}
}

// refused has a reply be refused.
func (d *directory) refused(what string, a api.Ask, r api.Reply) {
	d.t.Helper()
	got, errno := d.check(a, tell.Encode(d.p.Size, a.Kind, r))
	isRefused(d.t, fmt.Sprintf("%s: %+v", what, a), got, errno)
}

// isRefused has it be ErrProof, and nothing beside it.
func isRefused(t *testing.T, what string, got api.Answer, errno api.Errno) {
	t.Helper()
	if errno != api.ErrProof || told(got) != told(api.Answer{}) {
		t.Errorf("%s: %v, %v", what, got, errno)
	}
}

// signer is one who has the keys, and signs whatever: the trees and records of a directory that is none.
type signer struct {
	t       *testing.T
	p       api.Params
	keys    *mts.Keys
	nodes   *arena.Arena
	trees   []int
	records []api.Record
	roots   [][]byte
}

func signing(t *testing.T, p api.Params) *signer {
	t.Helper()
	keys, errno := mts.New(p.Size, []byte("other seed"), p.Height)
	ok(t, errno)
	nodes, errno := arena.New(p.Size, 10000)
	ok(t, errno)
	return &signer{t: t, p: p, keys: keys, nodes: nodes}
}

// add signs the record of the next epoch, with a tree of any items.
func (s *signer) add(time int, l []api.Binding, items ...api.Item) {
	s.t.Helper()
	tree := -1
	for _, x := range items {
		var errno api.Errno
		tree, errno = ptree.Insert(s.nodes, tree, x.ID, x.Key, x.Since)
		ok(s.t, errno)
	}
	s.trees = append(s.trees, tree)
	r := api.Record{Epoch: len(s.records), Time: time, Tree: s.nodes.Hash(tree), Count: len(l), List: change.List(s.p.Size, l)}
	for _, epoch := range skip.Links(r.Epoch) {
		r.Links = append(r.Links, record.Hash(s.p.Size, s.records[epoch]))
	}
	s.records = append(s.records, r)
	s.roots = append(s.roots, s.seal(r))
}

// seal is a record's bytes, signed.
func (s *signer) seal(r api.Record) []byte {
	s.t.Helper()
	signature, errno := s.keys.Sign(r.Epoch, record.Hash(s.p.Size, r))
	ok(s.t, errno)
	b, errno := record.Seal(s.p.Size, api.Signed{Record: r, Signature: signature})
	ok(s.t, errno)
	return b
}

// along is the records on the way from an epoch to another one.
func (s *signer) along(from, to int) []api.Record {
	var l []api.Record
	for _, epoch := range skip.Way(from, to) {
		l = append(l, s.records[epoch])
	}
	return l
}

// check has a reply checked, with the records that the request names.
func (s *signer) check(a api.Ask, r api.Reply) (api.Answer, api.Errno) {
	s.t.Helper()
	var roots [][]byte
	epochs, _ := ask.Roots(a)
	for _, epoch := range epochs {
		roots = append(roots, s.roots[epoch])
	}
	return Check(s.p, s.keys.Public(), written(s.t, a), roots, tell.Encode(s.p.Size, a.Kind, r))
}
