package census

import (
	"bytes"
	"fmt"
	"math"
	"math/rand"
	"reflect"
	"slices"
	"strings"
	"testing"

	"annals/api"
	"annals/seek"
	"annals/skip"
	"annals/tell"
	"annals/world"
)

// size is that of the digests of what is made by hand.
const size = 2

func digest(n int) []byte { return []byte{1, byte(n)} }

// way is a way of so many hops, to nothing.
func way(hops int) api.Path {
	var p api.Path
	for i := range hops {
		p.Hops = append(p.Hops, api.Hop{Depth: i, Newest: 3, Sibling: digest(i)})
	}
	return p
}

// records is so many of them, each one of epoch 0.
func records(n int) []api.Record {
	var l []api.Record
	for i := range n {
		l = append(l, api.Record{Tree: digest(i), List: digest(9)})
	}
	return l
}

func seen(lengths ...int) [][]api.Record {
	var l [][]api.Record
	for _, n := range lengths {
		l = append(l, records(n))
	}
	return l
}

func lists(lengths ...int) [][][]byte {
	var l [][][]byte
	for _, n := range lengths {
		var list [][]byte
		for i := range n {
			list = append(list, digest(i))
		}
		l = append(l, list)
	}
	return l
}

func items(n int) []api.Item {
	var l []api.Item
	for i := range n {
		l = append(l, api.Item{ID: []byte{byte(i)}, Key: []byte("k"), Since: 1})
	}
	return l
}

func leaf(id string) api.Part {
	return api.Part{Kind: api.EndLeaf, ID: []byte(id), Key: []byte("k"), Since: 4}
}

// closed is a closed fork above identities of one byte.
func closed() api.Part {
	return api.Part{Kind: api.EndClosed, Depth: 8, Prefix: []byte{1}, Newest: 4, Left: digest(1), Right: digest(2)}
}

// reply is a response, and how great it is but for its bytes.
type reply struct {
	what string
	kind int
	r    api.Reply
	c    api.Census
}

// replies is responses of all kinds: what they show is not looked at.
func replies(t *testing.T) []reply {
	t.Helper()
	open := forked(t)
	return []reply{
		{"a publishing", api.AskPublish, api.Reply{Answer: api.Answer{Epoch: 3}}, api.Census{}},
		{"an error", api.AskAsof, api.Reply{Answer: api.Answer{Code: api.ErrFuture}}, api.Census{}},
		{"an error of a feed", api.AskFeed, api.Reply{Answer: api.Answer{Code: api.ErrCursor}}, api.Census{}},
		{"a tick", api.AskTick, api.Reply{}, api.Census{}}, {"an evicting", api.AskEvict, api.Reply{}, api.Census{}}, {"a dropping", api.AskDrop, api.Reply{}, api.Census{}},
		{"no way", api.AskAsof, api.Reply{}, api.Census{}},
		{"a way", api.AskAsof, api.Reply{Proof: api.Proof{Way: way(3)}}, api.Census{Hops: 3}},
		{"a leaf's way", api.AskInterval, api.Reply{Answer: api.Answer{Present: true, Key: []byte("k"), Since: 1}, Proof: api.Proof{Way: api.Path{Hops: way(5).Hops, End: leaf("a")}}}, api.Census{Hops: 5}},
		{"no looks", api.AskWhen, api.Reply{Proof: api.Proof{Way: way(1)}}, api.Census{Hops: 1}},
		{"looks", api.AskWhen, api.Reply{Proof: api.Proof{Way: way(2), Seen: seen(0, 4, 1)}}, api.Census{Hops: 2, Looks: 3, Longest: 4, Records: 5}},
		{"the last look is the longest", api.AskWhen, api.Reply{Proof: api.Proof{Seen: seen(1, 2, 7)}}, api.Census{Looks: 3, Longest: 7, Records: 10}},
		{"looks without records", api.AskWhen, api.Reply{Proof: api.Proof{Seen: seen(0, 0)}}, api.Census{Looks: 2}},
		{"an empty tree", api.AskDiff, api.Reply{}, api.Census{}},
		{"a leaf alone", api.AskDiff, api.Reply{Answer: api.Answer{Items: items(1)}, Proof: api.Proof{Tree: leaf("a")}}, api.Census{Parts: 1, Items: 1}},
		{"a closed fork alone", api.AskDiff, api.Reply{Proof: api.Proof{Tree: closed()}}, api.Census{Parts: 1}},
		{"an open fork", api.AskDiff, api.Reply{Answer: api.Answer{Items: items(2), More: true}, Proof: api.Proof{Tree: open}}, api.Census{Parts: 3, Items: 2}},
		{"no ways", api.AskVersions, api.Reply{}, api.Census{}},
		{"ways", api.AskVersions, api.Reply{Answer: api.Answer{Items: items(2)}, Proof: api.Proof{Ways: []api.Path{way(2), way(6), way(4)}, Seen: seen(0, 1, 1)}}, api.Census{Hops: 6, Looks: 3, Longest: 1, Records: 2, Items: 2}},
		{"the first way is the longest", api.AskVersions, api.Reply{Proof: api.Proof{Ways: []api.Path{way(9), way(1)}, Seen: seen(3)}}, api.Census{Hops: 9, Looks: 1, Longest: 3, Records: 3}},
		{"the greatest page", api.AskVersions, api.Reply{Answer: api.Answer{Items: items(32), More: true}}, api.Census{Items: 32}},
		{"no lists", api.AskFeed, api.Reply{}, api.Census{}},
		{"lists", api.AskFeed, api.Reply{Answer: api.Answer{Events: []api.Event{{Epoch: 1}, {Epoch: 2}, {Epoch: 2, Index: 1}}}, Proof: api.Proof{Lists: lists(0, 5, 2), Seen: seen(2, 2)}}, api.Census{Looks: 2, Longest: 2, Records: 4, Lists: 5, Items: 3}},
		{"the last list is the longest", api.AskFeed, api.Reply{Proof: api.Proof{Lists: lists(1, 0, 11)}}, api.Census{Lists: 11}},
		{"empty lists", api.AskFeed, api.Reply{Proof: api.Proof{Lists: lists(0, 0, 0)}}, api.Census{}},
	}
}

// forked is what a directory shows of two leaves: an open fork above both.
func forked(t *testing.T) api.Part {
	t.Helper()
	w := directory(t, params(), [][]string{{"a", "b"}})
	r, errno := tell.Decode(params().Size, api.AskDiff, do(t, w, api.Ask{Kind: api.AskDiff, To: 1, Limit: 2}))
	if errno != api.OK || r.Proof.Tree.Kind != api.EndOpen || len(r.Proof.Tree.Kids) != 2 {
		t.Fatal(r, errno)
	}
	return r.Proof.Tree
}

// params is parameters of digests of size bytes, with an arena of just what the others need.
func params() api.Params {
	return tight(api.Params{Size: size, Height: 4, MaxID: 2, MaxKey: 4, Changes: 40, Cache: 1, Page: 4})
}

func tight(p api.Params) api.Params {
	p.Arena = (2+p.Cache)*p.Changes*(8*(p.MaxID+1)+2) + 1
	return p
}

// directory is a world with epochs, each of identities, at the times 10, 20, ..
func directory(t *testing.T, p api.Params, epochs [][]string) *world.World {
	t.Helper()
	w, errno := world.New(p, []byte("seed"))
	if errno != api.OK {
		t.Fatal(errno)
	}
	for i, ids := range epochs {
		var l []api.Binding
		for _, id := range ids {
			l = append(l, api.Binding{ID: []byte(id), Key: []byte{byte(i)}})
		}
		do(t, w, api.Ask{Kind: api.AskTick, Time: 10*i + 10})
		if b := do(t, w, api.Ask{Kind: api.AskPublish, Batch: l}); len(w.Acks()) != i+1 {
			t.Fatal(ids, b)
		}
	}
	return w
}

// do is the response to a request.
func do(t *testing.T, w *world.World, a api.Ask) []byte {
	t.Helper()
	b, errno := w.Do(world.Ask(a))
	if errno != api.OK {
		t.Fatal(a, errno)
	}
	return b
}

// P32.1: each number, of responses of all kinds.
func TestOf(t *testing.T) {
	for _, x := range replies(t) {
		b := tell.Encode(size, x.kind, x.r)
		x.c.Bytes = len(b)
		before := slices.Clone(b)
		if got, errno := Of(size, x.kind, b); errno != api.OK || got != x.c {
			t.Errorf("%s: %+v, %v, want %+v", x.what, got, errno, x.c)
		}
		if !bytes.Equal(b, before) {
			t.Errorf("%s: the response is changed", x.what)
		}
	}
	// The example: of an answer without a proof bytes alone.
	if got, errno := Of(size, api.AskAsof, []byte{1, 2, 1, 83}); errno != api.OK || got != (api.Census{Bytes: 4}) {
		t.Error(got, errno)
	}
}

// P32.1: all parts of a tree count, open forks within open ones and what is closed.
func TestParts(t *testing.T) {
	w := directory(t, params(), [][]string{{"a"}, {"b", "c"}, {"aa", "ab", "ac"}, {"b"}})
	for _, x := range []struct{ from, limit, parts, items int }{
		{0, 4, 9, 4}, {0, 1, 5, 1}, {4, 4, 1, 0}, {3, 4, 7, 1}, {2, 4, 11, 4},
	} {
		b := do(t, w, api.Ask{Kind: api.AskDiff, From: x.from, To: 4, Limit: x.limit})
		if got, errno := Of(size, api.AskDiff, b); errno != api.OK || got != (api.Census{Bytes: len(b), Parts: x.parts, Items: x.items}) {
			t.Error(x, got, errno)
		}
	}
}

// P32.1: of what is no response of its kind, tell's error, and nothing else.
func TestOfErrors(t *testing.T) {
	none := func(size, kind int, b []byte) {
		t.Helper()
		if got, errno := Of(size, kind, b); errno != api.ErrForm || got != (api.Census{}) {
			t.Error(size, kind, b, got, errno)
		}
	}
	none(size, api.AskAsof, nil)
	none(size, api.AskAsof, []byte{})
	for _, x := range replies(t) {
		b := tell.Encode(size, x.kind, x.r)
		for n := range b {
			none(size, x.kind, b[:n])
		}
		none(size, x.kind, append(slices.Clone(b), 0))
	}
	shown := tell.Encode(size, api.AskAsof, api.Reply{Proof: api.Proof{Way: way(3)}})
	for _, n := range []int{math.MinInt, -1, 0, 1, 3, 33, math.MaxInt} {
		none(n, api.AskAsof, shown)
	}
	for _, kind := range []int{0, -1, api.AskPublish, api.AskFeed, api.AskVersions, 11, math.MaxInt} {
		none(size, kind, shown)
	}
}

// P32.1: what a response is at most, by its kind.
func TestMost(t *testing.T) {
	const b = 1 << 31
	p := params()                                           // Deepest 24, 16 epochs: ways of 10 at most
	flat := tight(api.Params{Size: 1, Changes: 1, Page: 1}) // Deepest 8, 1 epoch: ways of 2 at most
	great := api.Params{Size: 32, Height: 8, MaxID: 24, MaxKey: 48, Changes: 4096, Cache: 3, Page: 32, Arena: 1 << 22}
	id := make([]byte, 30)
	for _, x := range []struct {
		p    api.Params
		a    api.Ask
		want api.Census
	}{
		{p, api.Ask{Kind: api.AskAsof, ID: id, To: 99}, api.Census{Bytes: b, Hops: 24}}, {flat, api.Ask{Kind: api.AskAsof, Limit: 7}, api.Census{Bytes: b, Hops: 8}}, {great, api.Ask{Kind: api.AskAsof}, api.Census{Bytes: b, Hops: 200}},
		{p, api.Ask{Kind: api.AskInterval, Limit: 3}, api.Census{Bytes: b, Hops: 24}}, {flat, api.Ask{Kind: api.AskInterval}, api.Census{Bytes: b, Hops: 8}}, {great, api.Ask{Kind: api.AskInterval, From: -1}, api.Census{Bytes: b, Hops: 200}},
		{p, api.Ask{Kind: api.AskWhen, Limit: 3}, api.Census{Bytes: b, Hops: 24, Looks: 6, Longest: 10, Records: 60}}, {flat, api.Ask{Kind: api.AskWhen}, api.Census{Bytes: b, Hops: 8, Looks: 2, Longest: 2, Records: 4}},
		{great, api.Ask{Kind: api.AskWhen, Time: -5}, api.Census{Bytes: b, Hops: 200, Looks: 10, Longest: 18, Records: 180}},
		{p, api.Ask{Kind: api.AskDiff, Limit: 3}, api.Census{Bytes: b, Parts: 2*4*25 + 1, Items: 3}}, {flat, api.Ask{Kind: api.AskDiff, Limit: 1}, api.Census{Bytes: b, Parts: 2*2*9 + 1, Items: 1}},
		{great, api.Ask{Kind: api.AskDiff, Limit: 32}, api.Census{Bytes: b, Parts: 2*33*201 + 1, Items: 32}}, {p, api.Ask{Kind: api.AskDiff}, api.Census{Bytes: b, Parts: 2*25 + 1}},
		{p, api.Ask{Kind: api.AskDiff, Limit: -1}, api.Census{Bytes: b, Parts: 2*25 + 1}}, {p, api.Ask{Kind: api.AskDiff, Limit: math.MinInt}, api.Census{Bytes: b, Parts: 2*25 + 1}},
		{p, api.Ask{Kind: api.AskDiff, Limit: b}, api.Census{Bytes: b, Parts: 2*(b+1)*25 + 1, Items: b}}, {p, api.Ask{Kind: api.AskDiff, Limit: b + 1}, api.Census{Bytes: b, Parts: 2*(b+1)*25 + 1, Items: b}},
		{great, api.Ask{Kind: api.AskDiff, Limit: math.MaxInt}, api.Census{Bytes: b, Parts: 2*(b+1)*201 + 1, Items: b}}, {p, api.Ask{Kind: api.AskDiff, Limit: b - 1}, api.Census{Bytes: b, Parts: 2*b*25 + 1, Items: b - 1}},
		{p, api.Ask{Kind: api.AskVersions, Limit: 3}, api.Census{Bytes: b, Hops: 24, Looks: 4, Longest: 10, Records: 40, Items: 3}}, {flat, api.Ask{Kind: api.AskVersions, Limit: 1}, api.Census{Bytes: b, Hops: 8, Looks: 2, Longest: 2, Records: 4, Items: 1}},
		{great, api.Ask{Kind: api.AskVersions, Limit: 32}, api.Census{Bytes: b, Hops: 200, Looks: 33, Longest: 18, Records: 33 * 18, Items: 32}}, {p, api.Ask{Kind: api.AskVersions, Limit: -7}, api.Census{Bytes: b, Hops: 24, Looks: 1, Longest: 10, Records: 10}},
		{p, api.Ask{Kind: api.AskVersions, Limit: math.MaxInt}, api.Census{Bytes: b, Hops: 24, Looks: b + 1, Longest: 10, Records: (b + 1) * 10, Items: b}},
		{p, api.Ask{Kind: api.AskFeed, Limit: 3}, api.Census{Bytes: b, Looks: 3, Longest: 10, Records: 30, Lists: 16, Items: 3}}, {flat, api.Ask{Kind: api.AskFeed, Limit: 1}, api.Census{Bytes: b, Looks: 1, Longest: 2, Records: 2, Lists: 16, Items: 1}},
		{great, api.Ask{Kind: api.AskFeed, Limit: 32}, api.Census{Bytes: b, Looks: 32, Longest: 18, Records: 32 * 18, Lists: 16, Items: 32}}, {p, api.Ask{Kind: api.AskFeed, Limit: -1}, api.Census{Bytes: b, Longest: 10, Lists: 16}},
		{p, api.Ask{Kind: api.AskFeed, Limit: b + 5}, api.Census{Bytes: b, Looks: b, Longest: 10, Records: b * 10, Lists: 16, Items: b}},
		{p, api.Ask{Kind: api.AskPublish, Limit: 3}, api.Census{Bytes: b}}, {p, api.Ask{Kind: api.AskTick}, api.Census{Bytes: b}}, {p, api.Ask{Kind: api.AskEvict, Limit: 3}, api.Census{Bytes: b}}, {p, api.Ask{Kind: api.AskDrop}, api.Census{Bytes: b}},
		{p, api.Ask{Limit: 3}, api.Census{Bytes: b}}, {p, api.Ask{Kind: -1, Limit: 3}, api.Census{Bytes: b}}, {p, api.Ask{Kind: 11, Limit: 3}, api.Census{Bytes: b}}, {p, api.Ask{Kind: math.MaxInt}, api.Census{Bytes: b}},
	} {
		if got := Most(x.p, x.a); got != x.want {
			t.Errorf("%+v: %+v, want %+v", x.a, got, x.want)
		}
	}
}

// P32.1: of parameters that may not be, bytes alone; of whatever arena, all.
func TestMostOfParameters(t *testing.T) {
	kinds := []int{api.AskAsof, api.AskWhen, api.AskInterval, api.AskDiff, api.AskFeed, api.AskVersions}
	change := []func(p *api.Params, n int){
		func(p *api.Params, n int) { p.Size = n }, func(p *api.Params, n int) { p.Height = n }, func(p *api.Params, n int) { p.MaxID = n }, func(p *api.Params, n int) { p.MaxKey = n },
		func(p *api.Params, n int) { p.Changes = n }, func(p *api.Params, n int) { p.Cache = n }, func(p *api.Params, n int) { p.Page = n },
	}
	least := []int{1, 0, 0, 0, 0, 0, 1}
	most := []int{32, 8, 24, 48, 4096, 8, 32}
	for i, f := range change {
		for _, n := range []int{math.MinInt, least[i] - 1, least[i], most[i], most[i] + 1, math.MaxInt} {
			p := params()
			f(&p, n)
			for _, kind := range kinds {
				got := Most(p, api.Ask{Kind: kind, Limit: 2})
				if may := n >= least[i] && n <= most[i]; (got != api.Census{Bytes: 1 << 31}) != may || got.Bytes != 1<<31 {
					t.Error(p, kind, got)
				}
			}
		}
	}
	for _, n := range []int{math.MinInt, -1, 0, 1, 1<<22 + 1, math.MaxInt} {
		for _, kind := range kinds {
			p, a := params(), api.Ask{Kind: kind, Limit: 2}
			want := Most(p, a)
			p.Arena = n
			if got := Most(p, a); got != want {
				t.Error(p, kind, got)
			}
		}
	}
	if got := Most(api.Params{}, api.Ask{Kind: api.AskWhen}); got != (api.Census{Bytes: 1 << 31}) {
		t.Error(got)
	}
}

// P32.1: each number counts, alone, and beside others that are below.
func TestWithin(t *testing.T) {
	if !Within(api.Census{}, api.Census{}) {
		t.Error("nothing is not within nothing")
	}
	all := api.Census{Bytes: 1, Hops: 2, Parts: 3, Looks: 4, Longest: 5, Records: 6, Lists: 7, Items: 8}
	fields := reflect.TypeFor[api.Census]().NumField()
	for i := range fields {
		for _, n := range []int{math.MinInt, -1, 1, math.MaxInt} {
			one := all
			field := reflect.ValueOf(&one).Elem().Field(i)
			if n == 1 || n == -1 {
				field.SetInt(field.Int() + int64(n))
			} else {
				field.SetInt(int64(n))
			}
			if Within(one, all) != (n < 0) || Within(all, one) != (n > 0) {
				t.Error(i, n, Within(one, all), Within(all, one))
			}
		}
	}
	if fields != 8 || !Within(all, all) || Within(api.Census{Lists: 2}, api.Census{Bytes: 9, Lists: 1}) {
		t.Error(fields, "numbers")
	}
}

// drawn is a request of a directory with so many epochs.
func drawn(r *rand.Rand, p api.Params, last int, ids []string) api.Ask {
	from, to, limit := r.Intn(last+1), r.Intn(last+1), 1+r.Intn(p.Page)
	from, to = min(from, to), max(from, to)
	id := []byte(ids[r.Intn(len(ids))])
	switch kind := api.AskAsof + r.Intn(6); kind {
	case api.AskAsof:
		return api.Ask{Kind: kind, ID: id, To: to}
	case api.AskWhen:
		return api.Ask{Kind: kind, ID: id, To: to, Time: r.Intn(10*last + 20)}
	case api.AskInterval:
		return api.Ask{Kind: kind, ID: id, From: from, To: to}
	case api.AskDiff:
		return api.Ask{Kind: kind, From: from, To: to, Limit: limit}
	case api.AskFeed:
		return api.Ask{Kind: kind, From: from, To: to, Epoch: min(from+1+r.Intn(to-from+1), max(to, from+1)), Limit: limit}
	}
	return api.Ask{Kind: api.AskVersions, ID: id, From: from, To: to, Limit: limit}
}

// deepest is identities of 24 bytes, the last one with a fork for each of its bits above it; ahead of it stand a shorter one and none.
func deepest() []string {
	long := strings.Repeat("\x00", 24)
	ids := []string{"", long[:23]}
	for i := range 24 {
		for bit := range 8 {
			ids = append(ids, long[:i]+string([]byte{1 << bit})+long[i+1:])
		}
	}
	return append(ids, long)
}

// P32.2: whatever a directory answers, an error too, is within.
func TestAnswersAreWithin(t *testing.T) {
	r := rand.New(rand.NewSource(32))
	var many [][]string
	for i := range 255 {
		many = append(many, []string{"a", fmt.Sprint(i)})
	}
	for _, x := range []struct {
		p      api.Params
		epochs [][]string
		tries  int
	}{
		{params(), nil, 20}, {params(), [][]string{{"a", "b"}, {"c"}, {"a", "ab"}, {"a"}, {"", "\x00"}}, 300},
		{tight(api.Params{Size: 1, Height: 8, MaxID: 3, MaxKey: 1, Changes: 510, Page: 32}), many, 300},
		{tight(api.Params{Size: 32, Height: 4, MaxID: 24, MaxKey: 1, Changes: 300, Cache: 1, Page: 20}), slices.Collect(slices.Chunk(deepest(), 32)), 300},
	} {
		w := directory(t, x.p, x.epochs)
		ids := append(slices.Concat(x.epochs...), "nobody", "z")
		for range x.tries {
			a := drawn(r, x.p, len(x.epochs), ids)
			b := do(t, w, a)
			c, errno := Of(x.p.Size, a.Kind, b)
			if errno != api.OK || !Within(c, Most(x.p, a)) {
				t.Fatal(a, c, errno, Most(x.p, a))
			}
		}
	}
}

// looked is how great looks at epochs are, from a last one on.
func looked(last int, epochs []int) api.Census {
	c := api.Census{Looks: len(epochs)}
	for _, epoch := range epochs {
		n := len(skip.Way(last, epoch))
		c.Longest = max(c.Longest, n)
		c.Records += n
	}
	return c
}

// rising is so many epochs, from one on.
func rising(from, n int) []int {
	var l []int
	for i := range n {
		l = append(l, from+i)
	}
	return l
}

// P32.2: where ways, looks and pages are about as great as may be.
func TestGreatest(t *testing.T) {
	p := tight(api.Params{Size: 2, Height: 8, MaxID: 24, MaxKey: 1, Changes: 600, Page: 32})
	epochs := slices.Collect(slices.Chunk(deepest(), 32))
	for len(epochs) < 255 {
		epochs = append(epochs, []string{"a"})
	}
	w := directory(t, p, epochs)
	times := rising(0, 256)
	for i := range times {
		times[i] *= 10
	}
	long := []byte(deepest()[194])
	whole := api.Census{Hops: 24*8 + 2}
	when := looked(255, seek.Probes(times, 1285))
	when.Hops = whole.Hops
	page := looked(255, rising(101, 32))
	page.Items = 32
	versions := looked(255, rising(223, 33))
	versions.Hops, versions.Items = 2, 32
	for _, x := range []struct {
		a    api.Ask
		want api.Census
	}{
		{api.Ask{Kind: api.AskAsof, ID: long, To: 255}, whole}, {api.Ask{Kind: api.AskInterval, ID: long, From: 9, To: 255}, whole},
		{api.Ask{Kind: api.AskWhen, ID: long, To: 255, Time: 1285}, when},
		{api.Ask{Kind: api.AskFeed, From: 100, To: 255, Epoch: 101, Limit: 32}, page},
		{api.Ask{Kind: api.AskVersions, ID: []byte("a"), To: 255, Limit: 32}, versions},
		{api.Ask{Kind: api.AskFeed, To: 1, Epoch: 1, Index: 15, Limit: 1}, api.Census{Looks: 1, Lists: 5, Items: 1}},
	} {
		b := do(t, w, x.a)
		got, errno := Of(p.Size, x.a.Kind, b)
		if got.Bytes -= len(b); errno != api.OK || got != x.want || !Within(got, Most(p, x.a)) {
			t.Errorf("%+v: %+v, %v", x.a, got, errno)
		}
	}
}

// Whatever bytes, parameters and requests there are, each call ends.
func TestWhatever(t *testing.T) {
	r := rand.New(rand.NewSource(23))
	some := replies(t)
	numbers := []int{math.MinInt, -1, 0, 1, 2, 3, 8, 24, 32, 1 << 31, math.MaxInt}
	n := func() int { return numbers[r.Intn(len(numbers))] }
	for range 5000 {
		x := some[r.Intn(len(some))]
		b := tell.Encode(size, x.kind, x.r)
		b[r.Intn(len(b))] = byte(r.Intn(256))
		if c, errno := Of(size, x.kind, b); errno == api.OK && c.Bytes != len(b) || errno != api.OK && c != (api.Census{}) {
			t.Fatal(b, c, errno)
		}
		p := api.Params{Size: n(), Height: n(), MaxID: n(), MaxKey: n(), Changes: n(), Arena: n(), Cache: n(), Page: n()}
		if most := Most(p, api.Ask{Kind: r.Intn(13) - 1, Limit: n(), From: n(), To: n()}); !Within(most, most) || most.Bytes != 1<<31 || !Within(api.Census{}, most) {
			t.Fatal(p, most)
		}
	}
}
