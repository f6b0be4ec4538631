package query

import (
	"bytes"
	"math"
	"math/rand"
	"reflect"
	"slices"
	"testing"

	"annals/admit"
	"annals/api"
	"annals/device"
	"annals/history"
)

// allKinds is each kind of requests, and some that there are not.
func allKinds() []int {
	return []int{
		api.AskPublish, api.AskTick, api.AskAsof, api.AskWhen, api.AskInterval, api.AskDiff, api.AskFeed, api.AskEvict,
		api.AskDrop, api.AskVersions, 0, 11, -1, math.MaxInt, math.MinInt,
	}
}

// isQuery tells whether a kind is one of those that ask of an epoch.
func isQuery(kind int) bool {
	return slices.Contains([]int{api.AskAsof, api.AskWhen, api.AskInterval, api.AskDiff, api.AskFeed, api.AskVersions}, kind)
}

// The objects that no call made: ErrNil ahead of all else, and nothing beside it.
func TestNoDirectory(t *testing.T) {
	for _, h := range []*history.History{nil, {}} {
		for _, kind := range allKinds() {
			a := api.Ask{Kind: kind, To: -1, Batch: batch("k", "a")}
			if got := Wrong(h, a); got != api.ErrNil {
				t.Error(kind, got)
			}
			if got := told(Run(h, a)); got != told(api.Reply{Answer: api.Answer{Code: api.ErrNil}}) {
				t.Error(kind, got)
			}
		}
	}
}

// wrong is what the document's words say of a request, one after the other.
func wrong(a api.Ask, p api.Params, last int) api.Errno {
	isRange := isQuery(a.Kind) && a.Kind != api.AskAsof && a.Kind != api.AskWhen
	isPaged := isRange && a.Kind != api.AskInterval
	if !isQuery(a.Kind) {
		return api.ErrKind
	}
	if len(a.ID) > p.MaxID || a.To < 0 || isRange && a.From < 0 {
		return api.ErrArg
	}
	if a.To > last {
		return api.ErrFuture
	}
	if isRange && a.From > a.To {
		return api.ErrOrder
	}
	if isPaged && (a.Limit < 1 || a.Limit > p.Page) {
		return api.ErrArg
	}
	return api.OK
}

// P27.1: each error, and which comes first, at all that a request may have.
func TestWrong(t *testing.T) {
	d := five(t)
	met := map[api.Errno]int{}
	epochs := []int{math.MinInt, -1, 0, 1, 4, 5, 6, math.MaxInt}
	for _, kind := range allKinds() {
		for _, id := range []string{"", "ab", "abc"} {
			for _, from := range epochs {
				for _, to := range epochs {
					for _, limit := range []int{math.MinInt, -1, 0, 1, 4, 5, math.MaxInt} {
						a := api.Ask{Kind: kind, ID: []byte(id), From: from, To: to, Limit: limit, Epoch: from + 1, Time: 30}
						want := wrong(a, d.p, 5)
						met[want]++
						if got := Wrong(d.h, a); got != want {
							t.Fatalf("%+v: %v, not %v", a, got, want)
						}
						if isQuery(kind) && want != api.OK && told(Run(d.h, a)) != told(api.Reply{Answer: api.Answer{Code: want}}) {
							t.Fatalf("%+v: %+v", a, Run(d.h, a))
						}
					}
				}
			}
		}
	}
	for _, errno := range []api.Errno{api.OK, api.ErrArg, api.ErrFuture, api.ErrOrder, api.ErrKind} {
		if met[errno] == 0 {
			t.Error(errno, "was never told")
		}
	}
}

// A kind that there is not is ErrKind, and nothing beside it.
func TestNoKind(t *testing.T) {
	d := five(t)
	for _, kind := range []int{0, 11, -1, math.MaxInt, math.MinInt} {
		if r := d.run(api.Ask{Kind: kind, ID: []byte("a"), To: 3}); r.Answer.Code != api.ErrKind {
			t.Error(kind, r)
		}
	}
}

// AskPublish: change's errors, ErrQuota, the ledger's; the new epoch.
func TestPublish(t *testing.T) {
	d := opened(t, tight(api.Params{Size: 4, Height: 2, MaxID: 2, MaxKey: 4, Changes: 40, Cache: 1, Page: 3}))
	many := make([]api.Binding, api.MaxBatch+1)
	for i := range many {
		many[i].ID = []byte{byte(i)}
	}
	refused := []struct {
		batch []api.Binding
		errno api.Errno
	}{
		{nil, api.ErrEmpty}, {many, api.ErrFull}, {batch("k", "abc"), api.ErrArg}, {batch("long!", "a"), api.ErrArg}, {batch("k", "a", "b", "a"), api.ErrTwice},
	}
	for epoch := range 3 {
		for _, x := range refused {
			if r := d.run(api.Ask{Kind: api.AskPublish, Batch: x.batch}); r.Answer.Code != x.errno {
				t.Error(x, r)
			}
		}
		if r := d.run(api.Ask{Kind: api.AskPublish, Batch: batch("k", "a", "b")}); r.Answer.Epoch != epoch+1 {
			t.Error(r)
		}
	}
	if r := d.run(api.Ask{Kind: api.AskPublish, Batch: batch("k", "a")}); r.Answer.Code != api.ErrQuota {
		t.Error("too many epochs:", r)
	}
	if r := d.run(api.Ask{Kind: api.AskPublish}); r.Answer.Code != api.ErrEmpty {
		t.Error("no binding, and too many epochs:", r)
	}
}

// AskPublish beyond the changes that there may be.
func TestPublishTooMuch(t *testing.T) {
	d := opened(t, tight(api.Params{Size: 4, Height: 4, MaxID: 2, MaxKey: 4, Changes: 3, Cache: 1, Page: 3}))
	d.publish("1", "a", "b")
	if r := d.run(api.Ask{Kind: api.AskPublish, Batch: batch("k", "a", "b")}); r.Answer.Code != api.ErrQuota {
		t.Error(r)
	}
	d.publish("2", "c")
}

// AskPublish: what the ledger refuses is told, and makes no epoch.
func TestLedgerErrors(t *testing.T) {
	p := small()
	publish := api.Ask{Kind: api.AskPublish, Batch: batch("k", "a")}
	short, _ := device.New(3)
	h, errno := history.Open(short, p, nil)
	ok(t, errno)
	if r := Run(h, publish); told(r) != told(api.Reply{Answer: api.Answer{Code: api.ErrFull}}) || h.Epoch() != 0 {
		t.Error("no room:", r)
	}
	disk, _ := device.New(admit.Sectors(p))
	h, errno = history.Open(disk, p, nil)
	ok(t, errno)
	ok(t, Run(h, publish).Answer.Code)
	disk.Fuse(1)
	for range 2 {
		if r := Run(h, publish); told(r) != told(api.Reply{Answer: api.Answer{Code: api.ErrDead}}) || h.Epoch() != 1 {
			t.Error("the device has stopped:", r)
		}
	}
	if r := Run(h, api.Ask{Kind: api.AskAsof, ID: []byte("a"), To: 1}); string(r.Answer.Key) != "k" {
		t.Error("what was published is still there:", r)
	}
}

// AskTick: ErrArg of a time that no clock tells; the clock does not fall.
func TestTick(t *testing.T) {
	d := opened(t, small())
	for _, x := range []struct {
		time, now int
		errno     api.Errno
	}{
		{5, 5, api.OK}, {-1, 5, api.ErrArg}, {api.MaxTime + 1, 5, api.ErrArg}, {math.MinInt, 5, api.ErrArg}, {math.MaxInt, 5, api.ErrArg},
		{0, 5, api.OK}, {4, 5, api.OK}, {6, 6, api.OK}, {api.MaxTime, api.MaxTime, api.OK},
	} {
		if r := d.run(api.Ask{Kind: api.AskTick, Time: x.time}); r.Answer.Code != x.errno || d.h.Now() != x.now {
			t.Error(x, r, d.h.Now())
		}
	}
}

// The first example: as of epoch 0 nobody is there.
func TestNewDirectory(t *testing.T) {
	d := opened(t, small())
	r := d.run(api.Ask{Kind: api.AskAsof, ID: []byte("a")})
	if told(r) != told(api.Reply{}) {
		t.Error(r)
	}
	if r := d.run(api.Ask{Kind: api.AskAsof, ID: []byte("a"), To: 1}); r.Answer.Code != api.ErrFuture {
		t.Error(r)
	}
	for _, kind := range []int{api.AskInterval, api.AskDiff, api.AskVersions, api.AskFeed} {
		if r := d.run(api.Ask{Kind: kind, Epoch: 1, Limit: 1}); r.Answer.Code != api.OK || r.Answer.Same != (kind == api.AskInterval) {
			t.Error(r)
		}
	}
}

// AskAsof, epoch by epoch.
func TestAsof(t *testing.T) {
	d := five(t)
	for _, x := range []struct {
		id     string
		to     int
		key    string
		since  int
		absent bool
	}{
		{"a", 0, "", 0, true}, {"a", 1, "1", 1, false}, {"a", 2, "1", 1, false}, {"a", 3, "3", 3, false}, {"a", 4, "3", 3, false}, {"a", 5, "5", 5, false},
		{"c", 1, "", 0, true}, {"c", 2, "2", 2, false}, {"z", 5, "", 0, true}, {"", 5, "", 0, true},
	} {
		r := d.run(api.Ask{Kind: api.AskAsof, ID: []byte(x.id), To: x.to})
		if told(r.Answer) != told(api.Answer{Present: !x.absent, Key: []byte(x.key), Since: x.since}) {
			t.Error(x, r.Answer)
		}
	}
}

// AskWhen: at an epoch's time, right ahead of it, and far behind all; ErrEarly alone ahead of epoch 0.
func TestWhen(t *testing.T) {
	d := five(t)
	for _, x := range []struct{ time, to, epoch int }{
		{0, 5, 0}, {9, 5, 0}, {10, 5, 1}, {19, 5, 1}, {20, 5, 2}, {49, 5, 4}, {50, 5, 5}, {51, 5, 5}, {math.MaxInt, 5, 5}, {50, 3, 3}, {29, 3, 2}, {50, 0, 0},
	} {
		r := d.run(api.Ask{Kind: api.AskWhen, ID: []byte("c"), Time: x.time, To: x.to})
		if r.Answer.Code != api.OK || r.Answer.Epoch != x.epoch || r.Answer.Present != (x.epoch >= 2) {
			t.Error(x, r.Answer)
		}
	}
	for _, time := range []int{-1, math.MinInt} {
		r := d.run(api.Ask{Kind: api.AskWhen, ID: []byte("c"), Time: time, To: 5})
		if told(r) != told(api.Reply{Answer: api.Answer{Code: api.ErrEarly}}) {
			t.Error(time, r)
		}
	}
	if r := d.run(api.Ask{Kind: api.AskWhen, Time: -1, To: 6}); r.Answer.Code != api.ErrFuture {
		t.Error("an epoch that there is not, ahead of a time:", r)
	}
}

// AskWhen of epochs that have one time: the last one of them counts.
func TestWhenTimesAreAlike(t *testing.T) {
	d := opened(t, small())
	for _, id := range []string{"a", "b", "c"} {
		d.run(api.Ask{Kind: api.AskPublish, Batch: batch("k", id)})
	}
	for to := range 4 {
		if r := d.run(api.Ask{Kind: api.AskWhen, ID: []byte("a"), To: to}); r.Answer.Epoch != to {
			t.Error(to, r.Answer)
		}
	}
}

// AskInterval: the same from since on, changed ahead of it; not there is the same.
func TestInterval(t *testing.T) {
	d := five(t)
	for _, x := range []struct {
		id       string
		from, to int
		same     bool
	}{
		{"a", 2, 4, false}, {"a", 3, 4, true}, {"a", 4, 4, true}, {"a", 2, 2, true}, {"a", 0, 2, false}, {"a", 1, 2, true}, {"c", 0, 1, true}, {"z", 0, 5, true},
	} {
		r := d.run(api.Ask{Kind: api.AskInterval, ID: []byte(x.id), From: x.from, To: x.to})
		if r.Answer.Code != api.OK || r.Answer.Same != x.same {
			t.Error(x, r.Answer)
		}
	}
}

// itemIDs is the identities of a page, one behind the other.
func itemIDs(l []api.Item) string {
	out := ""
	for _, x := range l {
		out += string(x.ID)
	}
	return out
}

// AskDiff: pages, behind an identity that is there, or is not.
func TestDiff(t *testing.T) {
	d := five(t)
	for _, x := range []struct {
		from, to, limit int
		behind          string
		ids             string
		more            bool
	}{
		{0, 5, 4, "", "abcd", true}, {0, 5, 3, "", "abc", true}, {1, 5, 4, "", "abcd", true}, {2, 5, 4, "", "abde", false}, {4, 5, 1, "", "a", false},
		{0, 5, 4, "b", "cde", false}, {0, 5, 2, "a", "bc", true}, {0, 5, 4, "aa", "", false}, {0, 5, 4, "\x00", "abcd", true}, {2, 5, 2, "c", "de", false},
		{5, 5, 1, "", "", false}, {0, 0, 1, "", "", false}, {0, 5, 4, "e", "", false}, {0, 5, 1, "d", "e", false},
	} {
		a := api.Ask{Kind: api.AskDiff, From: x.from, To: x.to, Some: x.behind != "", ID: []byte(x.behind), Limit: x.limit}
		r := d.run(a)
		if r.Answer.Code != api.OK || itemIDs(r.Answer.Items) != x.ids || r.Answer.More != x.more {
			t.Error(x, r.Answer)
		}
		// Without Some the identity does not count.
		a.Some, a.ID = false, []byte("d")
		if r := d.run(a); x.behind == "" && itemIDs(r.Answer.Items) != x.ids {
			t.Error(x, r.Answer)
		}
	}
}

// AskDiff: identities stand in the order of their bits: by their lengths, and then by their bytes.
func TestDiffOrder(t *testing.T) {
	d := opened(t, small())
	ids := []string{"", "\x00", "a", "\xff", "\x00\x00", "\x00a", "a\x00", "aa", "\xff\xff"}
	d.publish("k", "aa", "\xff", "", "a\x00", "\x00\x00", "a", "\xff\xff", "\x00", "\x00a")
	for i, id := range ids {
		r := d.run(api.Ask{Kind: api.AskDiff, To: 1, Some: true, ID: []byte(id), Limit: 4})
		var want []string
		for _, other := range ids[i+1:] {
			want = append(want, other)
		}
		if len(r.Answer.Items) != min(4, len(want)) || r.Answer.More != (len(want) > 4) {
			t.Fatal(id, r.Answer)
		}
		for k, x := range r.Answer.Items {
			if string(x.ID) != want[k] {
				t.Errorf("%q: %q at %d", id, x.ID, k)
			}
		}
	}
}

// AskFeed: each cursor that there is, at each limit, and where it goes on.
func TestFeed(t *testing.T) {
	d := five(t)
	for _, x := range []struct {
		from, to, epoch, index, limit int
		ids                           string
		more                          bool
		next, since                   int
	}{
		{0, 5, 1, 0, 1, "a", true, 1, 1}, {0, 5, 1, 0, 2, "ab", true, 2, 0}, {0, 5, 1, 1, 2, "bc", true, 3, 0}, {1, 4, 3, 0, 3, "adb", true, 4, 2},
		{1, 4, 3, 0, 4, "adbe", false, 0, 0}, {3, 5, 4, 1, 4, "bea", false, 0, 0}, {3, 4, 4, 2, 1, "e", false, 0, 0}, {3, 5, 4, 2, 1, "e", true, 5, 0},
		{2, 2, 3, 0, 1, "", false, 0, 0}, {0, 0, 1, 0, 4, "", false, 0, 0}, {5, 5, 6, 0, 4, "", false, 0, 0},
	} {
		r := d.run(api.Ask{Kind: api.AskFeed, From: x.from, To: x.to, Epoch: x.epoch, Index: x.index, Limit: x.limit})
		ids := ""
		for _, e := range r.Answer.Events {
			ids += string(e.ID)
		}
		if ids != x.ids || r.Answer.More != x.more || r.Answer.Epoch != x.next || r.Answer.Since != x.since {
			t.Error(x, r.Answer)
		}
	}
}

// AskFeed: cursors that name nothing are ErrCursor, behind the errors that all queries have.
func TestCursors(t *testing.T) {
	d := five(t)
	for _, x := range []struct{ from, to, epoch, index int }{
		{1, 3, 1, 0}, {1, 3, 0, 0}, {1, 3, -1, 0}, {1, 3, 4, 0}, {1, 3, math.MaxInt, 0}, {1, 3, math.MinInt, 0}, {1, 4, 4, 3}, {1, 4, 4, -1}, {1, 4, 2, 1},
		{1, 4, 4, math.MaxInt}, {1, 4, 4, math.MinInt}, {2, 2, 2, 0}, {2, 2, 4, 0}, {2, 2, 3, 1}, {2, 2, 3, -1}, {5, 5, 6, 1},
	} {
		a := api.Ask{Kind: api.AskFeed, From: x.from, To: x.to, Epoch: x.epoch, Index: x.index, Limit: 1}
		if r := d.run(a); told(r) != told(api.Reply{Answer: api.Answer{Code: api.ErrCursor}}) {
			t.Error(x, r)
		}
		a.Limit = 0
		if r := d.run(a); r.Answer.Code != api.ErrArg {
			t.Error(x, r)
		}
	}
}

// AskVersions: the last one first, no more than the limit, and one look more.
func TestVersions(t *testing.T) {
	d := five(t)
	for _, x := range []struct {
		id              string
		from, to, limit int
		since           []int
		more            bool
		looks           int
	}{
		{"a", 0, 5, 4, []int{5, 3, 1}, false, 3}, {"a", 0, 5, 3, []int{5, 3, 1}, false, 3}, {"a", 0, 5, 2, []int{5, 3}, true, 3}, {"a", 0, 5, 1, []int{5}, true, 2},
		{"a", 1, 5, 4, []int{5, 3}, false, 3}, {"a", 1, 5, 2, []int{5, 3}, false, 3}, {"a", 2, 4, 1, []int{3}, false, 1}, {"a", 3, 4, 1, nil, false, 1},
		{"a", 3, 3, 1, nil, false, 0}, {"z", 0, 5, 1, nil, false, 1}, {"d", 0, 5, 4, []int{4}, false, 2}, {"b", 0, 4, 1, []int{4}, true, 2}, {"a", 0, 0, 1, nil, false, 0},
	} {
		r := d.run(api.Ask{Kind: api.AskVersions, ID: []byte(x.id), From: x.from, To: x.to, Limit: x.limit})
		var since []int
		for _, item := range r.Answer.Items {
			since = append(since, item.Since)
		}
		if !slices.Equal(since, x.since) || r.Answer.More != x.more || len(r.Proof.Ways) != x.looks || len(r.Proof.Seen) != x.looks {
			t.Error(x, r.Answer, len(r.Proof.Ways))
		}
	}
}

// P27.2, P27.3: whatever is asked, in whatever order, the answer is the map's, what shows it is what the document says, and just these trees were asked for.
func TestRun(t *testing.T) {
	met := map[api.Errno]int{}
	shown := map[int]int{}
	for i, size := range []int{1, 3, 4, 16, 32} {
		for cache := range 3 {
			r := rand.New(rand.NewSource(int64(10*i + cache)))
			d := opened(t, tight(api.Params{Size: size, Height: 5, MaxID: 2, MaxKey: 4, Changes: 90, Cache: cache, Page: 4}))
			for range 700 {
				a := d.drawnAsk(r)
				reply := d.run(a)
				met[reply.Answer.Code]++
				if reply.Answer.Code == api.OK {
					shown[a.Kind]++
				}
			}
		}
	}
	for _, errno := range []api.Errno{api.ErrArg, api.ErrTwice, api.ErrQuota, api.ErrEmpty, api.ErrFuture, api.ErrOrder, api.ErrCursor, api.ErrEarly, api.ErrKind} {
		if met[errno] == 0 {
			t.Error(errno, "was never told")
		}
	}
	for kind := 1; kind <= 10; kind++ {
		if shown[kind] < 100 {
			t.Error("few were answered:", shown)
		}
	}
}

// AskEvict, AskDrop: trees go, and nothing that is answered changes.
func TestEvict(t *testing.T) {
	d := opened(t, tight(api.Params{Size: 8, Height: 7, MaxID: 2, MaxKey: 4, Changes: 120, Cache: 3, Page: 4}))
	r := rand.New(rand.NewSource(1))
	for i := range 70 {
		d.publish(string(rune('0'+i)), string(drawn(r)))
	}
	var asks []api.Ask
	var replies []string
	for len(asks) < 200 {
		a := d.drawnAsk(r)
		if isQuery(a.Kind) {
			asks = append(asks, a)
			replies = append(replies, told(d.run(a)))
		}
	}
	for _, kinds := range [][]int{{api.AskEvict}, {api.AskDrop}, {api.AskDrop, api.AskEvict}, {}} {
		for _, kind := range kinds {
			if got := d.run(api.Ask{Kind: kind}); told(got) != told(api.Reply{}) {
				t.Error(kind, got)
			}
		}
		for i, a := range asks {
			if got := told(d.run(a)); got != replies[i] {
				t.Fatalf("%+v: %s, not %s", a, got, replies[i])
			}
		}
	}
	if kept := len(d.h.Snaps().Kept()); kept >= 70 {
		t.Error("nothing went:", kept)
	}
}

// What is refused changes nothing: not the trees, not the clock, not the epochs.
func TestRefused(t *testing.T) {
	d := opened(t, tight(api.Params{Size: 4, Height: 5, MaxID: 2, MaxKey: 4, Changes: 90, Cache: 1, Page: 4}))
	for i := range 30 {
		d.publish(string(rune('0'+i)), "a")
	}
	d.run(api.Ask{Kind: api.AskEvict})
	d.run(api.Ask{Kind: api.AskAsof, ID: []byte("a"), To: 3})
	before := told([]any{d.h.Gauge(), d.h.Now(), d.h.Epoch(), d.h.Snaps().Kept(), d.h.Snaps().Built()})
	for _, a := range []api.Ask{
		{Kind: api.AskAsof, ID: []byte("abc"), To: 5}, {Kind: api.AskAsof, To: 31}, {Kind: api.AskWhen, To: 5, Time: -1}, {Kind: api.AskInterval, From: 6, To: 5},
		{Kind: api.AskDiff, From: 1, To: 5}, {Kind: api.AskFeed, From: 1, To: 5, Epoch: 1, Limit: 1}, {Kind: api.AskVersions, To: 5, Limit: 5}, {Kind: 0, To: 5},
		{Kind: api.AskPublish}, {Kind: api.AskTick, Time: -1},
	} {
		if r := d.run(a); r.Answer.Code == api.OK {
			t.Error(a, r)
		}
		if after := told([]any{d.h.Gauge(), d.h.Now(), d.h.Epoch(), d.h.Snaps().Kept(), d.h.Snaps().Built()}); after != before {
			t.Errorf("%+v: %s, not %s", a, after, before)
		}
	}
}

// spare is a text with room behind its end.
func spare(s string) []byte { return append(make([]byte, 0, len(s)+8), s...) }

// What is handed in is neither changed nor kept.
func TestHandedIn(t *testing.T) {
	d := five(t)
	l := []api.Binding{{ID: spare("q"), Key: spare("key")}, {ID: spare("r"), Key: spare("")}}
	d.run(api.Ask{Kind: api.AskPublish, Batch: l})
	if told(l) != told([]api.Binding{{ID: []byte("q"), Key: []byte("key")}, {ID: []byte("r")}}) {
		t.Error(l)
	}
	l[0].ID[0], l[0].Key[0] = 'z', 'z'
	l[1] = api.Binding{ID: []byte("y")}
	for _, kind := range []int{api.AskAsof, api.AskWhen, api.AskInterval, api.AskDiff, api.AskFeed, api.AskVersions} {
		a := api.Ask{Kind: kind, ID: spare("q"), Time: 99, To: 6, Some: true, Epoch: 1, Limit: 3}
		first := told(d.run(a))
		if string(a.ID[:3]) != "q\x00\x00" {
			t.Error(kind, "the request was changed")
		}
		r := Run(d.h, a)
		for i := range a.ID[:cap(a.ID)] {
			a.ID[:cap(a.ID)][i] = 'x'
		}
		if told(r) != first {
			t.Error(kind, "the reply has the request's memory:", r)
		}
	}
}

// room is the memory of a list, its spare room too.
type room struct{ begin, end uintptr }

// rooms is the memory of all lists in a thing.
func rooms(v reflect.Value) []room {
	var l []room
	switch v.Kind() {
	case reflect.Struct:
		for i := range v.NumField() {
			l = append(l, rooms(v.Field(i))...)
		}
	case reflect.Slice:
		if v.Cap() > 0 {
			begin := v.Pointer()
			l = append(l, room{begin, begin + uintptr(v.Cap())*v.Type().Elem().Size()})
		}
		for i := range v.Len() {
			l = append(l, rooms(v.Index(i))...)
		}
	}
	return l
}

// apart tells whether no two lists have memory in common.
func apart(l []room) bool {
	slices.SortFunc(l, func(a, b room) int { return int(a.begin) - int(b.begin) })
	for i := range l[1:] {
		if l[i+1].begin < l[i].end {
			return false
		}
	}
	return true
}

// No two lists of a reply share memory, nor of two replies; and what is written into one is not seen in the next.
func TestMemory(t *testing.T) {
	d := five(t)
	for _, kind := range []int{api.AskAsof, api.AskWhen, api.AskInterval, api.AskDiff, api.AskFeed, api.AskVersions} {
		a := api.Ask{Kind: kind, ID: []byte("a"), Time: 99, To: 5, Epoch: 1, Limit: 4}
		first, second := d.run(a), d.run(a)
		l := append(rooms(reflect.ValueOf(first)), rooms(reflect.ValueOf(second))...)
		if !apart(append(l, rooms(reflect.ValueOf(a))...)) {
			t.Error(kind, "two lists share memory")
		}
		want := told(second)
		wipe(reflect.ValueOf(&first).Elem())
		if got := told(d.run(a)); got != want || told(second) != want {
			t.Error(kind, got)
		}
	}
}

// wipe writes into all lists of a thing.
func wipe(v reflect.Value) {
	switch v.Kind() {
	case reflect.Struct:
		for i := range v.NumField() {
			wipe(v.Field(i))
		}
	case reflect.Slice:
		for i := range v.Len() {
			wipe(v.Index(i))
		}
	case reflect.Uint8:
		v.SetUint(v.Uint() ^ 0xff)
	case reflect.Int:
		v.SetInt(-7)
	}
}

// Every call ends, whatever numbers it is asked with.
func TestWhateverNumbers(t *testing.T) {
	d := five(t)
	r := rand.New(rand.NewSource(2))
	numbers := []int{math.MinInt, math.MinInt + 1, -1, 0, 1, 2, 4, 5, 6, 255, 256, 1 << 31, 1 << 50, math.MaxInt - 1, math.MaxInt}
	draw := func() int { return numbers[r.Intn(len(numbers))] }
	for range 20000 {
		a := api.Ask{Kind: 1 + r.Intn(11), From: draw(), To: draw(), Time: draw(), Epoch: draw(), Index: draw(), Limit: draw(), Some: r.Intn(2) == 0}
		a.ID = bytes.Repeat([]byte{1}, r.Intn(300))
		d.run(a)
	}
}

// Trees that others swept by hand, so that they can't be built again: the request fails as a whole; and whatever is asked then, it ends.
func TestSweptByHand(t *testing.T) {
	for _, kind := range []int{api.AskAsof, api.AskWhen, api.AskInterval, api.AskDiff, api.AskVersions} {
		d := opened(t, small())
		for i := range 10 {
			d.publish(string(rune('0'+i)), "a", "b", "c")
		}
		d.run(api.Ask{Kind: api.AskEvict})
		d.h.Snaps().Arena().Sweep(nil)
		a := api.Ask{Kind: kind, ID: []byte("a"), Time: 65, To: 6, Some: true, Epoch: 1, Limit: 4}
		if r := Run(d.h, a); r.Answer.Code == api.OK || told(r) != told(api.Reply{Answer: api.Answer{Code: r.Answer.Code}}) {
			t.Error(kind, r)
		}
		for _, kind := range allKinds() {
			for a.To = range 11 {
				a.Kind, a.Time = kind, 10*a.To+1
				Run(d.h, a)
			}
		}
	}
}

// A tree of which a page has more parts than may be shown: the answer is the map's all the same.
func TestMoreThanMaxParts(t *testing.T) {
	d := opened(t, tight(api.Params{Size: 1, Height: 8, MaxID: 24, MaxKey: 0, Changes: 2300, Cache: 0, Page: 32}))
	// Of each of 32 identities there are others that part from it at each of its last bits, so that each fork above it has another node beside it.
	deep := func(n int) []byte { return append(bytes.Repeat([]byte{0}, 23), byte(n)) }
	var beside []api.Binding
	for n := range 32 {
		id := deep(n)
		id[0] = byte(n)
		for bit := 8; bit < 8+66; bit++ {
			other := bytes.Clone(id)
			other[bit/8] ^= 0x80 >> (bit % 8)
			beside = append(beside, api.Binding{ID: other})
		}
	}
	for len(beside) > 0 {
		n := min(len(beside), api.MaxBatch)
		ok(t, d.run(api.Ask{Kind: api.AskPublish, Batch: beside[:n]}).Answer.Code)
		beside = beside[n:]
	}
	var last []api.Binding
	for n := range 32 {
		id := deep(n)
		id[0] = byte(n)
		last = append(last, api.Binding{ID: id})
	}
	before := d.h.Epoch()
	ok(t, d.run(api.Ask{Kind: api.AskPublish, Batch: last}).Answer.Code)
	r := d.run(api.Ask{Kind: api.AskDiff, From: before, To: before + 1, Limit: 32})
	if len(r.Answer.Items) != 32 || r.Answer.More || parts(r.Proof.Tree) <= api.MaxParts {
		t.Error(len(r.Answer.Items), r.Answer.More, parts(r.Proof.Tree))
	}
}

// parts is how many parts stand in a part, itself among them.
func parts(p api.Part) int {
	n := 1
	for _, kid := range p.Kids {
		n += parts(kid)
	}
	return n
}
