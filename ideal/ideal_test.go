package ideal

import (
	"bytes"
	"fmt"
	"math"
	"math/rand"
	"slices"
	"sort"
	"strings"
	"testing"

	"annals/api"
)

// plain are parameters that may be: 8 epochs, 10 changes, pages of 3.
func plain() api.Params {
	return api.Params{Size: 4, Height: 3, MaxID: 2, MaxKey: 4, Changes: 10, Arena: 781, Cache: 1, Page: 3}
}

// wide are parameters that hold a lot.
func wide() api.Params {
	return api.Params{Size: 4, Height: 8, MaxID: 3, MaxKey: 4, Changes: 1000, Arena: 1 << 22, Cache: 0, Page: 32}
}

// batch is bindings of words like "a=1".
func batch(words ...string) []api.Binding {
	var l []api.Binding
	for _, w := range words {
		id, key, _ := strings.Cut(w, "=")
		l = append(l, api.Binding{ID: []byte(id), Key: []byte(key)})
	}
	return l
}

// entry is one of the log.
func entry(time int, words ...string) api.Entry {
	return api.Entry{Time: time, Batch: batch(words...)}
}

// told is all of an answer in one text: none and nil are the same.
func told(x any) string { return fmt.Sprintf("%+v", x) }

// some is a map with four epochs behind the first one.
func some(t *testing.T) *Map {
	t.Helper()
	m, errno := Of(plain(), []api.Entry{entry(5, "b=1", "a=1", "aa=1"), entry(5, "a=2"), entry(9, "c=", "=0"), entry(20, "a=3", "b=2")})
	if errno != api.OK {
		t.Fatal(errno)
	}
	return m
}

// state is all that a map tells of itself.
func state(m *Map) string {
	out := fmt.Sprint(m.Epoch(), m.Changes(), m.Now())
	for e := -1; e <= m.Epoch()+1; e++ {
		out += fmt.Sprint(" ", m.Time(e), m.Batch(e))
	}
	return out
}

// answered holds an answer against the wanted one, and that nothing has changed.
func answered(t *testing.T, m *Map, a api.Ask, want api.Answer) {
	t.Helper()
	before := state(m)
	if got := m.Do(a); told(got) != told(want) {
		t.Errorf("%+v:\n%+v\nnot\n%+v", a, got, want)
	}
	if state(m) != before {
		t.Errorf("%+v has changed the map", a)
	}
}

// failedWith is an answer that has an error, and nothing else.
func failedWith(errno api.Errno) api.Answer { return api.Answer{Code: errno} }

// P16.1, example 1
func TestNew(t *testing.T) {
	m, errno := New(plain())
	if errno != api.OK || m == nil {
		t.Fatal(errno)
	}
	if m.Epoch() != 0 || m.Changes() != 0 || m.Now() != 0 || m.Time(0) != 0 || len(m.Batch(0)) != 0 {
		t.Error(state(m))
	}
	answered(t, m, api.Ask{Kind: api.AskAsof, ID: []byte("a")}, api.Answer{})
	answered(t, m, api.Ask{Kind: api.AskWhen, ID: []byte("a"), Time: 7}, api.Answer{})
	answered(t, m, api.Ask{Kind: api.AskInterval, ID: []byte("a")}, api.Answer{Same: true})
	answered(t, m, api.Ask{Kind: api.AskDiff, Limit: 1}, api.Answer{})
	answered(t, m, api.Ask{Kind: api.AskFeed, Epoch: 1, Limit: 1}, api.Answer{})
	answered(t, m, api.Ask{Kind: api.AskVersions, Limit: 1}, api.Answer{})
}

// P16.1: admit's errors.
func TestNewErrors(t *testing.T) {
	small, no := plain(), plain()
	small.Arena--
	no.Page = 0
	for _, c := range []struct {
		p    api.Params
		want api.Errno
	}{{small, api.ErrFull}, {no, api.ErrArg}, {api.Params{}, api.ErrArg}} {
		if m, errno := New(c.p); m != nil || errno != c.want {
			t.Error(c.p, m, errno)
		}
		// also ahead of what is wrong with entries
		if m, errno := Of(c.p, []api.Entry{{Time: -1}}); m != nil || errno != c.want {
			t.Error(c.p, m, errno)
		}
	}
}

// P16.1
func TestOf(t *testing.T) {
	for _, l := range [][]api.Entry{nil, {}} {
		m, errno := Of(plain(), l)
		fresh, _ := New(plain())
		if errno != api.OK || state(m) != state(fresh) {
			t.Error(errno, m)
		}
	}
	m := some(t)
	if m.Epoch() != 4 || m.Changes() != 8 || m.Now() != 20 {
		t.Error(state(m))
	}
	for e, want := range []api.Entry{{}, entry(5, "b=1", "a=1", "aa=1"), entry(5, "a=2"), entry(9, "c=", "=0"), entry(20, "a=3", "b=2")} {
		if m.Time(e) != want.Time || told(m.Batch(e)) != told(want.Batch) {
			t.Errorf("epoch %d: %d %v", e, m.Time(e), m.Batch(e))
		}
	}
	// the same by hand
	n, _ := New(plain())
	for e := 1; e <= 4; e++ {
		n.Do(api.Ask{Kind: api.AskTick, Time: m.Time(e)})
		n.Do(api.Ask{Kind: api.AskPublish, Batch: m.Batch(e)})
	}
	if state(m) != state(n) {
		t.Error(state(m), state(n))
	}
	if m, errno := Of(plain(), []api.Entry{entry(0, "a=1"), entry(api.MaxTime, "a=1"), entry(api.MaxTime, "a=1")}); errno != api.OK || m.Now() != 1<<50 || m.Time(1) != 0 {
		t.Error(errno)
	}
}

// P16.1: wrong entries; times ahead of batches, wherever they stand.
func TestOfErrors(t *testing.T) {
	full := []api.Entry{entry(1, "a", "b", "c", "d", "e", "f", "g", "h", "i", "j")}
	var seven, eight []api.Entry
	for i := range 8 {
		if i < 7 {
			seven = append(seven, entry(i, "a"))
		}
		eight = append(eight, entry(i, "a"))
	}
	var long []string
	for i := range 33 {
		long = append(long, string([]byte{byte(i)}))
	}
	cases := []struct {
		what string
		l    []api.Entry
		want api.Errno
	}{
		{"as many changes as may be", full, api.OK},
		{"one change too many", append(slices.Clone(full), entry(1, "a")), api.ErrQuota},
		{"one change too many at once", []api.Entry{entry(1, "a"), full[0]}, api.ErrQuota},
		{"as many epochs as may be", seven, api.OK},
		{"one epoch too many", eight, api.ErrQuota},
		{"a time below 0", []api.Entry{entry(-1, "a")}, api.ErrArg},
		{"the least time", []api.Entry{entry(math.MinInt, "a")}, api.ErrArg},
		{"a time above MaxTime", []api.Entry{entry(1<<50+1, "a")}, api.ErrArg},
		{"the greatest time", []api.Entry{entry(math.MaxInt, "a")}, api.ErrArg},
		{"a time that falls", []api.Entry{entry(5, "a"), entry(4, "a")}, api.ErrArg},
		{"a time that falls later", []api.Entry{entry(5, "a"), entry(5, "a"), entry(7, "a"), entry(6, "a")}, api.ErrArg},
		{"a time below an earlier one alone", []api.Entry{entry(5, "a"), entry(9, "a"), entry(8, "a")}, api.ErrArg},
		{"no bindings", []api.Entry{entry(5, "a"), entry(6)}, api.ErrEmpty},
		{"too many bindings", []api.Entry{entry(5, long...)}, api.ErrFull},
		{"an identity too long", []api.Entry{entry(5, "abc")}, api.ErrArg},
		{"a key too long", []api.Entry{entry(5, "a=12345")}, api.ErrArg},
		{"an identity twice", []api.Entry{entry(5, "a", "b", "a")}, api.ErrTwice},
		{"a batch, then a time", []api.Entry{entry(5), entry(4, "a")}, api.ErrArg},
		{"a batch, then a time that may not be", []api.Entry{entry(5, "a", "a"), entry(-4, "a")}, api.ErrArg},
		{"too many epochs, then a time", append(slices.Clone(eight), entry(0, "a")), api.ErrArg},
		{"two wrong batches", []api.Entry{entry(5, "a", "a"), entry(6)}, api.ErrTwice},
		{"two wrong batches the other way", []api.Entry{entry(5), entry(6, "a", "a")}, api.ErrEmpty},
		{"too many changes, then none", []api.Entry{full[0], entry(6, "a"), entry(6)}, api.ErrQuota},
		{"a wrong batch in too many epochs", append(slices.Clone(seven), entry(7, "a", "a")), api.ErrTwice},
	}
	for _, c := range cases {
		if m, errno := Of(plain(), c.l); errno != c.want || (m != nil) != (errno == api.OK) {
			t.Errorf("%s: %v %d, not %d", c.what, m, errno, c.want)
		}
	}
}

// P16.2: AskPublish
func TestPublish(t *testing.T) {
	m, _ := New(plain())
	ask := func(words ...string) api.Ask { return api.Ask{Kind: api.AskPublish, Batch: batch(words...)} }
	if x := m.Do(ask("a=1", "b=")); told(x) != told(api.Answer{Epoch: 1}) {
		t.Error(x)
	}
	m.Do(api.Ask{Kind: api.AskTick, Time: 7})
	if x := m.Do(ask("=1234", "zz=5")); told(x) != told(api.Answer{Epoch: 2}) {
		t.Error(x)
	}
	if m.Epoch() != 2 || m.Changes() != 4 || m.Time(1) != 0 || m.Time(2) != 7 || told(m.Batch(2)) != told(batch("=1234", "zz=5")) {
		t.Error(state(m))
	}
	var many []string
	for i := range 33 {
		many = append(many, string([]byte{byte(i)}))
	}
	for errno, a := range map[api.Errno]api.Ask{api.ErrEmpty: ask(), api.ErrFull: ask(many...), api.ErrTwice: ask("a", "b", "a"), api.ErrQuota: ask(many[:7]...)} {
		answered(t, m, a, failedWith(errno))
	}
	answered(t, m, ask("abc"), failedWith(api.ErrArg))
	answered(t, m, ask("a=12345"), failedWith(api.ErrArg))
	answered(t, m, ask(append([]string{"abc"}, many...)...), failedWith(api.ErrFull))
	answered(t, m, ask(append([]string{"abc"}, many[:8]...)...), failedWith(api.ErrArg))
	answered(t, m, ask(append([]string{many[0]}, many[:8]...)...), failedWith(api.ErrTwice))
	if x := m.Do(ask(many[:6]...)); told(x) != told(api.Answer{Epoch: 3}) || m.Changes() != 10 {
		t.Error(x)
	}
	answered(t, m, ask("a"), failedWith(api.ErrQuota))
}

// P16.2: what other kinds ask does not count for AskPublish and AskTick.
func TestPublishOfOtherFields(t *testing.T) {
	m, _ := New(plain())
	a := api.Ask{Kind: api.AskPublish, Batch: batch("a=1"), ID: []byte("long"), From: -1, To: -1, Time: -1, Some: true, Epoch: -1, Index: -1, Limit: -1}
	if x := m.Do(a); told(x) != told(api.Answer{Epoch: 1}) || m.Time(1) != 0 {
		t.Error(x)
	}
	a.Kind, a.Time = api.AskTick, 3
	if x := m.Do(a); told(x) != told(api.Answer{}) || m.Now() != 3 || m.Epoch() != 1 {
		t.Error(x)
	}
}

// P16.2: as many epochs, and as many changes, as there may be.
func TestQuota(t *testing.T) {
	for height := range 9 {
		p := wide()
		p.Height = height
		m, _ := New(p)
		for e := 1; e < 1<<height; e++ {
			if x := m.Do(api.Ask{Kind: api.AskPublish, Batch: batch("a")}); told(x) != told(api.Answer{Epoch: e}) {
				t.Fatal(height, x)
			}
		}
		answered(t, m, api.Ask{Kind: api.AskPublish, Batch: batch("a")}, failedWith(api.ErrQuota))
		answered(t, m, api.Ask{Kind: api.AskPublish}, failedWith(api.ErrEmpty))
	}
	for changes := range 6 {
		p := plain()
		p.Changes = changes
		m, _ := New(p)
		answered(t, m, api.Ask{Kind: api.AskPublish, Batch: batch("a", "b", "c", "d", "e", "f")[:changes+1]}, failedWith(api.ErrQuota))
		for range changes {
			m.Do(api.Ask{Kind: api.AskPublish, Batch: batch("a")})
		}
		if m.Changes() != changes {
			t.Error(changes, state(m))
		}
		answered(t, m, api.Ask{Kind: api.AskPublish, Batch: batch("a")}, failedWith(api.ErrQuota))
	}
}

// P16.2: AskTick
func TestTick(t *testing.T) {
	m, _ := New(plain())
	now := 0
	for _, time := range []int{0, 5, 5, 4, 0, 6, 1 << 50, 7, 1 << 50} {
		if x := m.Do(api.Ask{Kind: api.AskTick, Time: time}); told(x) != told(api.Answer{}) {
			t.Error(time, x)
		}
		now = max(now, time)
		if m.Now() != now {
			t.Error(time, m.Now())
		}
		for _, wrong := range []int{-1, 1<<50 + 1, math.MinInt, math.MaxInt} {
			answered(t, m, api.Ask{Kind: api.AskTick, Time: wrong}, failedWith(api.ErrArg))
		}
	}
	if m.Epoch() != 0 || m.Time(0) != 0 {
		t.Error(state(m))
	}
}

// queries are asks of the six kinds that are answered with OK; ranges are four of them, pages three.
func queries() map[int]api.Ask {
	out := map[int]api.Ask{}
	for _, kind := range []int{api.AskAsof, api.AskWhen, api.AskInterval, api.AskDiff, api.AskFeed, api.AskVersions} {
		out[kind] = api.Ask{Kind: kind, ID: []byte("a"), From: 1, To: 3, Time: 9, Epoch: 2, Limit: 2}
	}
	return out
}

// P16.2: what all queries have in common.
func TestCommonErrors(t *testing.T) {
	m := some(t)
	long := []byte("abc")
	for kind, good := range queries() {
		if x := m.Do(good); x.Code != api.OK {
			t.Fatal(kind, x)
		}
		ranged := kind != api.AskAsof && kind != api.AskWhen
		paged := ranged && kind != api.AskInterval
		check := func(what string, applies bool, want api.Errno, change func(a *api.Ask)) {
			t.Helper()
			a := good
			change(&a)
			got := m.Do(a)
			if applies && told(got) != told(failedWith(want)) {
				t.Errorf("kind %d, %s: %+v, not %d", kind, what, got, want)
			}
			if !applies && told(got) != told(m.Do(good)) {
				t.Errorf("kind %d, %s: %+v", kind, what, got)
			}
		}
		check("a long ID", true, api.ErrArg, func(a *api.Ask) { a.ID = long })
		for _, n := range []int{-1, math.MinInt} {
			check("To below 0", true, api.ErrArg, func(a *api.Ask) { a.To = n })
			check("From below 0", ranged, api.ErrArg, func(a *api.Ask) { a.From = n })
			check("a long ID and To above", true, api.ErrArg, func(a *api.Ask) { a.ID, a.To = long, 5 })
			check("From below 0 and Limit", ranged, api.ErrArg, func(a *api.Ask) { a.From, a.Limit = n, 0 })
		}
		for _, n := range []int{5, 8, math.MaxInt} {
			check("To above E", true, api.ErrFuture, func(a *api.Ask) { a.To = n })
			check("To above E and From above To", true, api.ErrFuture, func(a *api.Ask) { a.To, a.From = n, math.MaxInt })
			check("To above E and Limit", true, api.ErrFuture, func(a *api.Ask) { a.To, a.Limit, a.Time = n, 0, -1 })
		}
		for _, n := range []int{4, 5, math.MaxInt} {
			check("From above To", ranged, api.ErrOrder, func(a *api.Ask) { a.From = n })
			check("From above To and Limit", ranged, api.ErrOrder, func(a *api.Ask) { a.From, a.Limit = n, 0 })
		}
		for _, n := range []int{0, -1, 4, math.MinInt, math.MaxInt} {
			check("Limit", paged, api.ErrArg, func(a *api.Ask) { a.Limit = n })
			if paged {
				check("Limit and cursor", true, api.ErrArg, func(a *api.Ask) { a.Limit, a.Epoch = n, 0 })
			}
		}
		for _, n := range []int{1, 3} {
			a := good
			if a.Limit = n; m.Do(a).Code != api.OK {
				t.Errorf("kind %d, Limit %d: %+v", kind, n, m.Do(a))
			}
		}
		short := good
		if short.ID = []byte("ab"); m.Do(short).Code != api.OK {
			t.Errorf("kind %d: an ID of MaxID bytes: %+v", kind, m.Do(short))
		}
	}
}

// P16.2: AskAsof
func TestAsof(t *testing.T) {
	m := some(t)
	cases := []struct {
		id    string
		to    int
		key   string
		since int // 0: not present
	}{
		{"a", 0, "", 0}, {"a", 1, "1", 1}, {"a", 2, "2", 2}, {"a", 3, "2", 2}, {"a", 4, "3", 4},
		{"b", 1, "1", 1}, {"b", 3, "1", 1}, {"b", 4, "2", 4}, {"aa", 4, "1", 1}, {"c", 2, "", 0}, {"c", 3, "", 3}, {"c", 4, "", 3},
		{"", 2, "", 0}, {"", 3, "0", 3}, {"", 4, "0", 3}, {"d", 4, "", 0}, {"ab", 4, "", 0}, {"A", 4, "", 0},
	}
	for _, c := range cases {
		want := api.Answer{Present: c.since > 0, Key: []byte(c.key), Since: c.since}
		answered(t, m, api.Ask{Kind: api.AskAsof, ID: []byte(c.id), To: c.to}, want)
		answered(t, m, api.Ask{Kind: api.AskAsof, ID: []byte(c.id), To: c.to, From: -9, Time: -9, Some: true, Epoch: 77, Index: -1, Limit: -4, Batch: batch("a", "a")}, want)
	}
}

// P16.2: AskWhen
func TestWhen(t *testing.T) {
	m := some(t)
	cases := []struct{ time, to, epoch int }{
		{0, 4, 0}, {4, 4, 0}, {5, 4, 2}, {8, 4, 2}, {9, 4, 3}, {19, 4, 3}, {20, 4, 4}, {21, 4, 4}, {1 << 50, 4, 4}, {math.MaxInt, 4, 4},
		{5, 1, 1}, {20, 3, 3}, {20, 2, 2}, {20, 1, 1}, {20, 0, 0}, {0, 0, 0}, {4, 1, 0}, {8, 3, 2},
	}
	for _, c := range cases {
		want := m.Do(api.Ask{Kind: api.AskAsof, ID: []byte("a"), To: c.epoch})
		want.Epoch = c.epoch
		answered(t, m, api.Ask{Kind: api.AskWhen, ID: []byte("a"), Time: c.time, To: c.to}, want)
	}
	for _, time := range []int{-1, math.MinInt} {
		answered(t, m, api.Ask{Kind: api.AskWhen, ID: []byte("a"), Time: time, To: 4}, failedWith(api.ErrEarly))
		answered(t, m, api.Ask{Kind: api.AskWhen, ID: []byte("a"), Time: time, To: 5}, failedWith(api.ErrFuture))
		answered(t, m, api.Ask{Kind: api.AskWhen, ID: []byte("abc"), Time: time}, failedWith(api.ErrArg))
	}
	// epochs at time 0
	m, _ = Of(plain(), []api.Entry{entry(0, "a=1"), entry(0, "a=2")})
	answered(t, m, api.Ask{Kind: api.AskWhen, ID: []byte("a"), To: 2}, api.Answer{Epoch: 2, Present: true, Key: []byte("2"), Since: 2})
	answered(t, m, api.Ask{Kind: api.AskWhen, ID: []byte("a"), To: 1}, api.Answer{Epoch: 1, Present: true, Key: []byte("1"), Since: 1})
	answered(t, m, api.Ask{Kind: api.AskWhen, ID: []byte("a"), To: 0}, api.Answer{})
}

// P16.2: AskInterval; example 6 of the whole.
func TestInterval(t *testing.T) {
	m := some(t)
	cases := []struct {
		id       string
		from, to int
		same     bool
	}{
		{"a", 2, 3, true}, {"a", 1, 3, false}, {"a", 0, 3, false}, {"a", 3, 3, true}, {"a", 3, 4, false}, {"a", 4, 4, true}, {"a", 0, 0, true},
		{"b", 1, 3, true}, {"b", 0, 3, false}, {"b", 1, 4, false}, {"c", 0, 2, true}, {"c", 2, 3, false}, {"c", 3, 4, true}, {"d", 0, 4, true}, {"", 3, 4, true}, {"", 2, 4, false},
	}
	for _, c := range cases {
		want := m.Do(api.Ask{Kind: api.AskAsof, ID: []byte(c.id), To: c.to})
		want.Same = c.same
		answered(t, m, api.Ask{Kind: api.AskInterval, ID: []byte(c.id), From: c.from, To: c.to}, want)
	}
}

// item is one of words.
func item(id, key string, since int) api.Item {
	return api.Item{ID: []byte(id), Key: []byte(key), Since: since}
}

// P16.2: AskDiff; in the order of bits shorter identities are ahead.
func TestDiff(t *testing.T) {
	m := some(t)
	none, a, b, c, aa := item("", "0", 3), item("a", "3", 4), item("b", "2", 4), item("c", "", 3), item("aa", "1", 1)
	cases := []struct {
		from, to int
		behind   string // - is none
		limit    int
		want     []api.Item
		more     bool
	}{
		{0, 4, "-", 3, []api.Item{none, a, b}, true}, {0, 4, "-", 1, []api.Item{none}, true}, {0, 4, "-", 2, []api.Item{none, a}, true},
		{0, 4, "", 3, []api.Item{a, b, c}, true}, {0, 4, "b", 3, []api.Item{c, aa}, false}, {0, 4, "b", 2, []api.Item{c, aa}, false}, {0, 4, "b", 1, []api.Item{c}, true},
		{0, 4, "c", 1, []api.Item{aa}, false}, {0, 4, "aa", 1, nil, false}, {0, 4, "zz", 3, nil, false}, {0, 4, "B", 3, []api.Item{a, b, c}, true}, {0, 4, "d", 3, []api.Item{aa}, false}, {0, 4, "a\xff", 3, nil, false}, {0, 4, "Az", 3, []api.Item{aa}, false},
		{1, 4, "-", 3, []api.Item{none, a, b}, true}, {1, 4, "b", 3, []api.Item{c}, false}, {2, 4, "c", 3, nil, false}, {3, 4, "-", 3, []api.Item{a, b}, false}, {3, 4, "-", 2, []api.Item{a, b}, false}, {4, 4, "-", 3, nil, false},
		{0, 1, "-", 3, []api.Item{item("a", "1", 1), item("b", "1", 1), aa}, false}, {0, 2, "-", 3, []api.Item{item("a", "2", 2), item("b", "1", 1), aa}, false}, {1, 2, "-", 3, []api.Item{item("a", "2", 2)}, false},
		{1, 1, "-", 3, nil, false}, {0, 0, "-", 1, nil, false}, {2, 3, "-", 3, []api.Item{none, c}, false},
	}
	for _, c := range cases {
		ask := api.Ask{Kind: api.AskDiff, From: c.from, To: c.to, Limit: c.limit}
		if c.behind != "-" {
			ask.Some, ask.ID = true, []byte(c.behind)
		}
		answered(t, m, ask, api.Answer{Items: c.want, More: c.more})
	}
	// an ID counts only where Some is set
	answered(t, m, api.Ask{Kind: api.AskDiff, To: 4, Limit: 3, ID: []byte("zz")}, api.Answer{Items: []api.Item{none, a, b}, More: true})
}

// event is one of words.
func event(epoch, index int, id, key string) api.Event {
	return api.Event{Epoch: epoch, Index: index, ID: []byte(id), Key: []byte(key)}
}

// P16.2: AskFeed
func TestFeed(t *testing.T) {
	m := some(t)
	all := []api.Event{event(1, 0, "b", "1"), event(1, 1, "a", "1"), event(1, 2, "aa", "1"), event(2, 0, "a", "2"), event(3, 0, "c", ""), event(3, 1, "", "0"), event(4, 0, "a", "3"), event(4, 1, "b", "2")}
	for from := range 5 {
		for to := from; to <= 4; to++ {
			for limit := 1; limit <= 3; limit++ {
				for at, e := range all {
					ask := api.Ask{Kind: api.AskFeed, From: from, To: to, Epoch: e.Epoch, Index: e.Index, Limit: limit}
					if e.Epoch <= from || e.Epoch > to {
						if from != to || e.Epoch != from+1 || e.Index != 0 {
							answered(t, m, ask, failedWith(api.ErrCursor))
						}
						continue
					}
					var want api.Answer
					for _, x := range all[at:] {
						if x.Epoch > to {
							break
						}
						if len(want.Events) == limit {
							want.More, want.Epoch, want.Since = true, x.Epoch, x.Index
							break
						}
						want.Events = append(want.Events, x)
					}
					answered(t, m, ask, want)
				}
			}
		}
	}
	// without epochs there is one cursor, and no event
	for epoch := range 5 {
		answered(t, m, api.Ask{Kind: api.AskFeed, From: epoch, To: epoch, Epoch: epoch + 1, Limit: 1}, api.Answer{})
		answered(t, m, api.Ask{Kind: api.AskFeed, From: epoch, To: epoch, Epoch: epoch + 1, Limit: 3, Some: true, ID: []byte("b"), Time: -1}, api.Answer{})
	}
}

// P16.2: cursors that name nothing.
func TestFeedCursors(t *testing.T) {
	m := some(t)
	cases := []struct{ from, to, epoch, index int }{
		{2, 2, 2, 0}, {2, 2, 4, 0}, {2, 2, 3, 1}, {2, 2, 3, -1}, {2, 2, 0, 0}, {2, 2, -1, 0}, {0, 0, 0, 0}, {0, 0, 1, 1}, {4, 4, 4, 0}, {4, 4, 5, 1}, {4, 4, 6, 0}, {2, 2, math.MaxInt, 0}, {2, 2, 3, math.MinInt}, {2, 2, 3, math.MaxInt}, {2, 2, math.MinInt, 0},
		{1, 3, 1, 0}, {1, 3, 4, 0}, {1, 3, 0, 0}, {1, 3, -1, 0}, {1, 3, 2, 1}, {1, 3, 2, -1}, {1, 3, 3, 2}, {0, 3, 1, 3}, {0, 4, 5, 0}, {0, 4, 0, 0}, {0, 4, math.MaxInt, 0}, {0, 4, math.MinInt, 0}, {0, 4, 1, math.MaxInt}, {0, 4, 1, math.MinInt}, {3, 4, 4, 2}, {3, 4, 5, 0}, {3, 4, 3, 0},
	}
	for _, c := range cases {
		answered(t, m, api.Ask{Kind: api.AskFeed, From: c.from, To: c.to, Epoch: c.epoch, Index: c.index, Limit: 2}, failedWith(api.ErrCursor))
	}
}

// P16.2: AskVersions
func TestVersions(t *testing.T) {
	m := some(t)
	cases := []struct {
		id              string
		from, to, limit int
		want            []api.Item
		more            bool
	}{
		{"a", 0, 4, 3, []api.Item{item("a", "3", 4), item("a", "2", 2), item("a", "1", 1)}, false},
		{"a", 0, 4, 2, []api.Item{item("a", "3", 4), item("a", "2", 2)}, true}, {"a", 0, 4, 1, []api.Item{item("a", "3", 4)}, true},
		{"a", 0, 3, 3, []api.Item{item("a", "2", 2), item("a", "1", 1)}, false}, {"a", 1, 4, 2, []api.Item{item("a", "3", 4), item("a", "2", 2)}, false}, {"a", 2, 4, 3, []api.Item{item("a", "3", 4)}, false}, {"a", 2, 3, 3, nil, false}, {"a", 4, 4, 3, nil, false}, {"a", 0, 0, 1, nil, false},
		{"b", 0, 4, 3, []api.Item{item("b", "2", 4), item("b", "1", 1)}, false}, {"c", 0, 4, 3, []api.Item{item("c", "", 3)}, false}, {"", 0, 4, 1, []api.Item{item("", "0", 3)}, false}, {"d", 0, 4, 3, nil, false}, {"ab", 0, 4, 3, nil, false},
	}
	for _, c := range cases {
		answered(t, m, api.Ask{Kind: api.AskVersions, ID: []byte(c.id), From: c.from, To: c.to, Limit: c.limit}, api.Answer{Items: c.want, More: c.more})
	}
}

// P16.2: AskEvict, AskDrop: nothing, whatever else they have; and kinds that there are not.
func TestOtherKinds(t *testing.T) {
	m := some(t)
	for _, a := range []api.Ask{{}, {ID: []byte("abc"), From: -1, To: -1, Time: -1, Some: true, Epoch: -1, Index: -1, Limit: -1, Batch: batch("a")}, {From: 9, To: 9, Limit: 99}} {
		for _, a.Kind = range []int{api.AskEvict, api.AskDrop} {
			answered(t, m, a, api.Answer{})
		}
		for _, a.Kind = range []int{0, 11, 12, -1, 256 + api.AskAsof, 1<<32 + api.AskPublish, math.MinInt, math.MaxInt} {
			answered(t, m, a, failedWith(api.ErrKind))
		}
	}
}

// P16.3: epochs that there are not.
func TestNoSuchEpoch(t *testing.T) {
	m := some(t)
	for _, e := range []int{-1, 5, 6, 256, math.MinInt, math.MaxInt} {
		if m.Time(e) != 0 || len(m.Batch(e)) != 0 {
			t.Error(e, m.Time(e), m.Batch(e))
		}
	}
	if m.Time(4) != 20 || len(m.Batch(4)) != 2 || m.Time(0) != 0 || len(m.Batch(0)) != 0 {
		t.Error(state(m))
	}
}

// P16.3: Back
func TestBack(t *testing.T) {
	m := some(t)
	before := state(m)
	m.Do(api.Ask{Kind: api.AskTick, Time: 99})
	if m.Now() != 99 {
		t.Error(m.Now())
	}
	if m.Back(); m.Now() != 20 || state(m) != before {
		t.Error(state(m))
	}
	if m.Back(); state(m) != before {
		t.Error(state(m))
	}
	// a time between is taken again
	m.Do(api.Ask{Kind: api.AskTick, Time: 50})
	m.Do(api.Ask{Kind: api.AskPublish, Batch: batch("a")})
	if m.Time(5) != 50 {
		t.Error(state(m))
	}
	m, _ = New(plain())
	m.Do(api.Ask{Kind: api.AskTick, Time: 99})
	if m.Back(); m.Now() != 0 {
		t.Error(m.Now())
	}
}

// P16.3: a copy, and the map that it was made of, go on by themselves.
func TestCopy(t *testing.T) {
	m := some(t)
	m.Do(api.Ask{Kind: api.AskTick, Time: 30})
	before := state(m)
	a, b := m.Copy(), m.Copy()
	if a == m || a == b || state(a) != before || state(b) != before {
		t.Fatal(state(a), state(b))
	}
	a.Do(api.Ask{Kind: api.AskPublish, Batch: batch("x=1")})
	a.Do(api.Ask{Kind: api.AskTick, Time: 40})
	if state(m) != before || state(b) != before {
		t.Error(state(m), state(b))
	}
	b.Do(api.Ask{Kind: api.AskTick, Time: 33})
	b.Do(api.Ask{Kind: api.AskPublish, Batch: batch("y=2")})
	b.Back()
	m.Do(api.Ask{Kind: api.AskPublish, Batch: batch("z=3")})
	if told(a.Batch(5)) != told(batch("x=1")) || told(b.Batch(5)) != told(batch("y=2")) || told(m.Batch(5)) != told(batch("z=3")) || a.Now() != 40 || b.Now() != 33 || m.Now() != 30 || a.Time(5) != 30 || b.Time(5) != 33 || m.Time(5) != 30 {
		t.Error(state(a), state(b), state(m))
	}
	answered(t, a, api.Ask{Kind: api.AskAsof, ID: []byte("y"), To: 5}, api.Answer{})
	// it has the same parameters
	for range 3 {
		a.Do(api.Ask{Kind: api.AskPublish, Batch: batch("a")})
	}
	if a.Epoch() != 6 || a.Changes() != 10 {
		t.Error(state(a))
	}
	answered(t, a, api.Ask{Kind: api.AskDiff, To: 1, Limit: 4}, failedWith(api.ErrArg))
}

// Objects: of maps that no call made.
func TestNoMap(t *testing.T) {
	var none *Map
	for _, m := range []*Map{none, {}, new(Map)} {
		for kind := -1; kind <= 12; kind++ {
			for _, a := range []api.Ask{{}, {Batch: batch("a"), Limit: 1, Epoch: 1}, {To: -1, ID: []byte("abc")}} {
				a.Kind = kind
				if x := m.Do(a); told(x) != told(failedWith(api.ErrNil)) {
					t.Error(kind, x)
				}
			}
		}
		m.Back()
		if m.Epoch() != 0 || m.Changes() != 0 || m.Now() != 0 || m.Copy() != nil {
			t.Error(m)
		}
		for _, e := range []int{0, 1, -1, math.MinInt, math.MaxInt} {
			if m.Time(e) != 0 || len(m.Batch(e)) != 0 {
				t.Error(m)
			}
		}
	}
}

// row is a change, as the model has it.
type row struct {
	epoch, index int
	id, key      string
}

// model is the document's map, spelled out: all changes in one list.
type model struct {
	p     api.Params
	rows  []row
	times []int
	clock int
}

// last is the last row of an identity up to an epoch.
func (m *model) last(id string, epoch int) (row, bool) {
	var out row
	found := false
	for _, r := range m.rows {
		if r.id == id && r.epoch <= epoch {
			out, found = r, true
		}
	}
	return out, found
}

// count is how many changes an epoch has.
func (m *model) count(epoch int) int {
	n := 0
	for _, r := range m.rows {
		if r.epoch == epoch {
			n++
		}
	}
	return n
}

// ofKey is an answer of an identity at an epoch.
func (m *model) ofKey(id string, epoch int) api.Answer {
	r, ok := m.last(id, epoch)
	return api.Answer{Present: ok, Key: []byte(r.key), Since: r.epoch}
}

// ahead tells whether an identity's bits are ahead of another one's: the shorter one, else the lesser bytes.
func ahead(a, b string) bool {
	return len(a) < len(b) || len(a) == len(b) && a < b
}

func (m *model) publish(a api.Ask) api.Answer {
	last := len(m.times) - 1
	if len(a.Batch) == 0 {
		return failedWith(api.ErrEmpty)
	}
	if len(a.Batch) > 32 {
		return failedWith(api.ErrFull)
	}
	for _, b := range a.Batch {
		if len(b.ID) > m.p.MaxID || len(b.Key) > m.p.MaxKey {
			return failedWith(api.ErrArg)
		}
	}
	for i, b := range a.Batch {
		for _, c := range a.Batch[:i] {
			if bytes.Equal(b.ID, c.ID) {
				return failedWith(api.ErrTwice)
			}
		}
	}
	if last+1 == 1<<m.p.Height || len(m.rows)+len(a.Batch) > m.p.Changes {
		return failedWith(api.ErrQuota)
	}
	for i, b := range a.Batch {
		m.rows = append(m.rows, row{last + 1, i, string(b.ID), string(b.Key)})
	}
	m.times = append(m.times, m.clock)
	return api.Answer{Epoch: last + 1}
}

func (m *model) when(a api.Ask) api.Answer {
	if a.Time < 0 {
		return failedWith(api.ErrEarly)
	}
	epoch := 0
	for e, time := range m.times {
		if e <= a.To && time <= a.Time {
			epoch = e
		}
	}
	out := m.ofKey(string(a.ID), epoch)
	out.Epoch = epoch
	return out
}

func (m *model) diff(a api.Ask) api.Answer {
	var out api.Answer
	for _, r := range m.rows {
		if now, _ := m.last(r.id, a.To); now != r || r.epoch <= a.From || r.epoch > a.To || a.Some && !ahead(string(a.ID), r.id) {
			continue
		}
		out.Items = append(out.Items, item(r.id, r.key, r.epoch))
	}
	sort.Slice(out.Items, func(i, j int) bool { return ahead(string(out.Items[i].ID), string(out.Items[j].ID)) })
	if len(out.Items) > a.Limit {
		out.Items, out.More = out.Items[:a.Limit], true
	}
	return out
}

func (m *model) feed(a api.Ask) api.Answer {
	if a.From == a.To && (a.Epoch != a.From+1 || a.Index != 0) {
		return failedWith(api.ErrCursor)
	}
	if a.From != a.To && (a.Epoch < a.From+1 || a.Epoch > a.To || a.Index < 0 || a.Index > m.count(a.Epoch)-1) {
		return failedWith(api.ErrCursor)
	}
	var out api.Answer
	for _, r := range m.rows {
		if r.epoch > a.To || r.epoch < a.Epoch || r.epoch == a.Epoch && r.index < a.Index {
			continue
		}
		if len(out.Events) == a.Limit {
			out.More, out.Epoch, out.Since = true, r.epoch, r.index
			break
		}
		out.Events = append(out.Events, event(r.epoch, r.index, r.id, r.key))
	}
	return out
}

func (m *model) versions(a api.Ask) api.Answer {
	var out api.Answer
	for i := len(m.rows) - 1; i >= 0; i-- {
		r := m.rows[i]
		if r.id != string(a.ID) || r.epoch <= a.From || r.epoch > a.To {
			continue
		}
		if len(out.Items) == a.Limit {
			out.More = true
			break
		}
		out.Items = append(out.Items, item(r.id, r.key, r.epoch))
	}
	return out
}

// common is the errors that queries have in common.
func (m *model) common(a api.Ask) api.Errno {
	four := a.Kind == api.AskInterval || a.Kind == api.AskDiff || a.Kind == api.AskFeed || a.Kind == api.AskVersions
	three := four && a.Kind != api.AskInterval
	switch {
	case len(a.ID) > m.p.MaxID, a.To < 0, four && a.From < 0:
		return api.ErrArg
	case a.To > len(m.times)-1:
		return api.ErrFuture
	case four && a.From > a.To:
		return api.ErrOrder
	case three && (a.Limit < 1 || a.Limit > m.p.Page):
		return api.ErrArg
	}
	return api.OK
}

// do answers as the document says.
func (m *model) do(a api.Ask) api.Answer {
	switch a.Kind {
	case api.AskPublish:
		return m.publish(a)
	case api.AskTick:
		if a.Time < 0 || a.Time > 1<<50 {
			return failedWith(api.ErrArg)
		}
		m.clock = max(m.clock, a.Time)
		return api.Answer{}
	case api.AskEvict, api.AskDrop:
		return api.Answer{}
	}
	if a.Kind < 1 || a.Kind > 10 {
		return failedWith(api.ErrKind)
	}
	if errno := m.common(a); errno != api.OK {
		return failedWith(errno)
	}
	out := m.ofKey(string(a.ID), a.To)
	switch a.Kind {
	case api.AskWhen:
		return m.when(a)
	case api.AskInterval:
		out.Same = !out.Present || out.Since <= a.From
	case api.AskDiff:
		return m.diff(a)
	case api.AskFeed:
		return m.feed(a)
	case api.AskVersions:
		return m.versions(a)
	}
	return out
}

// drawnID is an identity of few letters, seldom too long.
func drawnID(source *rand.Rand) []byte {
	id := make([]byte, source.Intn(4))
	if source.Intn(20) == 0 {
		id = make([]byte, 4)
	}
	for i := range id {
		id[i] = []byte{0, 'a', 'b', 255}[source.Intn(4)]
	}
	return id
}

// drawnBatch is a batch, mostly one that may be.
func drawnBatch(source *rand.Rand) []api.Binding {
	var l []api.Binding
	for range source.Intn(6) {
		b := api.Binding{ID: drawnID(source), Key: make([]byte, source.Intn(5))}
		source.Read(b.Key)
		twice := slices.ContainsFunc(l, func(x api.Binding) bool { return bytes.Equal(x.ID, b.ID) })
		if !twice || source.Intn(10) == 0 {
			l = append(l, b)
		}
	}
	return l
}

// drawnNumber is a number about the epochs that there are, seldom a wild one.
func drawnNumber(source *rand.Rand, most int) int {
	if source.Intn(30) == 0 {
		return []int{math.MinInt, math.MaxInt, -1, 1 << 50, 1<<50 + 1}[source.Intn(5)]
	}
	return source.Intn(most + 2)
}

// drawnAsk is a request, mostly one that is answered.
func drawnAsk(source *rand.Rand, m *Map) api.Ask {
	a := api.Ask{
		Kind: source.Intn(12), ID: drawnID(source), From: drawnNumber(source, m.Epoch()/2), To: drawnNumber(source, m.Epoch()), Time: drawnNumber(source, m.Now()+3),
		Some: source.Intn(2) == 0, Epoch: drawnNumber(source, m.Epoch()), Index: drawnNumber(source, 3), Limit: drawnNumber(source, 5), Batch: drawnBatch(source),
	}
	if source.Intn(3) == 0 {
		a.Epoch, a.Index = a.From+1, 0
	}
	return a
}

// P16.2, P16.3: whatever is asked, against the model.
func TestAgainstTheModel(t *testing.T) {
	source := rand.New(rand.NewSource(1))
	ok := map[int]int{}
	for range 40 {
		p := wide()
		p.Height, p.Changes, p.Page = source.Intn(7), source.Intn(120), 1+source.Intn(6)
		m, errno := New(p)
		if errno != api.OK {
			t.Fatal(errno)
		}
		want := &model{p: p, times: []int{0}}
		for range 600 {
			a := drawnAsk(source, m)
			got, answer := m.Do(a), want.do(a)
			if told(got) != told(answer) {
				t.Fatalf("%+v:\n%+v\nnot\n%+v", a, got, answer)
			}
			if got.Code == api.OK {
				ok[a.Kind]++
			}
			if m.Epoch() != len(want.times)-1 || m.Changes() != len(want.rows) || m.Now() != want.clock {
				t.Fatalf("%+v: %s", a, state(m))
			}
		}
		for e := range want.times {
			if m.Time(e) != want.times[e] || len(m.Batch(e)) != want.count(e) {
				t.Fatal(state(m))
			}
		}
	}
	for kind := 1; kind <= 10; kind++ {
		if ok[kind] < 50 {
			t.Errorf("kind %d was answered %d times only", kind, ok[kind])
		}
	}
}

// grown is a map of some epochs, drawn.
func grown(t *testing.T, source *rand.Rand, p api.Params, epochs int) *Map {
	t.Helper()
	m, errno := New(p)
	if errno != api.OK {
		t.Fatal(errno)
	}
	for m.Epoch() < epochs {
		m.Do(api.Ask{Kind: api.AskTick, Time: m.Now() + source.Intn(3)})
		m.Do(api.Ask{Kind: api.AskPublish, Batch: drawnBatch(source)})
	}
	return m
}

// P16.1: a map of what another one has is the same.
func TestOfWhatAMapHas(t *testing.T) {
	source := rand.New(rand.NewSource(2))
	for range 20 {
		m := grown(t, source, wide(), source.Intn(30))
		var l []api.Entry
		for e := 1; e <= m.Epoch(); e++ {
			l = append(l, api.Entry{Time: m.Time(e), Batch: m.Batch(e)})
		}
		n, errno := Of(wide(), l)
		m.Back()
		if errno != api.OK || state(m) != state(n) {
			t.Fatal(errno, state(m))
		}
	}
}

// P16.4: what is answered for an epoch stays so.
func TestWhatIsAnsweredStays(t *testing.T) {
	source := rand.New(rand.NewSource(3))
	for range 20 {
		m := grown(t, source, wide(), 10)
		var asks []api.Ask
		var answers []string
		for len(asks) < 300 {
			a := drawnAsk(source, m)
			if a.Kind != api.AskPublish && a.Kind != api.AskTick {
				if x := m.Do(a); x.Code != api.ErrFuture {
					asks, answers = append(asks, a), append(answers, told(x))
				}
			}
		}
		for range 10 {
			m.Do(api.Ask{Kind: api.AskTick, Time: m.Now() + source.Intn(3)})
			m.Do(api.Ask{Kind: api.AskPublish, Batch: drawnBatch(source)})
			for i, a := range asks {
				if told(m.Do(a)) != answers[i] {
					t.Fatalf("%+v: %+v, no longer %s", a, m.Do(a), answers[i])
				}
			}
		}
	}
}

// P16.5: a feed read page by page has all changes, each once.
func TestFeedPageByPage(t *testing.T) {
	source := rand.New(rand.NewSource(4))
	for range 30 {
		m := grown(t, source, wide(), 12)
		from := source.Intn(13)
		to := from + source.Intn(13-from)
		var want []api.Event
		for e := from + 1; e <= to; e++ {
			for i, b := range m.Batch(e) {
				want = append(want, event(e, i, string(b.ID), string(b.Key)))
			}
		}
		for limit := 1; limit <= 32; limit++ {
			var got []api.Event
			a := api.Ask{Kind: api.AskFeed, From: from, To: to, Epoch: from + 1, Limit: limit}
			for more, pages := true, 0; more; pages++ {
				x := m.Do(a)
				if x.Code != api.OK || x.More && len(x.Events) != limit || len(x.Events) > limit || pages > len(want) {
					t.Fatalf("%+v: %+v", a, x)
				}
				got = append(got, x.Events...)
				a.Epoch, a.Index, more = x.Epoch, x.Since, x.More
			}
			if told(got) != told(want) {
				t.Fatalf("%d to %d by %d: %v", from, to, limit, got)
			}
		}
	}
}

// P16.5: a diff read page by page has all identities that changed, each once.
func TestDiffPageByPage(t *testing.T) {
	source := rand.New(rand.NewSource(5))
	for range 30 {
		m := grown(t, source, wide(), 12)
		from := source.Intn(13)
		to := from + source.Intn(13-from)
		want := map[string]api.Item{}
		for e := from + 1; e <= to; e++ {
			for _, b := range m.Batch(e) {
				want[string(b.ID)] = item(string(b.ID), string(b.Key), e)
			}
		}
		for limit := 1; limit <= 32; limit++ {
			var got []api.Item
			a := api.Ask{Kind: api.AskDiff, From: from, To: to, Limit: limit}
			for more, pages := true, 0; more; pages++ {
				x := m.Do(a)
				if x.Code != api.OK || x.More && len(x.Items) != limit || len(x.Items) > limit || pages > len(want) {
					t.Fatalf("%+v: %+v", a, x)
				}
				got = append(got, x.Items...)
				if more = x.More; more {
					a.Some, a.ID = true, x.Items[len(x.Items)-1].ID
				}
			}
			if len(got) != len(want) {
				t.Fatalf("%d to %d by %d: %v", from, to, limit, got)
			}
			for i, x := range got {
				if told(x) != told(want[string(x.ID)]) || i > 0 && !ahead(string(got[i-1].ID), string(x.ID)) {
					t.Fatalf("%d to %d by %d: %v", from, to, limit, got)
				}
			}
		}
	}
}

// scribble writes over a list, and over the room behind its end.
func scribble(b []byte) {
	b = b[:cap(b)]
	for i := range b {
		b[i] ^= 0xff
	}
}

// scribbleBatch writes over all bytes of a batch, then over its bindings.
func scribbleBatch(l []api.Binding) {
	for i := range l {
		scribble(l[i].ID)
		scribble(l[i].Key)
		l[i] = api.Binding{ID: []byte("?")}
	}
}

// Memory: what is handed in is neither changed nor kept.
func TestArguments(t *testing.T) {
	room := batch("a=1", "b=2", "c=3")
	room[0].ID = append(make([]byte, 0, 9), 'a')
	kept := told(room) + told(room[0].ID[:9])
	m, _ := New(plain())
	m.Do(api.Ask{Kind: api.AskPublish, Batch: room[:2]})
	if told(room)+told(room[0].ID[:9]) != kept {
		t.Error("the batch has changed", room)
	}
	before := state(m)
	scribbleBatch(room)
	if state(m) != before {
		t.Error("the batch is kept", state(m))
	}
	entries := []api.Entry{entry(5, "a=1"), entry(6, "b=1", "a=2")}
	m, _ = Of(plain(), entries)
	if told(entries) != told([]api.Entry{entry(5, "a=1"), entry(6, "b=1", "a=2")}) {
		t.Error("the entries have changed", entries)
	}
	before = state(m)
	for i := range entries {
		scribbleBatch(entries[i].Batch)
		entries[i] = api.Entry{Time: 77}
	}
	if state(m) != before {
		t.Error("the entries are kept", state(m))
	}
	m = some(t)
	for kind, a := range queries() {
		a.ID, a.Some = append(make([]byte, 0, 8), 'a'), kind == api.AskDiff
		m.Do(a)
		if string(a.ID[:8]) != "a\x00\x00\x00\x00\x00\x00\x00" {
			t.Error(kind, a.ID[:8])
		}
	}
}

// lists are all lists of bytes of an answer.
func lists(x api.Answer) [][]byte {
	out := [][]byte{x.Key}
	for _, i := range x.Items {
		out = append(out, i.ID, i.Key)
	}
	for _, e := range x.Events {
		out = append(out, e.ID, e.Key)
	}
	return out
}

// Memory: no list of an answer is shared, with the map, with what was asked, or with another one.
func TestAnswers(t *testing.T) {
	m, _ := Of(plain(), []api.Entry{entry(1, "a=1", "b=1"), entry(2, "a=2"), entry(3, "a=3", "c=1")})
	before := state(m)
	for kind, a := range queries() {
		a.From, a.Epoch, a.Limit = 0, 1, 3
		want := told(m.Do(a))
		x, y := m.Do(a), m.Do(a)
		all := lists(x)
		for i := range all {
			rest := told(slices.Delete(slices.Clone(all), i, i+1))
			scribble(all[i])
			if told(slices.Delete(slices.Clone(all), i, i+1)) != rest {
				t.Error(kind, "two lists share", i)
			}
		}
		for i := range x.Items {
			x.Items[i].Since = 77
		}
		for i := range x.Events {
			x.Events[i].Epoch = 77
		}
		if told(y) != want || told(m.Do(a)) != want || state(m) != before || string(a.ID) != "a" {
			t.Error(kind, "an answer is shared")
		}
	}
	for e := range 4 {
		one, other := m.Batch(e), m.Batch(e)
		want := told(other)
		scribbleBatch(one)
		if told(other) != want || state(m) != before {
			t.Error("a batch is shared", e)
		}
	}
	// nor do a copy's batches change with those of the map that are handed out
	c := m.Copy()
	scribbleBatch(c.Batch(1))
	if state(c) != before || state(m) != before {
		t.Error("a copy's batch is shared")
	}
}
