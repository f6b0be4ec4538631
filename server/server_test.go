package server

import (
	"bytes"
	"math"
	"math/rand"
	"testing"

	"annals/admit"
	"annals/api"
	"annals/ask"
	"annals/device"
	"annals/history"
	"annals/query"
	"annals/record"
	"annals/tell"
	"annals/verify"
)

// sized is a device of so many sectors.
func sized(t *testing.T, sectors int) *device.Device {
	t.Helper()
	d, errno := device.New(sectors)
	ok(t, errno)
	return d
}

// dead is a device that has stopped.
func dead(t *testing.T, sectors int) *device.Device {
	t.Helper()
	d := sized(t, sectors)
	ok(t, d.Fuse(0))
	d.Sync()
	return d
}

// P30.1: the errors, the first one first; and whatever is refused, the device stays as it was.
func TestOpenErrors(t *testing.T) {
	p := small()
	none, narrow := p, p
	none.Size = 0
	narrow.Arena--
	most := admit.Sectors(p)
	used := five(t).disk
	wide := p
	wide.Page++
	long := make([]byte, api.MaxSeed+1)
	burning := func(n int) *device.Device {
		d := sized(t, most)
		ok(t, d.Fuse(n))
		return d
	}
	for _, x := range []struct {
		what  string
		d     *device.Device
		p     api.Params
		seed  []byte
		errno api.Errno
	}{
		{"parameters, all else wrong too", nil, none, long, api.ErrArg}, {"an arena too small", nil, narrow, long, api.ErrFull}, {"no parameters", sized(t, most), api.Params{}, nil, api.ErrArg},
		{"parameters ahead of a small device", sized(t, 1), none, nil, api.ErrArg}, {"no device", nil, p, nil, api.ErrNil}, {"no device, a long seed", nil, p, long, api.ErrNil},
		{"a device that no call made", &device.Device{}, p, long, api.ErrNil}, {"one sector", sized(t, 1), p, nil, api.ErrFull}, {"a sector too few", sized(t, most-1), p, nil, api.ErrFull},
		{"too few, a long seed", sized(t, most-1), p, long, api.ErrFull}, {"too few, stopped", dead(t, most-1), p, long, api.ErrFull}, {"a long seed", sized(t, most), p, long, api.ErrArg},
		{"a long seed, stopped", dead(t, most), p, long, api.ErrArg}, {"stopped", dead(t, most), p, nil, api.ErrDead}, {"stops at once", burning(0), p, nil, api.ErrDead},
		{"another seed", used, p, []byte("other"), api.ErrLog}, {"another page", used, wide, []byte(seed), api.ErrLog},
	} {
		before, changes, stopped := x.d.Image(), x.d.Changes(), x.d.Dead()
		s, errno := Open(x.d, x.p, x.seed)
		if errno != x.errno || s != nil {
			t.Errorf("%s: %v, %v", x.what, s, errno)
		}
		if told(x.d.Image()) != told(before) || x.d.Changes() != changes || x.d.Dead() != (stopped || x.what == "stops at once") {
			t.Errorf("%s: the device is not as it was", x.what)
		}
	}
}

// P30.1: as many sectors as are asked for, or more; whatever parameters there may be, all that may be published goes in.
func TestOpen(t *testing.T) {
	for _, p := range []api.Params{
		small(), tight(api.Params{Size: 1, Page: 1}), tight(api.Params{Size: 32, Height: 8, MaxID: 24, MaxKey: 48, Changes: 300, Cache: 0, Page: 32}), tight(api.Params{Size: 7, Height: 5, Changes: 31, Cache: 8, Page: 32}),
	} {
		for more := range 2 {
			s, errno := Open(sized(t, admit.Sectors(p)+more), p, make([]byte, api.MaxSeed))
			if errno != api.OK || s == nil {
				t.Fatal(p, errno)
			}
			if s.Params() != p || s.Epoch() != 0 || s.Stopped() || s.Gauge() != (api.Gauge{Epochs: 1, Snapshots: 1}) || len(s.Public()) != p.Size {
				t.Error(s.Params(), s.Epoch(), s.Stopped(), s.Gauge())
			}
		}
	}
}

// P5: where sectors are as few as they may be, the log has room for one change an epoch, and each as long as it may be.
func TestRoom(t *testing.T) {
	p := tight(api.Params{Size: 1, Height: 8, MaxID: 24, MaxKey: 48, Changes: 255, Page: 1})
	d := opened(t, p)
	for i := range p.Changes {
		id := bytes.Repeat([]byte{byte(i)}, p.MaxID)
		d.publish(api.MaxTime, []api.Binding{{ID: id, Key: make([]byte, p.MaxKey)}})
	}
	if r := d.do(api.Ask{Kind: api.AskPublish, Batch: batch("k", "a")}); r.Answer.Code != api.ErrQuota || d.s.Stopped() {
		t.Error(r)
	}
}

// The eight examples of the whole.
func TestExamples(t *testing.T) {
	d := opened(t, small())
	if b := d.s.Do(nil); !bytes.Equal(b, []byte{1, 2, 1, 3}) {
		t.Error("no bytes:", b)
	}
	if b := d.s.Do([]byte{1, 8}); !bytes.Equal(b, []byte{1, 1, 0}) {
		t.Error("evict:", b)
	}
	if r := d.do(api.Ask{Kind: api.AskPublish, Batch: batch("1", "a", "b", "a")}); r.Answer.Code != api.ErrTwice || d.s.Epoch() != 0 {
		t.Error("twice:", r)
	}
	future := api.Ask{Kind: api.AskAsof, ID: []byte("a"), To: 1}
	if b := d.s.Do(written(t, future)); !bytes.Equal(b, []byte{1, 2, 1, 83}) {
		t.Error("future:", b)
	}
	for i, ids := range [][]string{{"a"}, {"b"}, {"c", "b"}, {"d"}, {"e"}} {
		d.publish(10*i, batch(string(rune('1'+i)), ids...))
	}
	before := api.Ask{Kind: api.AskAsof, ID: []byte("b"), To: 1}
	if got, errno := verify.Check(d.p, d.s.Public(), written(t, before), d.heads(before), d.s.Do(written(t, before))); errno != api.OK || got.Present {
		t.Error("not yet:", got, errno)
	}
	for from, same := range map[int]bool{2: false, 3: true} {
		a := api.Ask{Kind: api.AskInterval, ID: []byte("c"), From: from, To: 5}
		if x := d.do(a).Answer; x.Same != same || !x.Present || x.Since != 3 {
			t.Error("interval:", from, x)
		}
	}
	a := api.Ask{Kind: api.AskDiff, From: 1, To: 4, Limit: 1}
	for _, id := range []string{"b", "c", "d"} {
		x := d.do(a).Answer
		if len(x.Items) != 1 || string(x.Items[0].ID) != id || x.More != (id != "d") {
			t.Error("diff:", id, x)
		}
		a.Some, a.ID = true, []byte(id)
	}
	ok(t, d.disk.Fuse(1))
	if r := d.do(api.Ask{Kind: api.AskPublish, Batch: batch("6", "f")}); r.Answer.Code != api.ErrDead {
		t.Error("stopped:", r)
	}
	ok(t, d.disk.Crash([]byte{1, 1, 1, 1}))
	d.open()
	if n := d.s.Epoch(); n != 5 {
		t.Error("behind the crash:", n)
	}
}

// P30.2, P1, P2: each response is what the map answers, and query shows, byte for byte; and it is taken by the records that the server signed.
func TestResponses(t *testing.T) {
	for _, p := range []api.Params{small(), tight(api.Params{Size: 32, Height: 5, MaxID: 2, MaxKey: 4, Changes: 40, Page: 3}), tight(api.Params{Size: 1, Height: 8, MaxID: 24, MaxKey: 48, Changes: 400, Cache: 3, Page: 32})} {
		r := rand.New(rand.NewSource(int64(p.Size)))
		d := opened(t, p)
		h, errno := history.Open(sized(t, admit.Sectors(p)), p, []byte(seed))
		ok(t, errno)
		codes := map[api.Errno]int{}
		for range 1500 {
			a := d.drawnAsk(r)
			response := d.s.Do(written(t, a))
			want := d.m.Do(a)
			reply := query.Run(h, a)
			if told(reply.Answer) != told(want) || !bytes.Equal(response, tell.Encode(p.Size, a.Kind, reply)) {
				t.Fatalf("%+v: %x, not %+v", a, response, reply)
			}
			codes[want.Code]++
			if _, shown := ask.Roots(a); !shown || want.Code != api.OK {
				continue
			}
			if got, errno := verify.Check(p, d.s.Public(), written(t, a), d.heads(a), response); errno != api.OK || told(got) != told(want) {
				t.Fatalf("%+v: %v, %v, not %v", a, got, errno, want)
			}
		}
		for _, code := range []api.Errno{api.OK, api.ErrFuture, api.ErrOrder, api.ErrArg, api.ErrTwice, api.ErrEmpty} {
			if codes[code] < 3 && !(code == api.ErrArg && p.MaxID == 24) {
				t.Error("few of", code, codes)
			}
		}
	}
}

// P30.2: bytes that are no request: the error of their reading, as of kind 0; nothing is done.
func TestNoRequests(t *testing.T) {
	d, r := five(t), rand.New(rand.NewSource(2))
	codes := map[api.Errno]int{}
	for range 4000 {
		b := written(t, d.drawnAsk(r))
		switch r.Intn(4) {
		case 0:
			b = b[:r.Intn(len(b))]
		case 1:
			b = append(b, drawnBytes(r, 1+r.Intn(3))...)
		case 2:
			b[r.Intn(len(b))] = byte(r.Intn(20))
		default:
			b = drawnBytes(r, r.Intn(8))
		}
		_, errno := ask.Decode(b)
		if errno == api.OK {
			continue
		}
		codes[errno]++
		before := d.s.Gauge()
		if got := d.s.Do(b); !bytes.Equal(got, tell.Encode(d.p.Size, 0, api.Reply{Answer: api.Answer{Code: errno}})) || !bytes.Equal(got, []byte{1, 2, 1, byte(errno)}) {
			t.Errorf("%x: %x, not %v", b, got, errno)
		}
		if d.s.Gauge() != before || d.s.Stopped() {
			t.Error("something has changed")
		}
	}
	for _, code := range []api.Errno{api.ErrShort, api.ErrForm, api.ErrFull, api.ErrKind} {
		if codes[code] < 10 {
			t.Error("few of", code, codes)
		}
	}
}

// P30.2: behind an error of the device all requests are answered ErrDead, those that are none too; what was published stays to be seen.
func TestStopped(t *testing.T) {
	d, r := five(t), rand.New(rand.NewSource(4))
	gauge, public, roots := d.s.Gauge(), d.s.Public(), d.roots()
	ok(t, d.disk.Fuse(0))
	if d.s.Stopped() {
		t.Error("stopped ahead of an error")
	}
	asof := api.Ask{Kind: api.AskAsof, ID: []byte("a"), To: 5}
	if x := d.do(asof); x.Answer.Code != api.OK {
		t.Error("ahead of an error:", x)
	}
	for _, a := range []api.Ask{{Kind: api.AskPublish, Batch: batch("x", "x", "x")}, {Kind: api.AskPublish}} {
		if x := d.do(a); x.Answer.Code == api.ErrDead || d.s.Stopped() {
			t.Error("refused ahead of the device:", x)
		}
	}
	if x := d.do(api.Ask{Kind: api.AskPublish, Batch: batch("x", "x")}); x.Answer.Code != api.ErrDead || !d.s.Stopped() {
		t.Error(x)
	}
	dead := []byte{1, 2, 1, byte(api.ErrDead)}
	for range 300 {
		for _, b := range [][]byte{written(t, d.drawnAsk(r)), drawnBytes(r, r.Intn(9)), nil} {
			if got := d.s.Do(b); !bytes.Equal(got, dead) {
				t.Fatalf("%x: %x", b, got)
			}
		}
	}
	ok(t, d.disk.Crash(nil))
	if got := d.s.Do(written(t, asof)); !bytes.Equal(got, dead) || !d.s.Stopped() {
		t.Errorf("a crash wakes nobody: %x", got)
	}
	if d.s.Gauge() != gauge || !bytes.Equal(d.s.Public(), public) || told(d.roots()) != told(roots) || d.s.Epoch() != 5 || d.s.Params() != d.p {
		t.Error("it tells something else:", d.s.Gauge())
	}
}

// P30.3: an epoch's signed record, and history's errors.
func TestRoot(t *testing.T) {
	d := five(t)
	h, errno := history.Open(d.disk.Copy(), d.p, []byte(seed))
	ok(t, errno)
	for epoch := range 6 {
		s, errno := h.Signed(epoch)
		ok(t, errno)
		want, errno := record.Seal(d.p.Size, s)
		ok(t, errno)
		got, errno := d.s.Root(epoch)
		if errno != api.OK || !bytes.Equal(got, want) {
			t.Errorf("epoch %d: %x, %v", epoch, got, errno)
		}
	}
	for epoch, want := range map[int]api.Errno{-1: api.ErrArg, math.MinInt: api.ErrArg, 6: api.ErrFuture, math.MaxInt: api.ErrFuture} {
		if got, errno := d.s.Root(epoch); errno != want || len(got) > 0 {
			t.Errorf("epoch %d: %x, %v", epoch, got, errno)
		}
	}
	if d.s.Gauge() != h.Gauge() || !bytes.Equal(d.s.Public(), h.Public()) || d.s.Epoch() != 5 || d.s.Stopped() {
		t.Error(d.s.Gauge(), d.s.Public(), d.s.Epoch())
	}
	d.do(api.Ask{Kind: api.AskAsof, To: 3})
	d.do(api.Ask{Kind: api.AskEvict})
	h.Snaps().Evict()
	if d.s.Gauge() != h.Gauge() || d.s.Gauge().Snapshots == 6 {
		t.Error("behind an eviction:", d.s.Gauge(), h.Gauge())
	}
}

// P30.4, P1: of two servers one is asked for what it refuses, too: it answers as the other one, and has what that has.
func TestRefused(t *testing.T) {
	r := rand.New(rand.NewSource(6))
	for range 4 {
		d, plain := opened(t, small()), opened(t, small())
		refused := 0
		for range 600 {
			for range r.Intn(4) {
				a := d.drawnAsk(r)
				if d.m.Copy().Do(a).Code == api.OK {
					continue
				}
				if x := d.do(a); x.Answer.Code == api.OK {
					t.Fatal(a, x)
				}
				d.s.Do(drawnBytes(r, r.Intn(4)))
				refused++
			}
			a := d.drawnAsk(r)
			d.m.Do(a)
			if one, other := d.s.Do(written(t, a)), plain.s.Do(written(t, a)); !bytes.Equal(one, other) {
				t.Fatalf("%+v: %x, not %x", a, one, other)
			}
			if d.s.Gauge() != plain.s.Gauge() || d.s.Epoch() != plain.s.Epoch() || d.disk.Changes() != plain.disk.Changes() {
				t.Fatal(d.s.Gauge(), plain.s.Gauge())
			}
		}
		if refused < 100 || told(d.roots()) != told(plain.roots()) || told(d.disk.Image()) != told(plain.disk.Image()) {
			t.Error("not the same:", refused)
		}
	}
}

// P5: evicting and dropping changes no byte of what is answered later.
func TestEvicting(t *testing.T) {
	r := rand.New(rand.NewSource(8))
	d, plain := opened(t, small()), opened(t, small())
	for range 600 {
		d.do(api.Ask{Kind: []int{api.AskEvict, api.AskDrop}[r.Intn(2)]})
		a := d.drawnAsk(r)
		d.m.Do(a)
		if one, other := d.s.Do(written(t, a)), plain.s.Do(written(t, a)); !bytes.Equal(one, other) {
			t.Fatalf("%+v: %x, not %x", a, one, other)
		}
	}
}

// P4: behind a crash at any change of the device there are the epochs ahead, and perhaps the one on its way; records and responses are as they were.
func TestCrashes(t *testing.T) {
	r := rand.New(rand.NewSource(5))
	for fuse := range 40 {
		d := opened(t, small())
		ok(t, d.disk.Fuse(fuse))
		var asks []api.Ask
		var responses, roots [][]byte
		var lost api.Ask
		for i := 0; ; i++ {
			lost = api.Ask{Kind: api.AskPublish, Batch: batch(string(rune('a'+i)), "a", string(rune('b'+i)))}
			if d.do(lost).Answer.Code != api.OK {
				break
			}
			ok(t, d.m.Do(lost).Code)
			a := api.Ask{Kind: api.AskVersions, ID: []byte("a"), From: r.Intn(d.m.Epoch() + 1), To: d.m.Epoch(), Limit: 4}
			asks, responses = append(asks, a), append(responses, d.s.Do(written(t, a)))
			roots = d.roots()
		}
		epochs := d.m.Epoch()
		var keep []byte
		for range d.disk.Waits() {
			keep = append(keep, byte(r.Intn(2)))
		}
		ok(t, d.disk.Crash(keep))
		d.open()
		if d.s.Epoch() == epochs+1 {
			ok(t, d.m.Do(lost).Code)
		}
		if d.s.Epoch() != d.m.Epoch() || len(roots) > 0 && told(d.roots()[:epochs+1]) != told(roots) {
			t.Fatal("fuse", fuse, "epochs", epochs, d.s.Epoch())
		}
		for i, a := range asks {
			if !bytes.Equal(d.s.Do(written(t, a)), responses[i]) {
				t.Error("fuse", fuse, a)
			}
		}
		d.publish(5, batch("z", "z"))
	}
}

// The rule 'Objects': a server that no call made.
func TestNoServer(t *testing.T) {
	for _, s := range []*Server{nil, {}} {
		for _, b := range [][]byte{nil, {1, 8}, written(t, api.Ask{Kind: api.AskAsof}), make([]byte, 1000)} {
			if got := s.Do(b); len(got) > 0 {
				t.Error("Do:", got)
			}
		}
		for _, epoch := range []int{-1, 0, 1, math.MaxInt} {
			if b, errno := s.Root(epoch); errno != api.ErrNil || len(b) > 0 {
				t.Error("Root:", b, errno)
			}
		}
		if len(s.Public()) > 0 || s.Params() != (api.Params{}) || s.Gauge() != (api.Gauge{}) || s.Epoch() != 0 || !s.Stopped() {
			t.Error(s.Public(), s.Params(), s.Gauge(), s.Epoch(), s.Stopped())
		}
	}
}

// Requests are counted, those that are refused too; those of a server that no call made are not.
func TestCount(t *testing.T) {
	d := opened(t, small())
	for i, b := range [][]byte{nil, {1, 8}, {1, 11}, written(t, api.Ask{Kind: api.AskAsof}), written(t, api.Ask{Kind: api.AskPublish})} {
		d.s.Do(b)
		if n := d.s.requests.Load(); n != int64(i+1) {
			t.Error(n)
		}
	}
	var none Server
	none.Do(nil)
	if n := none.requests.Load(); n != 0 {
		t.Error(n)
	}
}

// scribble writes over a list, its spare room too.
func scribble(b []byte) {
	b = b[:cap(b)]
	for i := range b {
		b[i] ^= 0xff
	}
}

// Neither a request nor a seed is changed or kept, and nobody holds what is answered.
func TestMemory(t *testing.T) {
	d, plain := opened(t, small()), five(t)
	key := []byte(seed)
	s, errno := Open(d.disk, d.p, key)
	ok(t, errno)
	scribble(key)
	if string(key) == seed {
		t.Fatal("the seed is not written over")
	}
	d.s = s
	var asks []api.Ask
	for i, ids := range [][]string{{"a", "b"}, {"c"}, {"a"}, {"d", "b", "e"}, {"a"}} {
		asks = append(asks, api.Ask{Kind: api.AskTick, Time: 10*i + 10}, api.Ask{Kind: api.AskPublish, Batch: batch(string(rune('1'+i)), ids...)})
	}
	asks = append(asks, api.Ask{Kind: api.AskDiff, To: 5, Limit: 4}, api.Ask{Kind: api.AskFeed, To: 5, Epoch: 1, Limit: 4}, api.Ask{Kind: api.AskVersions, ID: []byte("a"), To: 5, Limit: 4})
	for _, a := range asks {
		b := written(t, a)
		with := append(make([]byte, 0, len(b)+8), b...)
		response := d.s.Do(with)
		if !bytes.Equal(with, b) || !bytes.Equal(with[len(b):cap(with)], make([]byte, cap(with)-len(b))) {
			t.Error("a request was changed:", a)
		}
		was := bytes.Clone(response)
		scribble(with)
		if !bytes.Equal(response, was) {
			t.Error("a response shares memory with a request:", a)
		}
		scribble(response)
	}
	for epoch := range 6 {
		b, errno := d.s.Root(epoch)
		ok(t, errno)
		scribble(b)
	}
	scribble(d.s.Public())
	for _, a := range asks[10:] {
		if !bytes.Equal(d.s.Do(written(t, a)), plain.s.Do(written(t, a))) {
			t.Error("something was kept:", a)
		}
	}
	if told(d.roots()) != told(plain.roots()) || !bytes.Equal(d.s.Public(), plain.s.Public()) {
		t.Error("records or key were kept")
	}
}
