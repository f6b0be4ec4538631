package world

import (
	"bytes"
	"fmt"
	"math"
	"math/rand"
	"slices"
	"testing"

	"annals/admit"
	"annals/api"
	"annals/device"
	"annals/server"
)

// told is a thing as text, in which an empty list is none.
func told(x any) string { return fmt.Sprintf("%+v", x) }

// seed is that of all worlds here.
const seed = "seed"

// small is parameters of few epochs and changes, with an arena of just what they need.
func small() api.Params {
	return api.Params{Size: 4, Height: 3, MaxID: 2, MaxKey: 4, Changes: 20, Arena: 3*20*26 + 1, Cache: 1, Page: 3}
}

func made(t *testing.T) *World {
	t.Helper()
	w, errno := New(small(), []byte(seed))
	if errno != api.OK {
		t.Fatal(errno)
	}
	return w
}

// step does one that gives no error.
func (w *World) step(t *testing.T, s api.Step) []byte {
	t.Helper()
	b, errno := w.Do(s)
	if errno != api.OK {
		t.Fatal(s, errno)
	}
	return b
}

// batch is bindings of identities that all have one key.
func batch(key string, ids ...string) []api.Binding {
	var l []api.Binding
	for _, id := range ids {
		l = append(l, api.Binding{ID: []byte(id), Key: []byte(key)})
	}
	return l
}

// publishing is its step.
func publishing(l []api.Binding) api.Step {
	return Ask(api.Ask{Kind: api.AskPublish, Batch: l})
}

// roots is all signed records of a world whose server is up.
func (w *World) roots(t *testing.T) [][]byte {
	t.Helper()
	var l [][]byte
	for epoch := range w.Server().Epoch() + 1 {
		b, errno := w.Server().Root(epoch)
		if errno != api.OK {
			t.Fatal(errno)
		}
		l = append(l, b)
	}
	return l
}

// P31.1: what admit says comes first, then what the server says; with an error there is no world.
func TestNewErrors(t *testing.T) {
	none, narrow, wide := small(), small(), small()
	none.Size = 0
	narrow.Arena--
	wide.Cache = api.MaxCache + 1
	long := make([]byte, api.MaxSeed+1)
	for _, x := range []struct {
		p     api.Params
		seed  []byte
		errno api.Errno
	}{
		{api.Params{}, nil, api.ErrArg}, {none, nil, api.ErrArg}, {wide, long, api.ErrArg}, {narrow, nil, api.ErrFull}, {narrow, long, api.ErrFull}, {small(), long, api.ErrArg},
	} {
		if w, errno := New(x.p, x.seed); errno != x.errno || w != nil {
			t.Error(x.p, len(x.seed), w, errno)
		}
	}
}

// P31.1: a device of just as many sectors as are needed, and a new directory on it.
func TestNew(t *testing.T) {
	greatest := api.Params{Size: 32, Height: 8, MaxID: 24, MaxKey: 48, Changes: 4096, Arena: 1 << 22, Cache: 3, Page: 32}
	for _, x := range []struct {
		p       api.Params
		sectors int
	}{
		{small(), 5 + 20*2}, {api.Params{Size: 1, Arena: 1, Page: 1}, 5}, {greatest, 5 + 4096*3},
	} {
		for _, n := range []int{0, 1, api.MaxSeed} {
			w, errno := New(x.p, make([]byte, n))
			if errno != api.OK {
				t.Fatal(x.p, n, errno)
			}
			if len(w.Device().Image()) != x.sectors || w.Device().Dead() || len(w.Acks()) != 0 {
				t.Error(len(w.Device().Image()), w.Device().Dead(), w.Acks())
			}
			if s := w.Server(); s == nil || s.Params() != x.p || s.Epoch() != 0 || s.Stopped() {
				t.Error(x.p, s)
			}
		}
	}
}

// P31.1: the server is that of the seed, which is neither changed nor kept.
func TestSeed(t *testing.T) {
	room := []byte("seedroom")
	w, errno := New(small(), room[:4])
	if errno != api.OK {
		t.Fatal(errno)
	}
	if string(room) != "seedroom" {
		t.Error("the seed is", string(room))
	}
	if !bytes.Equal(w.Server().Public(), made(t).Server().Public()) {
		t.Error("another key than that of the seed")
	}
	copy(room, "xxxxxxxx")
	w.step(t, api.Step{Kind: api.StepCrash})
	w.step(t, api.Step{Kind: api.StepOpen})
	other, errno := New(small(), []byte("other"))
	if errno != api.OK || bytes.Equal(w.Server().Public(), other.Server().Public()) {
		t.Error("one key for two seeds", errno)
	}
}

// P31.2: each step's errors, the first one first; nothing else is told, and nothing has changed.
func TestDoErrors(t *testing.T) {
	w := made(t)
	w.step(t, publishing(batch("1", "a")))
	before := told(w.Device())
	refused := func(s api.Step, want api.Errno) {
		t.Helper()
		if b, errno := w.Do(s); errno != want || b != nil || told(w.Device()) != before {
			t.Error(s, b, errno)
		}
	}
	for _, kind := range []int{0, -1, 5, 6, 255, math.MaxInt, math.MinInt} {
		refused(api.Step{Kind: kind, N: 1, Bytes: []byte{1, 8}}, api.ErrArg)
	}
	for _, n := range []int{-1, math.MinInt} {
		refused(api.Step{Kind: api.StepFuse, N: n}, api.ErrArg)
	}
	if w.Server() == nil || w.Server().Epoch() != 1 || len(w.Acks()) != 1 {
		t.Error("what was refused changed", w.Server(), w.Acks())
	}
	w.step(t, api.Step{Kind: api.StepCrash})
	before = told(w.Device())
	for _, b := range [][]byte{nil, {1, 8}, {7, 7}, publishing(batch("1", "b")).Bytes} {
		refused(api.Step{Kind: api.StepBytes, Bytes: b}, api.ErrDead)
	}
	refused(api.Step{Kind: 9}, api.ErrArg)
	refused(api.Step{Kind: api.StepFuse, N: -1}, api.ErrArg)
	if w.Server() != nil || len(w.Acks()) != 1 {
		t.Error("what was refused changed", w.Server(), w.Acks())
	}
}

// P31.2: a request's step is the server's response, be it a request or not; what else the step has does not count.
func TestBytes(t *testing.T) {
	w := made(t)
	for _, x := range []struct{ request, response []byte }{
		{nil, []byte{1, 2, 1, 3}}, {[]byte{}, []byte{1, 2, 1, 3}}, {[]byte{1, 8}, []byte{1, 1, 0}}, {[]byte{1, 8, 0}, []byte{1, 2, 1, 5}}, {[]byte{1, 77}, []byte{1, 2, 1, 87}},
		{publishing(batch("1", "a")).Bytes, []byte{1, 3, 0, 1, 1}}, {publishing(batch("1", "a", "a")).Bytes, []byte{1, 2, 1, 80}},
	} {
		if got := w.step(t, api.Step{Kind: api.StepBytes, N: -9, Bytes: x.request}); !bytes.Equal(got, x.response) {
			t.Error(x.request, "is answered by", got)
		}
	}
}

// P31.2: the device stops at the change behind so many; a later fuse counts in its place, and a crash puts it out.
func TestFuse(t *testing.T) {
	for n := range 4 {
		w := made(t)
		w.step(t, api.Step{Kind: api.StepFuse, N: 100})
		if b := w.step(t, api.Step{Kind: api.StepFuse, N: n, Bytes: []byte{1}}); b != nil {
			t.Error("a fuse tells", b)
		}
		changes := w.Device().Changes()
		for range n {
			if errno := w.Device().Sync(); errno != api.OK {
				t.Fatal(n, errno)
			}
		}
		if got := w.step(t, publishing(batch("1", "a"))); !bytes.Equal(got, []byte{1, 2, 1, 70}) || !w.Device().Dead() || w.Device().Changes() != changes+n {
			t.Error(n, got, w.Device().Dead(), w.Device().Changes()-changes)
		}
		// The server has stopped, but it is not down.
		if s := w.Server(); s == nil || !s.Stopped() || len(w.Acks()) != 0 {
			t.Error(n, s, w.Acks())
		}
		w.step(t, api.Step{Kind: api.StepFuse, N: 0})
		w.step(t, api.Step{Kind: api.StepCrash})
		w.step(t, api.Step{Kind: api.StepOpen})
		if got := w.step(t, publishing(batch("1", "a"))); !bytes.Equal(got, []byte{1, 3, 0, 1, 1}) {
			t.Error(n, got)
		}
	}
}

// P31.2: of what was not synced those sectors stay that the step's bytes say, and the server is down.
func TestCrash(t *testing.T) {
	for _, x := range []struct {
		keep []byte
		stay [2]bool
	}{
		{nil, [2]bool{}}, {[]byte{0, 1}, [2]bool{false, true}}, {[]byte{9}, [2]bool{true, false}}, {[]byte{255, 1, 1}, [2]bool{true, true}},
	} {
		w := made(t)
		d := w.Device()
		last := len(d.Image()) - 1
		full := bytes.Repeat([]byte{7}, api.Sector)
		for _, i := range []int{last - 1, last} {
			if errno := d.Write(i, full); errno != api.OK {
				t.Fatal(errno)
			}
		}
		if b := w.step(t, api.Step{Kind: api.StepCrash, N: 7, Bytes: x.keep}); b != nil || w.Server() != nil || w.Device() != d || len(d.Waits()) != 0 {
			t.Error("a crash tells", b, w.Server(), d.Waits())
		}
		for k, stay := range x.stay {
			if b, errno := d.Read(last - 1 + k); errno != api.OK || bytes.Equal(b, full) != stay {
				t.Error(x.keep, k, b, errno)
			}
		}
	}
}

// P31.2: a server that is up stays as it is, its clock too; one that is down is opened on what the device has.
func TestOpen(t *testing.T) {
	w := made(t)
	w.step(t, Ask(api.Ask{Kind: api.AskTick, Time: 5}))
	w.step(t, publishing(batch("1", "a")))
	up, before := w.Server(), told(w.Device())
	if b := w.step(t, api.Step{Kind: api.StepOpen, N: 3, Bytes: []byte{1}}); b != nil || w.Server() != up || told(w.Device()) != before {
		t.Error("opening what is open tells", b)
	}
	roots := w.roots(t)
	for range 2 {
		w.step(t, api.Step{Kind: api.StepCrash})
	}
	if b := w.step(t, api.Step{Kind: api.StepOpen}); b != nil || w.Server() == nil || w.Server() == up {
		t.Error("opening tells", b)
	}
	if told(w.roots(t)) != told(roots) || len(w.Acks()) != 1 {
		t.Error(w.roots(t), w.Acks())
	}
}

// P31.2: what the server says of the device is told, and the server stays down, till it can be opened.
func TestOpenErrors(t *testing.T) {
	w := made(t)
	w.step(t, publishing(batch("1", "a")))
	roots := w.roots(t)
	w.step(t, api.Step{Kind: api.StepCrash})
	w.step(t, api.Step{Kind: api.StepFuse})
	stays := func(want api.Errno) {
		t.Helper()
		if b, errno := w.Do(api.Step{Kind: api.StepOpen}); errno != want || b != nil || w.Server() != nil {
			t.Error(b, errno, w.Server())
		}
		if _, errno := w.Do(api.Step{Kind: api.StepBytes, Bytes: []byte{1, 8}}); errno != api.ErrDead {
			t.Error(errno)
		}
	}
	w.Device().Sync()
	stays(api.ErrDead)
	stays(api.ErrDead)
	w.step(t, api.Step{Kind: api.StepCrash})
	other, errno := New(small(), []byte("other"))
	if errno != api.OK {
		t.Fatal(errno)
	}
	own := w.Device().Image()
	write := func(image [][]byte) {
		for i, b := range image {
			if errno := w.Device().Write(i, b); errno != api.OK {
				t.Fatal(errno)
			}
		}
	}
	write(other.Device().Image())
	stays(api.ErrLog)
	write(own)
	w.step(t, api.Step{Kind: api.StepOpen})
	if told(w.roots(t)) != told(roots) || len(w.Acks()) != 1 {
		t.Error(w.roots(t), w.Acks())
	}
}

// P31.3: what was published, in order, and nothing that was refused, or lost its answer; crashes take none of it.
func TestAcks(t *testing.T) {
	w := made(t)
	one, two, three := batch("1", "b", "a"), batch("", "", "a"), batch("3", "c")
	w.step(t, publishing(one))
	for _, s := range []api.Step{
		publishing(nil), publishing(batch("2", "a", "a")), publishing(batch("2", "long")), publishing(batch("2too long", "a")),
		Ask(api.Ask{Kind: api.AskTick, Time: 9}), Ask(api.Ask{Kind: api.AskAsof, To: 1}), Ask(api.Ask{Kind: api.AskEvict}), Ask(api.Ask{Kind: api.AskDrop}),
		{Kind: api.StepBytes, Bytes: append(publishing(one).Bytes, 0)}, {Kind: api.StepBytes, Bytes: publishing(one).Bytes[:5]}, {Kind: api.StepBytes},
	} {
		w.step(t, s)
	}
	if told(w.Acks()) != told([][]api.Binding{one}) {
		t.Error(w.Acks())
	}
	w.step(t, publishing(two))
	w.step(t, api.Step{Kind: api.StepFuse, N: 0})
	w.step(t, publishing(three))
	w.step(t, api.Step{Kind: api.StepCrash})
	if told(w.Acks()) != told([][]api.Binding{one, two}) {
		t.Error(w.Acks())
	}
	w.Do(publishing(three))
	w.step(t, api.Step{Kind: api.StepOpen})
	w.step(t, publishing(one))
	for w.Server().Epoch() < 7 {
		w.step(t, publishing(three))
	}
	w.step(t, publishing(two)) // there is no epoch left
	if told(w.Acks()) != told([][]api.Binding{one, two, one, three, three, three, three}) {
		t.Error(w.Acks())
	}
}

// What is handed in is not kept, what is told is new each time.
func TestMemory(t *testing.T) {
	w := made(t)
	step := publishing(batch("1", "a", "b"))
	room := append(slices.Clone(step.Bytes), 7, 7, 7)
	step.Bytes = room[:len(step.Bytes)]
	before := slices.Clone(room)
	response := w.step(t, step)
	if !bytes.Equal(room, before) {
		t.Error("the request is changed:", room)
	}
	clear(room)
	clear(response[:cap(response)])
	for range 2 {
		acks := w.Acks()
		if told(acks) != told([][]api.Binding{batch("1", "a", "b")}) {
			t.Fatal(acks)
		}
		for _, b := range acks[0] {
			clear(b.ID)
			clear(b.Key)
			b.ID, b.Key = append(b.ID, 1, 2, 3), append(b.Key, 1, 2, 3)
		}
		acks[0][0] = api.Binding{}
		acks = append(acks[:0], nil)
	}
	keep := []byte{1, 0, 1, 7}
	w.step(t, api.Step{Kind: api.StepCrash, Bytes: keep[:3]})
	if !bytes.Equal(keep, []byte{1, 0, 1, 7}) {
		t.Error("what stays is changed:", keep)
	}
	id, key := []byte("abxx"), []byte("keyxx")
	asked := Ask(api.Ask{Kind: api.AskPublish, Batch: []api.Binding{{ID: id[:2], Key: key[:3]}}})
	want := slices.Clone(asked.Bytes)
	if string(id) != "abxx" || string(key) != "keyxx" {
		t.Error("what is asked is changed:", string(id), string(key))
	}
	clear(id)
	clear(key)
	if !bytes.Equal(asked.Bytes, want) {
		t.Error("what is asked is kept")
	}
}

// P31.2, P31.3: a world that no call made.
func TestUnmade(t *testing.T) {
	var none *World
	for _, w := range []*World{none, {}} {
		for kind := -1; kind < 7; kind++ {
			if b, errno := w.Do(api.Step{Kind: kind, N: -1, Bytes: []byte{1, 8}}); errno != api.ErrNil || b != nil {
				t.Error(kind, b, errno)
			}
		}
		if w.Server() != nil || w.Device() != nil || w.Acks() != nil {
			t.Error(w.Server(), w.Device(), w.Acks())
		}
	}
}

// P31.3: the step of a request's bytes; of what can't be there is no step.
func TestAsk(t *testing.T) {
	for _, x := range []struct {
		a api.Ask
		b []byte
	}{
		{api.Ask{Kind: api.AskEvict}, []byte{1, 8}}, {api.Ask{Kind: api.AskDrop}, []byte{1, 9}}, {api.Ask{Kind: api.AskTick, Time: 258}, []byte{1, 2, 2, 1, 2}},
		{api.Ask{Kind: api.AskPublish, Batch: batch("k", "a")}, []byte{1, 1, 1, 1, 1, 1, 'a', 1, 1, 'k'}}, {api.Ask{Kind: api.AskPublish}, []byte{1, 1, 0}},
		{api.Ask{Kind: api.AskAsof, ID: []byte("ab"), To: 3}, []byte{1, 3, 1, 2, 'a', 'b', 1, 3}}, {api.Ask{Kind: api.AskDiff, From: 1, To: 2, Some: true, Limit: 5}, []byte{1, 6, 1, 1, 1, 2, 1, 0, 1, 5}},
	} {
		if got, want := Ask(x.a), (api.Step{Kind: api.StepBytes, Bytes: x.b}); told(got) != told(want) {
			t.Error(x.a, got)
		}
	}
	for _, a := range []api.Ask{
		{}, {Kind: -1}, {Kind: 11}, {Kind: math.MaxInt}, {Kind: api.AskEvict, To: 1}, {Kind: api.AskTick, Time: -1}, {Kind: api.AskTick, Time: api.MaxTime + 1}, {Kind: api.AskAsof, To: -1},
		{Kind: api.AskAsof, ID: make([]byte, api.MaxID+1)}, {Kind: api.AskPublish, Batch: make([]api.Binding, api.MaxBatch+1)}, {Kind: api.AskDiff, Limit: 1<<31 + 1}, {Kind: api.AskDiff, ID: []byte("a")},
	} {
		if got := Ask(a); got.Kind != 0 || got.N != 0 || got.Bytes != nil {
			t.Error(a, got)
		}
	}
}

// twin is a device and a server, and a script's steps done by hand.
type twin struct {
	t    *testing.T
	d    *device.Device
	s    *server.Server
	acks [][]api.Binding
}

func paired(t *testing.T) *twin {
	t.Helper()
	d, errno := device.New(admit.Sectors(small()))
	if errno != api.OK {
		t.Fatal(errno)
	}
	w := &twin{t: t, d: d}
	if errno := w.open(); errno != api.OK {
		t.Fatal(errno)
	}
	return w
}

func (w *twin) open() api.Errno {
	s, errno := server.Open(w.d, small(), []byte(seed))
	if errno == api.OK {
		w.s = s
	}
	return errno
}

func (w *twin) do(s api.Step, published []api.Binding) ([]byte, api.Errno) {
	switch {
	case s.Kind == api.StepBytes && w.s == nil:
		return nil, api.ErrDead
	case s.Kind == api.StepBytes:
		b := w.s.Do(s.Bytes)
		// Of a publishing, no bytes but these begin so.
		if published != nil && bytes.HasPrefix(b, []byte{1, 3, 0, 1}) {
			w.acks = append(w.acks, published)
		}
		return b, api.OK
	case s.Kind == api.StepFuse:
		return nil, w.d.Fuse(s.N)
	case s.Kind == api.StepCrash:
		w.s = nil
		return nil, w.d.Crash(s.Bytes)
	case s.Kind == api.StepOpen && w.s == nil:
		return nil, w.open()
	case s.Kind == api.StepOpen:
		return nil, api.OK
	}
	return nil, api.ErrArg
}

// drawn is a step, and its batch, if it is a publishing.
func drawn(r *rand.Rand) (api.Step, []api.Binding) {
	id := func() string { return []string{"", "a", "b", "ab", "ba", "\x00", "zz"}[r.Intn(7)] }
	bytesOf := func(n int) []byte {
		b := make([]byte, n)
		for i := range b {
			b[i] = byte(r.Intn(3))
		}
		return b
	}
	switch r.Intn(16) {
	case 0, 1, 2, 3, 4:
		l := batch(string(bytesOf(r.Intn(5))), id(), id())[:1+r.Intn(2)]
		return publishing(l), l
	case 5:
		return Ask(api.Ask{Kind: api.AskTick, Time: r.Intn(100)}), nil
	case 6:
		return Ask(api.Ask{Kind: api.AskAsof, ID: []byte(id()), To: r.Intn(8)}), nil
	case 7:
		return Ask(api.Ask{Kind: api.AskFeed, To: r.Intn(8), Epoch: 1, Limit: 3}), nil
	case 8:
		return Ask(api.Ask{Kind: api.AskDiff, From: r.Intn(2), To: r.Intn(8), Limit: 3}), nil
	case 9:
		return Ask(api.Ask{Kind: api.AskEvict + r.Intn(2)}), nil
	case 10:
		return api.Step{Kind: api.StepFuse, N: r.Intn(8) - 1}, nil
	case 11:
		return api.Step{Kind: api.StepCrash, Bytes: bytesOf(r.Intn(4))}, nil
	case 12, 13:
		return api.Step{Kind: api.StepOpen}, nil
	case 14:
		return api.Step{Kind: api.StepBytes, Bytes: bytesOf(r.Intn(9))}, nil
	}
	return api.Step{Kind: r.Intn(8) - 1, N: r.Intn(5), Bytes: bytesOf(r.Intn(5))}, nil
}

// P31.2 to P31.4: each script does what it does by hand, and played twice, the same.
func TestScripts(t *testing.T) {
	r := rand.New(rand.NewSource(31))
	for range 60 {
		w, again, hand := made(t), made(t), paired(t)
		for range 40 {
			s, l := drawn(r)
			want, code := hand.do(s, l)
			for _, x := range []*World{w, again} {
				if got, errno := x.Do(s); errno != code || !bytes.Equal(got, want) || got == nil != (want == nil) {
					t.Fatal(s, got, errno, "by hand:", want, code)
				}
				if told(x.Acks()) != told(hand.acks) || (x.Server() == nil) != (hand.s == nil) {
					t.Fatal(s, x.Acks(), x.Server(), "by hand:", hand.acks, hand.s)
				}
			}
		}
		if told(w.Device()) != told(hand.d) || told(again.Device()) != told(hand.d) {
			t.Fatal("another device than by hand")
		}
	}
}

// P4, P31.4: a crash at whichever change of a device, whichever sectors stay: the epochs are those that were told, and perhaps the one on its way; records stay right.
func TestCrashes(t *testing.T) {
	for n := range 8 {
		for keep := range 8 {
			w := made(t)
			for _, key := range []string{"1", "2"} {
				w.step(t, publishing(batch(key, "a", "b")))
			}
			roots := w.roots(t)
			w.step(t, api.Step{Kind: api.StepFuse, N: n})
			for _, key := range []string{"3", "4"} {
				w.step(t, publishing(batch(key, "c")))
			}
			acked := len(w.Acks())
			w.step(t, api.Step{Kind: api.StepCrash, Bytes: []byte{byte(keep & 1), byte(keep & 2), byte(keep & 4)}})
			w.step(t, api.Step{Kind: api.StepOpen})
			last := w.Server().Epoch()
			if last < acked || last > acked+1 || last > 4 || told(w.roots(t)[:3]) != told(roots) {
				t.Fatal(n, keep, last, acked)
			}
			answer := w.step(t, Ask(api.Ask{Kind: api.AskAsof, ID: []byte("c"), To: last}))
			if present := answer[3] == 1; present != (last > 2) {
				t.Fatal(n, keep, answer)
			}
		}
	}
}

// Whatever steps there are, each one ends, and is as it was.
func TestWhatever(t *testing.T) {
	r := rand.New(rand.NewSource(13))
	w := made(t)
	numbers := []int{math.MinInt, -1, 0, 1, 3, 1 << 40, math.MaxInt}
	for range 3000 {
		b := make([]byte, r.Intn(40))
		r.Read(b)
		if len(b) > 1 && r.Intn(2) == 0 {
			b[0], b[1] = 1, byte(r.Intn(12))
		}
		s := api.Step{Kind: r.Intn(7) - 1, N: numbers[r.Intn(len(numbers))], Bytes: b}
		before := told(s)
		w.Do(s)
		if told(s) != before {
			t.Fatal(s, before)
		}
	}
}
