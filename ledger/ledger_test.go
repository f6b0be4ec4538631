package ledger

import (
	"bytes"
	"crypto/sha256"
	"math"
	"math/rand"
	"reflect"
	"slices"
	"strings"
	"testing"

	"annals/admit"
	"annals/api"
	"annals/device"
	"annals/seglog"
)

// params is those of the document's example, with so many epochs and changes.
func params(height, changes int) api.Params {
	p := api.Params{Size: 4, Height: height, MaxID: 2, MaxKey: 4, Changes: changes, Cache: 1, Page: 3}
	p.Arena = admit.Need(p)
	return p
}

func fresh(t *testing.T, sectors int) *device.Device {
	t.Helper()
	d, errno := device.New(sectors)
	want(t, "New", errno, api.OK)
	return d
}

func open(t *testing.T, d *device.Device, p api.Params, seed string) *Ledger {
	t.Helper()
	l, errno := Open(d, p, []byte(seed))
	if errno != api.OK || l == nil || l.Stopped() {
		t.Fatalf("Open: %v, %v", l, errno)
	}
	return l
}

// want has a call tell that errno.
func want(t *testing.T, what string, got, errno api.Errno) {
	t.Helper()
	if got != errno {
		t.Fatalf("%s: %v, not %v", what, got, errno)
	}
}

// one is an entry of identities that have all one key.
func one(time int, key string, ids ...string) api.Entry {
	e := api.Entry{Time: time}
	for _, id := range ids {
		e.Batch = append(e.Batch, api.Binding{ID: []byte(id), Key: []byte(key)})
	}
	return e
}

// number is a number as bytes, spelled by hand.
func number(n int) []byte {
	var digits []byte
	for ; n > 0; n /= 256 {
		digits = append([]byte{byte(n % 256)}, digits...)
	}
	return append([]byte{byte(len(digits))}, digits...)
}

// numbers is some of them.
func numbers(l ...int) []byte {
	var b []byte
	for _, n := range l {
		b = append(b, number(n)...)
	}
	return b
}

// spelled is an entry's bytes by hand.
func spelled(e api.Entry) []byte {
	b := append([]byte("E"), numbers(e.Time, len(e.Batch))...)
	for _, x := range e.Batch {
		b = slices.Concat(b, number(len(x.ID)), x.ID, number(len(x.Key)), x.Key)
	}
	return b
}

// spelledHead is the head's bytes by hand.
func spelledHead(p api.Params, seed string) []byte {
	sum := sha256.Sum256([]byte(seed))
	return slices.Concat([]byte("H"), numbers(p.Size, p.Height, p.MaxID, p.MaxKey, p.Changes, p.Arena, p.Cache, p.Page), sum[:])
}

// said is entries as a text, so that no list and an empty one are alike.
func said(l []api.Entry) string {
	var b []byte
	for _, e := range l {
		b = append(b, spelled(e)...)
	}
	return string(b)
}

// holds has a ledger have just these entries.
func holds(t *testing.T, l *Ledger, entries []api.Entry) {
	t.Helper()
	if got := l.Entries(); len(got) != len(entries) || said(got) != said(entries) {
		t.Fatalf("%d entries, %q, not %d, %q", len(got), said(got), len(entries), said(entries))
	}
}

// logged is a device whose log has just these records.
func logged(t *testing.T, records ...[]byte) *device.Device {
	t.Helper()
	d := fresh(t, 1000)
	l, errno := seglog.Open(d)
	want(t, "seglog.Open", errno, api.OK)
	for _, b := range records {
		want(t, "Append", l.Append(b), api.OK)
	}
	return d
}

// records is what the log on a device has.
func records(t *testing.T, d *device.Device) [][]byte {
	t.Helper()
	l, errno := seglog.Open(d)
	want(t, "seglog.Open", errno, api.OK)
	return l.Records()
}

// P23.1, example 1: a new device has one record, the head, and that stays.
func TestNewDevice(t *testing.T) {
	greatest := api.Params{Size: 32, Height: 8, MaxID: 24, MaxKey: 48, Changes: 4096, Arena: api.MaxArena, Cache: 3, Page: 32}
	for _, p := range []api.Params{params(3, 10), params(0, 0), {Size: 1, Arena: 1, Page: 1}, greatest} {
		for _, seed := range []string{"", "s", strings.Repeat("x", 64)} {
			for _, sectors := range []int{2, 40} {
				d := fresh(t, sectors)
				holds(t, open(t, d, p, seed), nil)
				want(t, "Crash", d.Crash(nil), api.OK)
				if got := records(t, d); len(got) != 1 || !bytes.Equal(got[0], spelledHead(p, seed)) {
					t.Fatalf("%v, %q: %x", p, seed, got)
				}
				was := d.Changes()
				holds(t, open(t, d, p, seed), nil)
				if d.Changes() != was {
					t.Fatal("opened again, it is written to")
				}
			}
		}
	}
}

// P23.1: of parameters that may not be, of too long a seed, of the device, in this order; what is refused ahead of the log writes nothing.
func TestOpenErrors(t *testing.T) {
	good := params(3, 10)
	bad, small := good, good
	bad.Page = 0
	small.Arena--
	dead := fresh(t, 9)
	want(t, "Fuse", dead.Fuse(0), api.OK)
	want(t, "Sync", dead.Sync(), api.ErrDead)
	long := make([]byte, 65)
	cases := []struct {
		d     *device.Device
		p     api.Params
		seed  []byte
		errno api.Errno
	}{
		{fresh(t, 9), bad, nil, api.ErrArg}, {fresh(t, 9), api.Params{}, nil, api.ErrArg},
		{fresh(t, 9), small, nil, api.ErrFull}, {nil, small, long, api.ErrFull}, {dead, small, long, api.ErrFull},
		{fresh(t, 9), good, long, api.ErrArg}, {nil, good, long, api.ErrArg}, {dead, good, long, api.ErrArg},
		{fresh(t, 9), good, make([]byte, 100000), api.ErrArg},
		{nil, good, nil, api.ErrNil}, {new(device.Device), good, nil, api.ErrNil},
		{dead, good, nil, api.ErrDead},
		{fresh(t, 1), good, nil, api.ErrFull},
	}
	for i, c := range cases {
		was := c.d.Changes()
		if l, errno := Open(c.d, c.p, c.seed); l != nil || errno != c.errno {
			t.Errorf("case %d: %v, %v, not %v", i, l, errno, c.errno)
		}
		if c.d.Changes() != was {
			t.Errorf("case %d: the device was written to", i)
		}
	}
}

// P23.1: the error of the head's append, at each of its changes; behind the crash it is opened as new.
func TestOpenStops(t *testing.T) {
	p := params(3, 10)
	for n := range 4 {
		for keep := range 2 {
			d := fresh(t, 9)
			want(t, "Fuse", d.Fuse(n), api.OK)
			if l, errno := Open(d, p, nil); l != nil || errno != api.ErrDead {
				t.Fatal(n, l, errno)
			}
			want(t, "Crash", d.Crash([]byte{byte(keep)}), api.OK)
			l := open(t, d, p, "")
			holds(t, l, nil)
			want(t, "Publish", l.Publish(one(1, "k", "a")), api.OK)
			holds(t, open(t, d, p, ""), []api.Entry{one(1, "k", "a")})
		}
	}
	d := fresh(t, 9)
	want(t, "Fuse", d.Fuse(4), api.OK)
	open(t, d, p, "")
}

// P23.1: another seed, or one other number of the parameters, is another directory.
func TestOtherDirectory(t *testing.T) {
	p := params(3, 10)
	p.Arena += 1000
	d := fresh(t, 40)
	l := open(t, d, p, "seed")
	want(t, "Publish", l.Publish(one(5, "1", "a")), api.OK)
	edits := []func(q *api.Params){
		func(q *api.Params) { q.Size++ }, func(q *api.Params) { q.Height++ }, func(q *api.Params) { q.MaxID++ },
		func(q *api.Params) { q.MaxKey++ }, func(q *api.Params) { q.Changes++ }, func(q *api.Params) { q.Arena-- },
		func(q *api.Params) { q.Cache-- }, func(q *api.Params) { q.Page++ },
	}
	image := d.Image()
	for i, edit := range edits {
		q := p
		edit(&q)
		if l, errno := Open(d, q, []byte("seed")); l != nil || errno != api.ErrLog {
			t.Error("number", i, errno)
		}
	}
	for _, seed := range []string{"", "see", "seeds", "Seed"} {
		if l, errno := Open(d, p, []byte(seed)); l != nil || errno != api.ErrLog {
			t.Error(seed, errno)
		}
	}
	if !reflect.DeepEqual(d.Image(), image) {
		t.Error("the log of another directory was written to")
	}
	holds(t, open(t, d, p, "seed"), []api.Entry{one(5, "1", "a")})
	empty, errno := Open(fresh(t, 9), p, []byte{})
	if errno != api.OK || empty == nil {
		t.Error(errno)
	}
}

// P23.1: logs that are none of a directory.
func TestOpenLog(t *testing.T) {
	p := params(3, 10)
	head := spelledHead(p, "s")
	a, b := spelled(one(5, "1", "a")), spelled(one(5, "2", "a", "b"))
	cases := []struct {
		name    string
		records [][]byte
	}{
		{"an entry first", [][]byte{a}},
		{"an entry ahead of the head", [][]byte{a, head}},
		{"a head that goes on", [][]byte{append(bytes.Clone(head), 0)}},
		{"a head that is cut", [][]byte{head[:len(head)-1], a}},
		{"a head of small letters", [][]byte{append([]byte("h"), head[1:]...), a}},
		{"two heads", [][]byte{head, head}},
		{"a head behind an entry", [][]byte{head, a, head}},
		{"something else", [][]byte{head, a, []byte("x")}},
		{"an entry that is cut", [][]byte{head, a[:len(a)-1]}},
		{"an entry that goes on", [][]byte{head, append(bytes.Clone(a), 0), b}},
		{"two entries in one record", [][]byte{head, slices.Concat(a, b)}},
		{"a time that falls", [][]byte{head, a, b, spelled(one(4, "1", "a"))}},
		{"a time that falls to the one ahead of the last", [][]byte{head, a, spelled(one(9, "1", "a")), b}},
		{"a time beyond", [][]byte{head, spelled(one(api.MaxTime+1, "1", "a"))}},
		{"no bindings", [][]byte{head, spelled(one(5, "1"))}},
		{"an identity twice", [][]byte{head, a, spelled(one(5, "1", "a", "b", "a"))}},
		{"too long an identity", [][]byte{head, spelled(one(5, "1", "abc"))}},
		{"too long a key", [][]byte{head, spelled(one(5, "12345", "a"))}},
		{"too many epochs", [][]byte{head, a, a, a, a, a, a, a, a}},
		{"too many changes", [][]byte{head, b, b, b, b, b, a}},
	}
	for _, c := range cases {
		if l, errno := Open(logged(t, c.records...), p, []byte("s")); l != nil || errno != api.ErrLog {
			t.Errorf("%s: %v, %v", c.name, l, errno)
		}
	}
	for _, right := range [][][]byte{{head}, {head, a}, {head, a, b, b, a, a, a, a}, {head, b, b, b, b, b}, {head, spelled(one(0, "", ""))},
		{head, spelled(one(api.MaxTime, "1234", "ab")), spelled(one(api.MaxTime, "1234", "ab"))}} {
		l := open(t, logged(t, right...), p, "s")
		if got := said(l.Entries()); got != string(slices.Concat(right[1:]...)) {
			t.Errorf("%q", got)
		}
	}
}

// P23.1: a directory of one epoch alone, and one without changes.
func TestOpenLogWithoutRoom(t *testing.T) {
	for _, p := range []api.Params{params(0, 10), params(3, 0)} {
		d := logged(t, spelledHead(p, "s"), spelled(one(5, "1", "a")))
		if l, errno := Open(d, p, []byte("s")); l != nil || errno != api.ErrLog {
			t.Error(p, l, errno)
		}
		want(t, "Publish", open(t, fresh(t, 40), p, "s").Publish(one(5, "1", "a")), api.ErrQuota)
	}
}

// P23.1: the bytes by hand; of entries that may not be too, whose time counts as codec's numbers do.
func TestWrite(t *testing.T) {
	if got := Write(one(258, "k", "ab", "")); string(got) != "E\x02\x01\x02\x01\x02\x01\x02ab\x01\x01k\x00\x01\x01k" {
		t.Errorf("%q", got)
	}
	many := api.Entry{Time: 1 << 55, Batch: make([]api.Binding, 300)}
	for _, e := range []api.Entry{{}, one(5, "1"), one(api.MaxTime, "", ""), one(0, "1", "a", "a"), one(7, strings.Repeat("x", 300), "a"), many} {
		if got := Write(e); !bytes.Equal(got, spelled(e)) {
			t.Errorf("%q, not %q", got, spelled(e))
		}
	}
	if !bytes.Equal(Write(one(-1, "1", "a")), spelled(one(0, "1", "a"))) || !bytes.Equal(Write(one(math.MinInt, "1")), spelled(one(0, "1"))) {
		t.Error("a time below 0")
	}
	if !bytes.Equal(Write(one(math.MaxInt, "1")), spelled(one(1<<62, "1"))) {
		t.Error("a time above 2^62")
	}
}

// P23.1: what may be is read as it was written, up to each bound and no further.
func TestRead(t *testing.T) {
	p := params(3, 10)
	full := api.Entry{Time: 3}
	for i := range api.MaxBatch {
		full.Batch = append(full.Batch, api.Binding{ID: []byte{byte(i)}, Key: make([]byte, i%5)})
	}
	over := api.Entry{Time: 3, Batch: append(slices.Clone(full.Batch), api.Binding{})}
	right := []api.Entry{one(0, "", ""), one(5, "1", "a"), one(api.MaxTime, "1234", "ab", "ba", "b", ""), full}
	for _, e := range right {
		got, errno := Read(p, spelled(e))
		if errno != api.OK || said([]api.Entry{got}) != said([]api.Entry{e}) {
			t.Errorf("%q: %v, %v", spelled(e), got, errno)
		}
	}
	wrong := []api.Entry{{}, one(5, "1"), over, one(5, "1", "abc"), one(5, "12345", "a"), one(5, "1", "a", "a"), one(5, "1", "", "a", ""),
		one(api.MaxTime+1, "1", "a"), one(1<<62, "1", "a")}
	for _, e := range wrong {
		refused(t, p, spelled(e))
	}
	other := api.Params{MaxID: 1, MaxKey: 1}
	if _, errno := Read(other, spelled(one(5, "1", "a"))); errno != api.OK {
		t.Error("the other parameters don't count:", errno)
	}
	refused(t, other, spelled(one(5, "1", "ab")))
	refused(t, other, spelled(one(5, "12", "a")))
	for _, bad := range []api.Params{{MaxID: -1, MaxKey: 1}, {MaxID: 1, MaxKey: -1}, {MaxID: math.MinInt, MaxKey: math.MinInt}} {
		refused(t, bad, spelled(one(5, "", "")))
	}
	wide := api.Params{MaxID: math.MaxInt, MaxKey: math.MaxInt}
	long := one(5, strings.Repeat("k", 70000), strings.Repeat("i", 70000))
	if got, errno := Read(wide, spelled(long)); errno != api.OK || said([]api.Entry{got}) != said([]api.Entry{long}) {
		t.Error(errno)
	}
}

// refused has Read tell ErrLog of bytes, and nothing else.
func refused(t *testing.T, p api.Params, b []byte) {
	t.Helper()
	if e, errno := Read(p, b); errno != api.ErrLog || e.Time != 0 || len(e.Batch) != 0 {
		t.Errorf("%q: %v, %v", b, e, errno)
	}
}

// P23.1: bytes that no entry has: cut, gone on with, of another letter, or of numbers that are written otherwise.
func TestReadWrongBytes(t *testing.T) {
	p := params(3, 10)
	b := spelled(one(258, "1234", "ab", "c"))
	for n := range b {
		refused(t, p, b[:n])
	}
	refused(t, p, nil)
	for i := range 256 {
		refused(t, p, append(bytes.Clone(b), byte(i)))
		if i != 'E' {
			refused(t, p, append([]byte{byte(i)}, b[1:]...))
		}
	}
	for _, s := range []string{"E\x01\x00\x01\x01\x00\x00", "E\x02\x00\x05\x01\x01\x00\x00", "E\x09\x01", "E\x00\x01\x01\x01\x00\x00", "E\x00\x02\x00\x01\x00\x00",
		"E\x08\xff\xff\xff\xff\xff\xff\xff\xff\x01\x01\x00\x00", "EE\x00\x01\x01\x00\x00"} {
		refused(t, p, []byte(s))
	}
}

// P23.1: whatever is read is written as the very bytes that it was read of, and may be.
func TestReadAnyBytes(t *testing.T) {
	p := params(3, 10)
	r := rand.New(rand.NewSource(1))
	base := [][]byte{spelled(one(5, "1", "a")), spelled(one(258, "1234", "ab", "c", "")), spelled(one(0, "", ""))}
	read := 0
	for range 60000 {
		b := bytes.Clone(base[r.Intn(len(base))])
		for range r.Intn(3) {
			b[1+r.Intn(len(b)-1)] = byte(r.Intn(6))
		}
		e, errno := Read(p, b)
		if errno == api.ErrLog {
			continue
		}
		read++
		if errno != api.OK || !bytes.Equal(Write(e), b) || !bytes.Equal(spelled(e), b) || !may(p, e) {
			t.Fatalf("%q: %v, %v", b, e, errno)
		}
	}
	if read < 1000 {
		t.Fatal("few were read:", read)
	}
}

// may tells by the document's words whether an entry may be.
func may(p api.Params, e api.Entry) bool {
	seen := map[string]bool{}
	for _, x := range e.Batch {
		if len(x.ID) > p.MaxID || len(x.Key) > p.MaxKey || seen[string(x.ID)] {
			return false
		}
		seen[string(x.ID)] = true
	}
	return e.Time >= 0 && e.Time <= 1<<50 && len(e.Batch) >= 1 && len(e.Batch) <= 32
}

// P23.2: what is refused, by the error that is named first; nothing comes of it.
func TestPublishErrors(t *testing.T) {
	p := params(2, 4)
	d := fresh(t, 40)
	l := open(t, d, p, "s")
	want(t, "Publish", l.Publish(one(5, "1", "a")), api.OK)
	held := []api.Entry{one(5, "1", "a")}
	many := api.Entry{Time: 9, Batch: make([]api.Binding, api.MaxBatch+1)}
	cases := []struct {
		e     api.Entry
		errno api.Errno
	}{
		{api.Entry{}, api.ErrArg}, {one(9, "1"), api.ErrArg}, {many, api.ErrArg},
		{one(9, "1", "a", "a"), api.ErrArg}, {one(9, "1", "abc"), api.ErrArg}, {one(9, "12345", "a"), api.ErrArg},
		{one(-1, "1", "a"), api.ErrArg}, {one(math.MinInt, "1", "a"), api.ErrArg},
		{one(api.MaxTime+1, "1", "a"), api.ErrArg}, {one(math.MaxInt, "1", "a"), api.ErrArg},
		{one(4, "1", "a"), api.ErrArg}, {one(0, "1", "a"), api.ErrArg},
		{one(4, "1", "a", "b", "c", "d"), api.ErrArg},
		{one(9, "1", "a", "b", "c", "d"), api.ErrQuota},
	}
	refuse := func() {
		t.Helper()
		was := d.Changes()
		for i, c := range cases {
			if errno := l.Publish(c.e); errno != c.errno || d.Changes() != was || l.Stopped() {
				t.Fatalf("case %d: %v, not %v", i, errno, c.errno)
			}
			holds(t, l, held)
		}
	}
	refuse()
	want(t, "Publish", l.Publish(one(5, "2", "a", "b")), api.OK)
	held = append(held, one(5, "2", "a", "b"))
	refuse()
	want(t, "Publish", l.Publish(one(6, "2", "a", "b")), api.ErrQuota)
	want(t, "Publish", l.Publish(one(api.MaxTime, "3", "c")), api.OK)
	held = append(held, one(api.MaxTime, "3", "c"))
	for range 2 {
		want(t, "Publish of one more", l.Publish(one(api.MaxTime, "4", "a")), api.ErrQuota)
		want(t, "Publish of an earlier one", l.Publish(one(api.MaxTime-1, "4", "a")), api.ErrArg)
		holds(t, l, held)
		l = open(t, d, p, "s")
	}
}

// P23.2: as many epochs as there may be, however few changes, and the other way round.
func TestQuota(t *testing.T) {
	for height := range 6 {
		p := params(height, 1000)
		d := fresh(t, 200)
		l := open(t, d, p, "s")
		for i := range 1<<height - 1 {
			want(t, "Publish", l.Publish(one(i, "1", "a")), api.OK)
		}
		want(t, "Publish", l.Publish(one(100, "1", "a")), api.ErrQuota)
		want(t, "Publish", open(t, d, p, "s").Publish(one(100, "1", "a")), api.ErrQuota)
		if len(l.Entries()) != 1<<height-1 {
			t.Error(height, len(l.Entries()))
		}
	}
	l := open(t, fresh(t, 200), params(8, 7), "s")
	want(t, "Publish", l.Publish(one(1, "1", "a", "b", "c")), api.OK)
	want(t, "Publish", l.Publish(one(1, "1", "a", "b", "c", "d", "e")), api.ErrQuota)
	want(t, "Publish", l.Publish(one(1, "1", "a", "b", "c", "d")), api.OK)
	want(t, "Publish", l.Publish(one(1, "1", "a")), api.ErrQuota)
}

// P23.2: the log's own errors, behind those of the entry; a log without room goes on with what fits.
func TestPublishWithoutRoom(t *testing.T) {
	p := params(4, 40)
	l := open(t, fresh(t, 7), p, "s")
	// Two sectors are the head's: a small entry takes two more, and three are left for the next one.
	want(t, "Publish", l.Publish(one(5, "1", "a")), api.OK)
	long := one(6, "1234", "aa", "bb", "cc", "dd", "ee", "ff", "gg", "hh", "ii", "jj", "kk", "ll")
	if l.Fits(long) {
		t.Fatal("it fits")
	}
	want(t, "Publish", l.Publish(long), api.ErrFull)
	want(t, "Publish", l.Publish(one(4, "1", "a")), api.ErrArg)
	if l.Stopped() {
		t.Fatal("stopped")
	}
	want(t, "Publish", l.Publish(one(5, "2", "a")), api.OK)
	if l.Fits(one(5, "3", "a")) {
		t.Fatal("it fits")
	}
	want(t, "Publish", l.Publish(one(5, "3", "a")), api.ErrFull)
	holds(t, l, []api.Entry{one(5, "1", "a"), one(5, "2", "a")})
	quota := open(t, fresh(t, 2), params(4, 1), "s")
	want(t, "Publish", quota.Publish(one(5, "1", "a", "b")), api.ErrQuota)
	want(t, "Publish", quota.Publish(one(5, "1", "a")), api.ErrFull)
}

// P23.2: an error of the device stops the ledger for good; what is wrong with an entry is told ahead of that.
func TestStopped(t *testing.T) {
	p := params(3, 3)
	d := fresh(t, 40)
	l := open(t, d, p, "s")
	want(t, "Publish", l.Publish(one(5, "1", "a")), api.OK)
	want(t, "Fuse", d.Fuse(1), api.OK)
	want(t, "Publish", l.Publish(one(6, "2", "a")), api.ErrDead)
	for _, crashed := range []bool{false, true} {
		if crashed {
			want(t, "Crash", d.Crash(nil), api.OK)
		}
		if !l.Stopped() {
			t.Fatal("it goes on")
		}
		want(t, "Publish", l.Publish(one(6, "2", "a")), api.ErrDead)
		want(t, "Publish", l.Publish(one(5, "2", "a")), api.ErrDead)
		want(t, "Publish", l.Publish(one(4, "2", "a")), api.ErrArg)
		want(t, "Publish", l.Publish(one(6, "2")), api.ErrArg)
		want(t, "Publish", l.Publish(one(6, "2", "a", "b", "c")), api.ErrQuota)
		holds(t, l, []api.Entry{one(5, "1", "a")})
		if !l.Fits(one(6, "2", "a")) {
			t.Fatal("a stopped log has the room that it had")
		}
	}
}

// P23.2: Fits goes by the length alone: just what Append of such a record would find room for.
func TestFits(t *testing.T) {
	p := params(3, 10)
	for sectors := 2; sectors < 70; sectors++ {
		l := open(t, fresh(t, sectors), p, "s")
		room := max(0, min(4000, 64*(sectors-2-1)-12))
		for _, length := range []int{1, room - 1, room, room + 1, 4000, 4001} {
			// The letter, the time, the number of bindings, the identity's length and the key's, of one byte or three.
			spare := length - (1 + 2 + 2 + 1)
			if spare < 300 {
				continue
			}
			e := one(5, strings.Repeat("k", spare-3), "")
			if len(Write(e)) != length {
				t.Fatal(len(Write(e)), length)
			}
			if l.Fits(e) != (length <= room) {
				t.Fatal(sectors, length, room)
			}
		}
		if l.Fits(one(5, "1", "a")) != (sectors >= 4) || l.Fits(api.Entry{Time: -1}) != (sectors >= 4) {
			t.Fatal(sectors)
		}
	}
}

// P23.2: entries come in their order, and are there when it is opened again.
func TestPublish(t *testing.T) {
	p := params(4, 40)
	d := fresh(t, 100)
	l := open(t, d, p, "s")
	var held []api.Entry
	for i, e := range []api.Entry{one(0, "", ""), one(0, "1", "a"), one(7, "1", "a"), one(7, "2", "b", "a"), one(1<<40, "1234", "ab", "a", ""), one(api.MaxTime, "1", "a")} {
		if !l.Fits(e) {
			t.Fatal("it does not fit")
		}
		want(t, "Publish", l.Publish(e), api.OK)
		held = append(held, e)
		holds(t, l, held)
		got := records(t, d)
		if len(got) != i+2 || !bytes.Equal(got[0], spelledHead(p, "s")) || !bytes.Equal(got[i+1], spelled(e)) {
			t.Fatalf("%q", got)
		}
		c := d.Copy()
		want(t, "Crash", c.Crash(nil), api.OK)
		again := open(t, c, p, "s")
		holds(t, again, held)
		want(t, "Publish to the copy", again.Publish(one(api.MaxTime, "9", "z")), api.OK)
		holds(t, l, held)
	}
}

// P23.3: the device stops at each change of a publishing, and any of its sectors stay.
func TestCrash(t *testing.T) {
	p := params(3, 20)
	held := []api.Entry{one(1, "1", "a"), one(1, "1234", "b", "aa", "cc", "dd", "ee", "ff", "gg")}
	d := fresh(t, 40)
	l := open(t, d, p, "s")
	for _, e := range held {
		want(t, "Publish", l.Publish(e), api.OK)
	}
	for _, e := range []api.Entry{one(5, "2", "a"), one(5, "2345", "b", "aa", "cc", "dd", "ee", "ff", "gg", "hh", "ii")} {
		came, told := 0, false
		for n := 0; !told; n++ {
			c := d.Copy()
			g := open(t, c, p, "s")
			want(t, "Fuse", c.Fuse(n), api.OK)
			told = g.Publish(e) == api.OK
			waits := len(c.Waits())
			for k := range 1 << waits {
				again := c.Copy()
				keep := make([]byte, waits)
				for i := range keep {
					keep[i] = byte(k >> i & 1)
				}
				want(t, "Crash", again.Crash(keep), api.OK)
				m := open(t, again, p, "s")
				expect := held
				if told || len(m.Entries()) > len(held) {
					came++
					expect = append(slices.Clone(held), e)
				}
				holds(t, m, expect)
				want(t, "Publish behind a crash", m.Publish(one(5, "9", "z")), api.OK)
				holds(t, open(t, again, p, "s"), append(slices.Clone(expect), one(5, "9", "z")))
			}
		}
		if came != 2 {
			t.Fatal("of all ways of stopping the entry is there in", came)
		}
	}
}

// P23.3: a long life with crashes, held against a list.
func TestLife(t *testing.T) {
	for seed := range 30 {
		r := rand.New(rand.NewSource(int64(seed)))
		p := params(5, 60)
		d := fresh(t, 40+r.Intn(60))
		var held []api.Entry
		for range 15 {
			l, errno := Open(d, p, []byte("s"))
			want(t, "Open", errno, api.OK)
			holds(t, l, held)
			going := live(t, l, d, p, r, &held)
			crash(d, r)
			for range r.Intn(3) {
				want(t, "Fuse", d.Fuse(r.Intn(3)), api.OK)
				Open(d, p, []byte("s"))
				crash(d, r)
			}
			l = open(t, d, p, "s")
			if going != nil && len(l.Entries()) == len(held)+1 {
				held = append(held, *going)
			}
			holds(t, l, held)
		}
	}
}

// live publishes till the device stops, or a while: the entry that was on its way.
func live(t *testing.T, l *Ledger, d *device.Device, p api.Params, r *rand.Rand, held *[]api.Entry) *api.Entry {
	t.Helper()
	for range 6 {
		e := api.Entry{Time: r.Intn(40)}
		for range r.Intn(4) {
			e.Batch = append(e.Batch, api.Binding{ID: []byte{byte('a' + r.Intn(5))}, Key: make([]byte, r.Intn(6))})
		}
		want(t, "Fuse", d.Fuse(r.Intn(20)), api.OK)
		last, changes := 0, len(e.Batch)
		for _, x := range *held {
			last, changes = x.Time, changes+len(x.Batch)
		}
		expect := api.OK
		switch {
		case !may(p, e) || e.Time < last:
			expect = api.ErrArg
		case len(*held)+1 > 1<<p.Height-1 || changes > p.Changes:
			expect = api.ErrQuota
		case !l.Fits(e):
			expect = api.ErrFull
		}
		errno := l.Publish(e)
		if expect == api.OK && errno == api.ErrDead {
			return &e
		}
		want(t, "Publish", errno, expect)
		if errno == api.OK {
			*held = append(*held, e)
		}
	}
	return nil
}

// crash turns a device off and on, and any of its sectors stay.
func crash(d *device.Device, r *rand.Rand) {
	keep := make([]byte, len(d.Waits()))
	for i := range keep {
		keep[i] = byte(r.Intn(2))
	}
	d.Crash(keep)
}

// The greatest ledger: all epochs, all changes, in the sectors that admit says hold all.
func TestGreatest(t *testing.T) {
	p := api.Params{Size: 32, Height: 8, MaxID: 24, MaxKey: 48, Changes: 4096, Cache: 3, Page: 32}
	p.Arena = admit.Need(p)
	d := fresh(t, admit.Sectors(p))
	l := open(t, d, p, "s")
	var held []api.Entry
	for i := range 255 {
		// Sixteen changes an epoch, and one more in the first sixteen: all that there may be.
		count := 16
		if i < 16 {
			count = 17
		}
		e := api.Entry{Time: api.MaxTime}
		for k := range count {
			e.Batch = append(e.Batch, api.Binding{ID: append(make([]byte, 23), byte(k)), Key: bytes.Repeat([]byte{byte(i)}, 48)})
		}
		want(t, "Publish", l.Publish(e), api.OK)
		held = append(held, e)
	}
	want(t, "Publish", l.Publish(one(api.MaxTime, "k", "a")), api.ErrQuota)
	holds(t, l, held)
	holds(t, open(t, d, p, "s"), held)
}

// The rule 'Objects': ErrNil ahead of all else; none, false, true.
func TestNoLedger(t *testing.T) {
	for _, l := range []*Ledger{nil, {}, new(Ledger)} {
		for _, e := range []api.Entry{{}, one(5, "1", "a"), one(-1, "1")} {
			want(t, "Publish", l.Publish(e), api.ErrNil)
			if l.Fits(e) {
				t.Error("it fits")
			}
		}
		if len(l.Entries()) != 0 || !l.Stopped() {
			t.Error(l.Entries(), l.Stopped())
		}
	}
}

// scribble writes over all of a list, its spare room too.
func scribble(b []byte) {
	b = b[:cap(b)]
	for i := range b {
		b[i] = 0xee
	}
}

// scribbleEntry writes over all that an entry has.
func scribbleEntry(e api.Entry) {
	batch := e.Batch[:cap(e.Batch)]
	for i := range batch {
		scribble(batch[i].ID)
		scribble(batch[i].Key)
		batch[i] = api.Binding{}
	}
}

// The rule 'Memory': what is handed in is neither changed nor kept, and answers share nothing.
func TestMemory(t *testing.T) {
	p := params(4, 40)
	d := fresh(t, 100)
	seed := append(make([]byte, 0, 8), 's', 9)
	l, errno := Open(d, p, seed[:1])
	want(t, "Open", errno, api.OK)
	if seed[1] != 9 {
		t.Fatal("Open changes what it is given")
	}
	scribble(seed)
	held := []api.Entry{one(1, "1", "a", "bb"), one(2, "22", "a", "bb"), one(2, "22", "a", "bb")}
	for _, e := range held {
		whole := api.Entry{Time: e.Time}
		for _, x := range e.Batch {
			whole.Batch = append(whole.Batch, api.Binding{ID: append(bytes.Clone(x.ID), 7)[:len(x.ID)], Key: append(bytes.Clone(x.Key), 7)[:len(x.Key)]})
		}
		want(t, "Publish", l.Publish(whole), api.OK)
		if !bytes.Equal(Write(whole), spelled(e)) || whole.Batch[0].ID[:2][1] != 7 {
			t.Fatal("Publish changes what it is given")
		}
		scribbleEntry(whole)
	}
	for _, m := range []*Ledger{l, open(t, d, p, "s")} {
		all := slices.Concat(m.Entries(), m.Entries())
		for i := range all {
			scribbleEntry(all[i])
			if said(all[i+1:]) != said(slices.Concat(held, held)[i+1:]) {
				t.Fatal("two answers share memory")
			}
		}
		list := m.Entries()
		clear(list[:cap(list)])
		holds(t, m, held)
	}
	b := append(spelled(held[0]), 5, 6)
	e, errno := Read(p, b[:len(b)-2])
	want(t, "Read", errno, api.OK)
	scribble(e.Batch[0].ID)
	if said([]api.Entry{{Time: 1, Batch: e.Batch[1:]}}) != said([]api.Entry{{Time: 1, Batch: held[0].Batch[1:]}}) || !bytes.Equal(b, append(spelled(held[0]), 5, 6)) {
		t.Fatal("an identity shares memory")
	}
	scribble(b)
	if string(e.Batch[1].ID) != "bb" || string(e.Batch[1].Key) != "1" {
		t.Fatal("an entry shares memory with the bytes that it was read of")
	}
	w := Write(held[0])
	scribble(w)
	if !bytes.Equal(Write(held[0]), spelled(held[0])) {
		t.Fatal("an entry's bytes share memory")
	}
}
