package seglog

import (
	"bytes"
	"crypto/sha256"
	"encoding/binary"
	"math"
	"math/rand"
	"slices"
	"testing"

	"annals/api"
	"annals/device"
)

// written is record number s as it stands on a device, spelled by hand: its text and its mark.
func written(s int, b []byte) []byte {
	text := binary.BigEndian.AppendUint64(nil, uint64(s))
	text = binary.BigEndian.AppendUint32(text, uint32(len(b)))
	return marked(s, padded(append(text, b...)))
}

// padded is b, and noughts up to a sector's end.
func padded(b []byte) []byte {
	for len(b)%64 != 0 {
		b = append(b, 0)
	}
	return b
}

// marked is a text, and a mark of that number behind it.
func marked(s int, text []byte) []byte {
	sum := sha256.Sum256(text)
	mark := []byte{'A', 'L', 0, 0, 0, 0, 0, 0}
	mark = binary.BigEndian.AppendUint64(mark, uint64(s))
	mark = binary.BigEndian.AppendUint32(mark, uint32(len(text)/64))
	return slices.Concat(text, padded(append(mark, sum[:]...)))
}

// row is n bytes, none of them 0.
func row(n, seed int) []byte {
	b := make([]byte, n)
	for i := range b {
		b[i] = byte(1 + (i*7+seed*31)%255)
	}
	return b
}

// imageOf is bytes as so many sectors, with noughts behind them.
func imageOf(sectors int, parts ...[]byte) [][]byte {
	b := slices.Concat(parts...)
	b = append(b, make([]byte, max(0, 64*sectors-len(b)))...)
	return slices.Collect(slices.Chunk(b[:64*sectors], 64))
}

// fresh is a device of noughts.
func fresh(t *testing.T, sectors int) *device.Device {
	t.Helper()
	d, errno := device.New(sectors)
	want(t, "New", errno, api.OK)
	return d
}

// of is a device of an image.
func of(t *testing.T, image [][]byte) *device.Device {
	t.Helper()
	d, errno := device.Of(image)
	want(t, "Of", errno, api.OK)
	return d
}

// open is the log on a device.
func open(t *testing.T, d *device.Device) *Log {
	t.Helper()
	l, errno := Open(d)
	if errno != api.OK || l == nil || l.Stopped() {
		t.Fatalf("Open: %v, %v", l, errno)
	}
	return l
}

// want has a call tell that errno.
func want(t *testing.T, what string, got, errno api.Errno) {
	t.Helper()
	if got != errno {
		t.Fatalf("%s: %v, not %v", what, got, errno)
	}
}

// same tells whether two lists of bytes are alike.
func same(a, b [][]byte) bool { return slices.EqualFunc(a, b, bytes.Equal) }

// holds has a log have just these records.
func holds(t *testing.T, l *Log, records [][]byte) {
	t.Helper()
	if !same(l.Records(), records) || l.Len() != len(records) {
		t.Fatalf("%d records, %d told, not %d", l.Len(), len(l.Records()), len(records))
	}
}

// sizes are lengths of records, at the edges of how many sectors they take.
func sizes() []int {
	return []int{1, 2, 51, 52, 53, 115, 116, 117, 180, 181, 1000, 3956, 3957, 3999, 4000}
}

// P8.2, P8.3: each record stands behind the one ahead, synced, byte for byte as the document says it.
func TestAppend(t *testing.T) {
	d := fresh(t, 400)
	l := open(t, d)
	var parts, records [][]byte
	for i, n := range sizes() {
		b, done := row(n, i), d.Changes()
		want(t, "Append", l.Append(b), api.OK)
		records = append(records, b)
		parts = append(parts, written(i+1, b))
		if !same(d.Image(), imageOf(400, parts...)) || len(d.Waits()) != 0 {
			t.Fatal(n, "bytes stand otherwise on the device", d.Waits())
		}
		if made := d.Changes() - done; made != len(parts[i])/64+2 {
			t.Fatal(n, "bytes take", made, "changes")
		}
		holds(t, l, records)
		if l.Stopped() {
			t.Fatal("stopped")
		}
		holds(t, open(t, d.Copy()), records)
	}
}

// P8.2: the document's example.
func TestOneByteTakesTwoSectors(t *testing.T) {
	l := open(t, fresh(t, 2))
	want(t, "Append", l.Append([]byte{0}), api.OK)
	want(t, "Append", l.Append([]byte{0}), api.ErrFull)
	holds(t, l, [][]byte{{0}})
	want(t, "Append", open(t, fresh(t, 1)).Append([]byte{0}), api.ErrFull)
}

// P8.2: records of nothing but noughts, whose sectors are as they were, stay too.
func TestNoughts(t *testing.T) {
	d := fresh(t, 100)
	l := open(t, d)
	records := [][]byte{make([]byte, 1), make([]byte, 200), make([]byte, 4000)}
	for _, b := range records {
		want(t, "Append", l.Append(b), api.OK)
	}
	want(t, "Crash", d.Crash(nil), api.OK)
	holds(t, open(t, d), records)
}

// P8.2: change by change: the text, rising, Sync, the mark, Sync; an error at any one of them stops the log, for good.
func TestAppendStep(t *testing.T) {
	first, b := []byte("first"), row(130, 3)
	bare, whole := imageOf(9, written(1, first)), imageOf(9, written(1, first), written(2, b))
	waits := [][]int{{}, {2}, {2, 3}, {2, 3, 4}, {}, {5}}
	for n, waiting := range waits {
		d := fresh(t, 9)
		l := open(t, d)
		want(t, "Append", l.Append(first), api.OK)
		room := l.Room()
		want(t, "Fuse", d.Fuse(n), api.OK)
		want(t, "Append", l.Append(b), api.ErrDead)
		there := 2 + min(n, 3) + max(0, n-4)
		if !same(d.Image(), slices.Concat(whole[:there], bare[there:])) || !slices.Equal(d.Waits(), waiting) {
			t.Fatal(n, d.Waits())
		}
		for _, crashed := range []bool{false, true} {
			if crashed {
				want(t, "Crash", d.Crash(nil), api.OK)
			}
			done := d.Changes()
			for _, again := range [][]byte{b, {1}, row(4000, 1)} {
				want(t, "Append to a log that has stopped", l.Append(again), api.ErrDead)
			}
			want(t, "Append of nothing", l.Append(nil), api.ErrArg)
			holds(t, l, [][]byte{first})
			if !l.Stopped() || l.Room() != room || d.Changes() != done {
				t.Fatal(n, l.Stopped(), l.Room(), d.Changes())
			}
		}
	}
}

// P8.2: what can't be a record, or does not go in, changes nothing, and no error of these stops the log.
func TestAppendErrors(t *testing.T) {
	d := fresh(t, 8)
	l := open(t, d)
	want(t, "Append", l.Append([]byte("x")), api.OK)
	image, done := d.Image(), d.Changes()
	cases := []struct {
		n     int
		errno api.Errno
	}{{0, api.ErrArg}, {4001, api.ErrArg}, {100000, api.ErrArg}, {4000, api.ErrFull}, {309, api.ErrFull}, {372, api.ErrFull}}
	for _, c := range cases {
		want(t, "Append", l.Append(row(c.n, 1)), c.errno)
		if !same(d.Image(), image) || d.Changes() != done || l.Stopped() {
			t.Fatal(c.n, d.Changes(), l.Stopped())
		}
	}
	holds(t, l, [][]byte{[]byte("x")})
	want(t, "Append of what just goes in", l.Append(row(308, 1)), api.OK)
	if l.Room() != 0 {
		t.Fatal(l.Room())
	}
}

// P8.2: a device that has stopped, without the log's knowing it: no room is told first, and a try stops the log.
func TestAppendToStoppedDevice(t *testing.T) {
	d := fresh(t, 3)
	l := open(t, d)
	want(t, "Fuse", d.Fuse(0), api.OK)
	want(t, "Sync", d.Sync(), api.ErrDead)
	if l.Stopped() {
		t.Fatal("the log has not asked it")
	}
	want(t, "Append", l.Append(row(500, 1)), api.ErrFull)
	want(t, "Append", l.Append(nil), api.ErrArg)
	if l.Stopped() {
		t.Fatal("the log has not asked it")
	}
	want(t, "Append", l.Append([]byte("x")), api.ErrDead)
	if !l.Stopped() {
		t.Fatal("the log goes on")
	}
	want(t, "Append", l.Append(row(500, 1)), api.ErrDead)
}

// P8.3: Room is the longest that goes in, whatever is free.
func TestRoom(t *testing.T) {
	for free := 1; free <= 70; free++ {
		for _, ahead := range []int{0, 2} {
			l := open(t, fresh(t, ahead+free))
			if ahead > 0 {
				want(t, "Append", l.Append([]byte("x")), api.OK)
			}
			expect := max(0, min(4000, 64*(free-1)-12))
			if l.Room() != expect {
				t.Fatal(free, ahead, l.Room(), expect)
			}
			if expect < 4000 {
				want(t, "Append of more", l.Append(row(expect+1, 1)), api.ErrFull)
			}
			if expect > 0 {
				want(t, "Append of just that", l.Append(row(expect, 1)), api.OK)
			}
		}
	}
	l := open(t, fresh(t, 2))
	want(t, "Append", l.Append([]byte("x")), api.OK)
	if l.Room() != 0 {
		t.Fatal("room in a full log", l.Room())
	}
}

// P8.1: a log of a hand-made image: its records, up to its last sector; what is not synced counts.
func TestOpen(t *testing.T) {
	holds(t, open(t, fresh(t, 1)), nil)
	holds(t, open(t, fresh(t, api.MaxSectors)), nil)
	var parts, records [][]byte
	sectors := 0
	for i, n := range sizes() {
		records = append(records, row(n, i))
		parts = append(parts, written(i+1, records[i]))
		sectors += len(parts[i]) / 64
		for _, behind := range []int{0, 1, 5} {
			d := of(t, imageOf(sectors+behind, parts...))
			l := open(t, d)
			holds(t, l, records)
			if d.Changes() != 0 || l.Room() != max(0, 64*(behind-1)-12) {
				t.Fatal(n, behind, d.Changes(), l.Room())
			}
		}
		cut := of(t, imageOf(sectors-1, parts...))
		holds(t, open(t, cut), records[:i])
	}
	d := fresh(t, 4)
	for i, b := range imageOf(2, written(1, []byte("x"))) {
		want(t, "Write", d.Write(i, b), api.OK)
	}
	holds(t, open(t, d), [][]byte{[]byte("x")})
	if d.Changes() != 2 || !slices.Equal(d.Waits(), []int{0, 1}) {
		t.Fatal("nothing was to be written", d.Changes(), d.Waits())
	}
}

// P8.1: the greatest log: as many records as a device can have.
func TestOpenGreatest(t *testing.T) {
	d := fresh(t, api.MaxSectors)
	l := open(t, d)
	var records [][]byte
	for i := range api.MaxSectors / 2 {
		records = append(records, []byte{byte(i)})
		want(t, "Append", l.Append(records[i]), api.OK)
	}
	want(t, "Append", l.Append([]byte{1}), api.ErrFull)
	holds(t, l, records)
	holds(t, open(t, d), records)
}

// broken opens a log of record 1 and an image behind it that is no right record 2: that is written over with noughts, and the log goes on.
func broken(t *testing.T, what string, behind []byte) {
	t.Helper()
	first := row(60, 9)
	ahead := written(1, first)
	behind = padded(behind)
	for _, spare := range []int{0, 2} {
		sectors := (len(ahead)+len(behind))/64 + spare
		d := of(t, imageOf(sectors, ahead, behind))
		l := open(t, d)
		if !same(l.Records(), [][]byte{first}) {
			t.Fatal(what, "is a record:", l.Len())
		}
		if !same(d.Image(), imageOf(sectors, ahead)) || len(d.Waits()) != 0 {
			t.Fatal(what, "is not written over, or not synced")
		}
		if l.Room() > 0 {
			b := row(l.Room(), 4)
			want(t, what, l.Append(b), api.OK)
			holds(t, open(t, d), [][]byte{first, b})
		}
	}
}

// P8.1: a record in which one byte is wrong, wherever, is none; nor are those behind it.
func TestOpenOneByteWrong(t *testing.T) {
	right := append(written(2, row(70, 1)), written(3, []byte("x"))...)
	for at := range len(written(2, row(70, 1))) {
		for _, x := range []byte{1, 0x80, 0xff} {
			b := bytes.Clone(right)
			b[at] ^= x
			broken(t, "a wrong byte", b)
		}
	}
}

// text is the text of a number, a length and bytes that it is told, be they right or not.
func text(s uint64, length uint32, b []byte) []byte {
	return padded(append(binary.BigEndian.AppendUint32(binary.BigEndian.AppendUint64(nil, s), length), b...))
}

// P8.1: records whose mark is right for their text, but that are not just what Append writes.
func TestOpenNotJustThis(t *testing.T) {
	x := []byte("x")
	more := append(text(2, 1, x), make([]byte, 64)...)
	for what, b := range map[string][]byte{
		"number 1":                written(1, x),
		"number 3":                written(3, x),
		"number 0":                written(0, x),
		"a negative number":       written(-2, x),
		"an unlike mark's number": marked(3, text(2, 1, x)),
		"an unlike text's number": marked(2, text(3, 1, x)),
		"no bytes":                marked(2, text(2, 0, nil)),
		"too long a record":       written(2, row(4001, 1)),
		"a length beyond all":     marked(2, text(2, math.MaxUint32, x)),
		"a length of 2^31":        marked(2, text(2, 1<<31, x)),
		"something behind":        marked(2, text(2, 1, []byte("xy"))),
		"a text too long":         marked(2, more),
		"a text too short":        marked(2, text(2, 53, row(52, 1))),
		"a text alone":            text(2, 1, x),
		"a text cut":              written(2, row(300, 1))[:128],
		"a mark alone":            written(2, x)[64:],
		"garbage":                 row(640, 5),
		"a record too far behind": append(make([]byte, 64), written(2, x)...),
	} {
		broken(t, what, b)
	}
	broken(t, "a mark's end that is not noughts", append(written(2, x)[:127], 1))
}

// P8.1: just the sectors behind the records that are not noughts are written, rising, and one Sync; an error of each is told.
func TestOpenWipes(t *testing.T) {
	ahead := written(1, []byte("x"))
	dirty := []int{2, 4, 5, 8}
	image := imageOf(9, ahead)
	for _, i := range dirty {
		image[i] = row(64, i)
	}
	image[5] = append(make([]byte, 63), 1)
	for n := range len(dirty) + 1 {
		d := of(t, image)
		want(t, "Fuse", d.Fuse(n), api.OK)
		if l, errno := Open(d); errno != api.ErrDead || l != nil {
			t.Fatal(n, l, errno)
		}
		expect := slices.Clone(image)
		for _, i := range dirty[:n] {
			expect[i] = make([]byte, 64)
		}
		if !same(d.Image(), expect) || !slices.Equal(d.Waits(), dirty[:n]) {
			t.Fatal(n, d.Waits())
		}
	}
	d := of(t, image)
	want(t, "Fuse", d.Fuse(len(dirty)+1), api.OK)
	holds(t, open(t, d), [][]byte{[]byte("x")})
	if !same(d.Image(), imageOf(9, ahead)) || len(d.Waits()) != 0 || d.Changes() != len(dirty)+1 {
		t.Fatal(d.Waits(), d.Changes())
	}
	holds(t, open(t, d), [][]byte{[]byte("x")})
	if d.Changes() != len(dirty)+1 {
		t.Fatal("a second Open writes", d.Changes())
	}
}

// P8.1: ErrNil of no device, ErrDead of one that has stopped, which stays as it is.
func TestOpenErrors(t *testing.T) {
	for _, d := range []*device.Device{nil, {}, new(device.Device)} {
		if l, errno := Open(d); errno != api.ErrNil || l != nil {
			t.Errorf("Open of no device: %v, %v", l, errno)
		}
	}
	for _, image := range [][][]byte{imageOf(4), imageOf(4, written(1, []byte("x"))), imageOf(4, row(256, 1))} {
		d := of(t, image)
		want(t, "Fuse", d.Fuse(0), api.OK)
		want(t, "Sync", d.Sync(), api.ErrDead)
		if l, errno := Open(d); errno != api.ErrDead || l != nil || !same(d.Image(), image) {
			t.Errorf("Open of a stopped device: %v, %v", l, errno)
		}
	}
}

// kept is the k-th choice of which of n sectors stay.
func kept(k, n int) []byte {
	out := make([]byte, n)
	for i := range out {
		out[i] = byte(k >> i & 1)
	}
	return out
}

// reopened has Open tell the same records, whatever happens within it: at each of its changes the device stops, and any of its sectors stay, and so once more.
func reopened(t *testing.T, d *device.Device, records [][]byte, depth int) {
	t.Helper()
	l := open(t, d.Copy())
	holds(t, l, records)
	want(t, "Append behind a crash", l.Append([]byte("behind")), api.OK)
	for n := 0; depth > 0; n++ {
		c := d.Copy()
		want(t, "Fuse", c.Fuse(n), api.OK)
		if _, errno := Open(c); errno == api.OK {
			return
		}
		for k := range 1 << len(c.Waits()) {
			again := c.Copy()
			want(t, "Crash", again.Crash(kept(k, len(c.Waits()))), api.OK)
			reopened(t, again, records, depth-1)
		}
	}
}

// P8.4: the device stops at each change of an Append, and any of its sectors stay: the record is there whole, or not at all.
func TestCrashWithinAppend(t *testing.T) {
	for _, size := range []int{1, 60, 130} {
		d := fresh(t, 12)
		l := open(t, d)
		records := [][]byte{row(20, 1), row(90, 2)}
		for _, b := range records {
			want(t, "Append", l.Append(b), api.OK)
		}
		b := row(size, 3)
		changes := len(written(3, b))/64 + 2
		for n := range changes + 1 {
			c := d.Copy()
			g := open(t, c)
			want(t, "Fuse", c.Fuse(n), api.OK)
			told := g.Append(b)
			if (told == api.OK) != (n == changes) {
				t.Fatal(size, n, told)
			}
			waits := len(c.Waits())
			for k := range 1 << waits {
				again := c.Copy()
				want(t, "Crash", again.Crash(kept(k, waits)), api.OK)
				expect := slices.Clone(records)
				if n == changes || n == changes-1 && k == 1 {
					expect = append(expect, b)
				}
				reopened(t, again, expect, 2)
			}
		}
	}
}

// P8.4: a long life: appends, stops within them and within Open, crashes; what was told OK is there, and at most the one on its way.
func TestCrashesWithinALife(t *testing.T) {
	for seed := range 40 {
		r := rand.New(rand.NewSource(int64(seed)))
		d := fresh(t, 60)
		var records [][]byte
		for range 40 {
			l := open(t, d)
			var going []byte
			for l.Room() > 0 && going == nil {
				b := row(1+r.Intn(min(200, l.Room())), r.Intn(250))
				want(t, "Fuse", d.Fuse(r.Intn(9)), api.OK)
				if l.Append(b) == api.OK {
					records = append(records, b)
				} else {
					going = b
				}
			}
			holds(t, l, records)
			crash(d, r)
			for range r.Intn(4) {
				want(t, "Fuse", d.Fuse(r.Intn(4)), api.OK)
				Open(d)
				crash(d, r)
			}
			g := open(t, d)
			if going != nil && g.Len() == len(records)+1 {
				records = append(records, going)
			}
			holds(t, g, records)
		}
	}
}

// crash turns a device off and on, and any of its sectors stay.
func crash(d *device.Device, r *rand.Rand) {
	keep := make([]byte, len(d.Waits()))
	for i := range keep {
		keep[i] = byte(r.Intn(2))
	}
	d.Crash(keep)
}

// The rule 'Objects': ErrNil ahead of all else; none, 0, true.
func TestNoLog(t *testing.T) {
	for _, l := range []*Log{nil, {}, new(Log)} {
		for _, b := range [][]byte{nil, {}, {1}, make([]byte, 5000)} {
			want(t, "Append", l.Append(b), api.ErrNil)
		}
		if len(l.Records()) != 0 || l.Room() != 0 || l.Len() != 0 || !l.Stopped() {
			t.Error(l.Records(), l.Room(), l.Len(), l.Stopped())
		}
	}
}

// scribble writes over all of a list, its spare room too.
func scribble(b []byte) {
	b = b[:cap(b)]
	for i := range b {
		b[i] = 0xee
	}
}

// The rule 'Memory': what is handed in is neither changed nor kept, and answers share nothing.
func TestMemory(t *testing.T) {
	d := fresh(t, 40)
	l := open(t, d)
	records := [][]byte{row(1, 1), row(52, 2), row(61, 3), row(64, 4)}
	for _, b := range records {
		whole := append(bytes.Clone(b), 9, 9, 9)
		want(t, "Append", l.Append(whole[:len(b)]), api.OK)
		if !bytes.Equal(whole, append(bytes.Clone(b), 9, 9, 9)) {
			t.Fatal("Append changes what it is given")
		}
		scribble(whole)
	}
	for _, log := range []*Log{l, open(t, d)} {
		answers := slices.Concat(log.Records(), log.Records())
		for i := range answers {
			scribble(answers[i])
			for j := i + 1; j < len(answers); j++ {
				if !bytes.Equal(answers[j], records[j%len(records)]) {
					t.Fatal("two answers share memory", i, j)
				}
			}
		}
		list := log.Records()
		clear(list[:cap(list)])
		holds(t, log, records)
	}
	holds(t, open(t, d), records)
}

// What a log tells hangs on its own calls: what others do to the device is not seen.
func TestOwnCallsAlone(t *testing.T) {
	d := fresh(t, 10)
	l := open(t, d)
	want(t, "Append", l.Append([]byte("x")), api.OK)
	want(t, "Write", d.Write(0, row(64, 1)), api.OK)
	holds(t, l, [][]byte{[]byte("x")})
	want(t, "Append", l.Append([]byte("y")), api.OK)
	holds(t, l, [][]byte{[]byte("x"), []byte("y")})
}
