package device

import (
	"bytes"
	"math"
	"math/rand"
	"slices"
	"testing"

	"annals/api"
)

// full is a sector that has nothing but x.
func full(x byte) []byte { return bytes.Repeat([]byte{x}, api.Sector) }

// picture is an image of so many sectors, no two alike.
func picture(sectors int) [][]byte {
	out := make([][]byte, sectors)
	for i := range out {
		out[i] = full(byte(i))
		out[i][0], out[i][api.Sector-1] = byte(i>>8), byte(i+1)
	}
	return out
}

// fresh is a device of so many sectors of noughts.
func fresh(t *testing.T, sectors int) *Device {
	t.Helper()
	d, errno := New(sectors)
	if errno != api.OK || d == nil {
		t.Fatalf("New(%d): %v", sectors, errno)
	}
	return d
}

// of is a device of an image.
func of(t *testing.T, image [][]byte) *Device {
	t.Helper()
	d, errno := Of(image)
	if errno != api.OK || d == nil {
		t.Fatalf("Of %d sectors: %v", len(image), errno)
	}
	return d
}

// want has a call tell that errno.
func want(t *testing.T, what string, got, errno api.Errno) {
	t.Helper()
	if got != errno {
		t.Fatalf("%s: %v, not %v", what, got, errno)
	}
}

// same tells whether two images are alike.
func same(a, b [][]byte) bool { return slices.EqualFunc(a, b, bytes.Equal) }

// reads is all sectors, one by one.
func reads(t *testing.T, d *Device, sectors int) [][]byte {
	t.Helper()
	out := make([][]byte, sectors)
	for i := range out {
		b, errno := d.Read(i)
		want(t, "Read", errno, api.OK)
		out[i] = b
	}
	if _, errno := d.Read(sectors); errno != api.ErrArg {
		t.Fatalf("sector %d of %d: %v", sectors, sectors, errno)
	}
	return out
}

// untouched has a device be as it is made: all synced, nothing done.
func untouched(t *testing.T, d *Device, image [][]byte) {
	t.Helper()
	if !same(d.Image(), image) || !same(reads(t, d, len(image)), image) {
		t.Fatal("it has other sectors")
	}
	if d.Dead() || len(d.Waits()) != 0 || d.Changes() != 0 {
		t.Fatal(d.Dead(), d.Waits(), d.Changes())
	}
	for _, keep := range [][]byte{nil, {1, 1, 1}} {
		c := d.Copy()
		want(t, "Crash", c.Crash(keep), api.OK)
		if !same(c.Image(), image) {
			t.Fatal("a crash changes what was never written")
		}
	}
}

// P7.1
func TestNew(t *testing.T) {
	for _, n := range []int{1, 2, 7, api.MaxSectors} {
		image := make([][]byte, n)
		for i := range image {
			image[i] = full(0)
		}
		untouched(t, fresh(t, n), image)
	}
	for _, n := range []int{0, -1, api.MaxSectors + 1, 1 << 40, math.MaxInt, math.MinInt} {
		if d, errno := New(n); errno != api.ErrArg || d != nil {
			t.Errorf("New(%d): %v, %v", n, d, errno)
		}
	}
}

// P7.1
func TestOf(t *testing.T) {
	for _, n := range []int{1, 2, 7, api.MaxSectors} {
		untouched(t, of(t, picture(n)), picture(n))
	}
	bad := [][][]byte{nil, {}, picture(api.MaxSectors + 1), {nil}, {{}}, {full(1)[1:]}, {append(full(1), 1)}, {append(full(1), full(2)...)}}
	for _, at := range []int{0, 1, 2} {
		for _, b := range [][]byte{nil, full(3)[:63], append(full(3), 0)} {
			image := picture(3)
			image[at] = b
			bad = append(bad, image)
		}
	}
	for i, image := range bad {
		if d, errno := Of(image); errno != api.ErrArg || d != nil {
			t.Errorf("image %d of %d sectors: %v, %v", i, len(image), d, errno)
		}
	}
}

// P7.2: what was written last is read, synced or not; each write, also of what is there, is not synced till Sync.
func TestWriteReadSync(t *testing.T) {
	d := of(t, picture(4))
	want(t, "Write", d.Write(3, full(9)), api.OK)
	want(t, "Write", d.Write(1, picture(4)[1]), api.OK)
	want(t, "Write", d.Write(3, full(8)), api.OK)
	expect := picture(4)
	expect[3] = full(8)
	if !same(reads(t, d, 4), expect) || !slices.Equal(d.Waits(), []int{1, 3}) || d.Changes() != 3 {
		t.Fatal(d.Waits(), d.Changes())
	}
	want(t, "Sync", d.Sync(), api.OK)
	if !same(reads(t, d, 4), expect) || len(d.Waits()) != 0 || d.Changes() != 4 {
		t.Fatal(d.Waits(), d.Changes())
	}
	want(t, "Sync of all synced", d.Sync(), api.OK)
	if d.Changes() != 5 {
		t.Fatal(d.Changes())
	}
}

// P7.2: wrong arguments come ahead of ErrDead, and neither change anything nor burn a fuse.
func TestWrongArguments(t *testing.T) {
	d := of(t, picture(3))
	want(t, "Write", d.Write(0, full(7)), api.OK)
	want(t, "Fuse", d.Fuse(0), api.OK)
	for _, dies := range []bool{false, true} {
		if dies {
			want(t, "Sync", d.Sync(), api.ErrDead)
		}
		for _, i := range []int{-1, 3, api.MaxSectors, math.MaxInt, math.MinInt} {
			if b, errno := d.Read(i); errno != api.ErrArg || len(b) != 0 {
				t.Errorf("Read(%d): %v, %v", i, b, errno)
			}
			want(t, "Write to no sector", d.Write(i, full(1)), api.ErrArg)
		}
		for _, b := range [][]byte{nil, {}, full(1)[1:], append(full(1), 1), append(full(1), full(1)...)} {
			want(t, "Write of no sector", d.Write(1, b), api.ErrArg)
		}
		for _, n := range []int{-1, math.MinInt} {
			want(t, "Fuse below 0", d.Fuse(n), api.ErrArg)
		}
		expect := picture(3)
		expect[0] = full(7)
		if d.Dead() != dies || !same(d.Image(), expect) || !slices.Equal(d.Waits(), []int{0}) || d.Changes() != 1 {
			t.Fatal(d.Dead(), d.Waits(), d.Changes())
		}
	}
}

// P7.2, P7.3: behind n more changes the next one tells ErrDead and does nothing; reading goes on till then.
func TestFuse(t *testing.T) {
	for n := range 6 {
		for _, last := range []string{"write", "sync"} {
			d := fresh(t, 2)
			want(t, "Fuse", d.Fuse(n), api.OK)
			for i := range n {
				if i%3 == 2 {
					want(t, "Sync", d.Sync(), api.OK)
				} else {
					want(t, "Write", d.Write(0, full(byte(i+1))), api.OK)
				}
			}
			image, waits := reads(t, d, 2), d.Waits()
			if d.Dead() {
				t.Fatal(n, "it stops too early")
			}
			if last == "sync" {
				want(t, last, d.Sync(), api.ErrDead)
			} else {
				want(t, last, d.Write(1, full(99)), api.ErrDead)
			}
			if !d.Dead() || !same(d.Image(), image) || !slices.Equal(d.Waits(), waits) || d.Changes() != n {
				t.Fatal(n, last, d.Dead(), d.Waits(), d.Changes())
			}
			stopped(t, d)
		}
	}
}

// stopped has all that a device does tell ErrDead, a new fuse or not.
func stopped(t *testing.T, d *Device) {
	t.Helper()
	for _, n := range []int{0, 5, math.MaxInt} {
		if b, errno := d.Read(0); errno != api.ErrDead || len(b) != 0 {
			t.Fatalf("Read: %v, %v", b, errno)
		}
		want(t, "Write", d.Write(0, full(1)), api.ErrDead)
		want(t, "Sync", d.Sync(), api.ErrDead)
		want(t, "Fuse", d.Fuse(n), api.OK)
		if !d.Dead() {
			t.Fatal("a fuse has it go on")
		}
	}
}

// P7.3: a later fuse counts in an earlier one's place, be it shorter or longer; the greatest one too.
func TestLaterFuse(t *testing.T) {
	for _, c := range [][2]int{{0, 3}, {5, 1}, {math.MaxInt, 0}, {2, 2}} {
		d := fresh(t, 1)
		want(t, "Fuse", d.Fuse(c[0]), api.OK)
		want(t, "Fuse", d.Fuse(c[1]), api.OK)
		for range c[1] {
			want(t, "Sync", d.Sync(), api.OK)
		}
		want(t, "Sync", d.Sync(), api.ErrDead)
	}
	d := fresh(t, 1)
	want(t, "Fuse", d.Fuse(math.MaxInt), api.OK)
	for range 50 {
		want(t, "Sync", d.Sync(), api.OK)
	}
}

// P7.3: the document's example.
func TestCrashExample(t *testing.T) {
	d := of(t, picture(2))
	want(t, "Write", d.Write(0, full(8)), api.OK)
	want(t, "Write", d.Write(1, full(9)), api.OK)
	want(t, "Crash", d.Crash([]byte{0, 1}), api.OK)
	if !same(reads(t, d, 2), [][]byte{picture(2)[0], full(9)}) {
		t.Fatal(d.Image())
	}
}

// P7.3: bytes of keep that are too few, too many, or any number but 0.
func TestCrash(t *testing.T) {
	cases := []struct {
		keep []byte
		stay []bool // of the sectors 1, 2 and 5
	}{
		{nil, []bool{false, false, false}},
		{[]byte{0, 1}, []bool{false, true, false}},
		{[]byte{255}, []bool{true, false, false}},
		{[]byte{0, 0, 128}, []bool{false, false, true}},
		{[]byte{1, 0, 2}, []bool{true, false, true}},
		{[]byte{1, 2, 3}, []bool{true, true, true}},
		{[]byte{0, 0, 0, 1, 1, 1, 1}, []bool{false, false, false}},
	}
	for _, c := range cases {
		for _, dies := range []bool{false, true} {
			d := of(t, picture(6))
			expect := picture(6)
			for _, i := range []int{1, 4} {
				want(t, "Write", d.Write(i, full(200)), api.OK)
				want(t, "Sync", d.Sync(), api.OK)
				expect[i] = full(200)
			}
			crashes(t, d, expect, c.keep, c.stay, dies)
		}
	}
}

// crashes writes the sectors 5, 2 and 1 twice, crashes, and has those stay that must, beside what was there.
func crashes(t *testing.T, d *Device, expect [][]byte, keep []byte, stay []bool, dies bool) {
	t.Helper()
	for _, i := range []int{5, 2, 1, 5} {
		want(t, "Write", d.Write(i, full(byte(100+i))), api.OK)
		want(t, "Write", d.Write(i, full(byte(50+i))), api.OK)
	}
	if dies {
		want(t, "Fuse", d.Fuse(0), api.OK)
		want(t, "Sync", d.Sync(), api.ErrDead)
	} else {
		want(t, "Fuse", d.Fuse(1), api.OK)
	}
	done := d.Changes()
	want(t, "Crash", d.Crash(keep), api.OK)
	for k, i := range []int{1, 2, 5} {
		if stay[k] {
			expect[i] = full(byte(50 + i))
		}
	}
	if !same(reads(t, d, len(expect)), expect) || len(d.Waits()) != 0 || d.Dead() || d.Changes() != done {
		t.Fatal(keep, dies, d.Waits(), d.Dead(), d.Changes())
	}
	for range 3 {
		want(t, "Sync behind a crash, which no fuse ends", d.Sync(), api.OK)
	}
	want(t, "Crash", d.Crash(nil), api.OK)
	if !same(d.Image(), expect) {
		t.Fatal(keep, "a second crash takes what the first one left")
	}
}

// model is a device as the document says it, with two images, gone through sector by sector.
type model struct {
	now, safe [][]byte
	waits     []bool
	fuse      int
	fused     bool
	dead      bool
	changes   int
}

func (m *model) change() bool {
	if m.dead || m.fused && m.fuse == 0 {
		m.dead = true
		return false
	}
	m.fuse--
	m.changes++
	return true
}

func (m *model) write(i int, b []byte) api.Errno {
	if !m.change() {
		return api.ErrDead
	}
	m.now[i], m.waits[i] = b, true
	return api.OK
}

func (m *model) sync() api.Errno {
	if !m.change() {
		return api.ErrDead
	}
	copy(m.safe, m.now)
	clear(m.waits)
	return api.OK
}

func (m *model) crash(keep []byte) {
	k := 0
	for i := range m.now {
		if m.waits[i] {
			if k >= len(keep) || keep[k] == 0 {
				m.now[i] = m.safe[i]
			}
			k++
		}
		m.safe[i], m.waits[i] = m.now[i], false
	}
	m.dead, m.fused = false, false
}

// agree has a device tell what its model tells.
func (m *model) agree(t *testing.T, d *Device) {
	t.Helper()
	var waits []int
	for i, w := range m.waits {
		if w {
			waits = append(waits, i)
		}
	}
	if d.Dead() != m.dead || d.Changes() != m.changes || !slices.Equal(d.Waits(), waits) || !same(d.Image(), m.now) {
		t.Fatal(d.Dead(), m.dead, d.Changes(), m.changes, d.Waits(), waits)
	}
	if !m.dead && !same(reads(t, d, len(m.now)), m.now) {
		t.Fatal("what is read is not what is there")
	}
}

// P7.1 to P7.3: whatever is called, in whatever order, a device is as its model; and a copy goes on as the device would.
func TestAgainstModel(t *testing.T) {
	for seed := range 60 {
		r := rand.New(rand.NewSource(int64(seed)))
		n := 1 + r.Intn(6)
		m := &model{now: picture(n), safe: picture(n), waits: make([]bool, n)}
		d := of(t, picture(n))
		for range 150 {
			switch r.Intn(12) {
			case 0:
				m.fuse, m.fused = r.Intn(6), true
				want(t, "Fuse", d.Fuse(m.fuse), api.OK)
			case 1:
				keep := make([]byte, r.Intn(n+2))
				for i := range keep {
					keep[i] = byte(r.Intn(3))
				}
				m.crash(keep)
				want(t, "Crash", d.Crash(keep), api.OK)
			case 2, 3:
				want(t, "Sync", d.Sync(), m.sync())
			case 4:
				left := d
				d = d.Copy()
				left.Write(0, full(77))
				left.Crash(nil)
				left.Sync()
			default:
				i, b := r.Intn(n), full(byte(r.Intn(256)))
				want(t, "Write", d.Write(i, b), m.write(i, b))
			}
			m.agree(t, d)
		}
	}
}

// P7.3: a copy has what was not synced, the fuse, and whether it has stopped; neither one sees what the other does.
func TestCopy(t *testing.T) {
	d := of(t, picture(3))
	want(t, "Write", d.Write(2, full(5)), api.OK)
	want(t, "Fuse", d.Fuse(2), api.OK)
	c := d.Copy()
	want(t, "Write", c.Write(0, full(6)), api.OK)
	want(t, "Sync", c.Sync(), api.OK)
	want(t, "Write", c.Write(1, full(6)), api.ErrDead)
	dead := c.Copy()
	want(t, "Crash", c.Crash(nil), api.OK)
	stopped(t, dead)
	if dead.Changes() != 3 || d.Changes() != 1 || d.Dead() || !slices.Equal(d.Waits(), []int{2}) {
		t.Fatal(dead.Changes(), d.Changes(), d.Dead(), d.Waits())
	}
	want(t, "Crash", d.Crash(nil), api.OK)
	if !same(d.Image(), picture(3)) {
		t.Fatal("the copy's sync, or its write, is seen")
	}
	expect := picture(3)
	expect[0], expect[2] = full(6), full(5)
	if !same(c.Image(), expect) {
		t.Fatal("the device's crash is seen")
	}
}

// P7.4: what was synced is read behind a crash, unless it was written since.
func TestSyncedStays(t *testing.T) {
	for keep := range 1 << 4 {
		d := fresh(t, 4)
		for i := range 4 {
			want(t, "Write", d.Write(i, full(byte(i+1))), api.OK)
		}
		want(t, "Sync", d.Sync(), api.OK)
		want(t, "Write", d.Write(2, full(50)), api.OK)
		want(t, "Crash", d.Crash([]byte{byte(keep & 1), byte(keep & 2), byte(keep & 4), byte(keep & 8)}), api.OK)
		expect := [][]byte{full(1), full(2), full(3), full(4)}
		if keep&1 != 0 {
			expect[2] = full(50)
		}
		if !same(reads(t, d, 4), expect) {
			t.Fatal(keep)
		}
	}
}

// P7.5: a crash that keeps all, of a device that has not stopped, changes nothing of what is read.
func TestCrashThatKeepsAll(t *testing.T) {
	r := rand.New(rand.NewSource(5))
	for range 200 {
		n := 1 + r.Intn(8)
		d := of(t, picture(n))
		for range r.Intn(20) {
			want(t, "Write", d.Write(r.Intn(n), full(byte(r.Intn(256)))), api.OK)
			if r.Intn(5) == 0 {
				want(t, "Sync", d.Sync(), api.OK)
			}
		}
		ahead := reads(t, d, n)
		want(t, "Crash", d.Crash(full(1)[:n]), api.OK)
		if !same(reads(t, d, n), ahead) {
			t.Fatal("a sector that is kept changes")
		}
	}
}

// The rule 'Objects': ErrNil ahead of all else; true, none, nil, 0.
func TestNoDevice(t *testing.T) {
	for _, d := range []*Device{nil, {}, new(Device)} {
		for range 2 {
			for _, i := range []int{0, -1, math.MaxInt, math.MinInt} {
				if b, errno := d.Read(i); errno != api.ErrNil || len(b) != 0 {
					t.Errorf("Read(%d): %v, %v", i, b, errno)
				}
				want(t, "Write", d.Write(i, full(1)), api.ErrNil)
				want(t, "Write", d.Write(i, nil), api.ErrNil)
				want(t, "Fuse", d.Fuse(i), api.ErrNil)
			}
			want(t, "Sync", d.Sync(), api.ErrNil)
			want(t, "Crash", d.Crash(nil), api.ErrNil)
			want(t, "Crash", d.Crash([]byte{1, 1}), api.ErrNil)
			if !d.Dead() || len(d.Waits()) != 0 || len(d.Image()) != 0 || d.Copy() != nil || d.Changes() != 0 {
				t.Error(d.Dead(), d.Waits(), d.Image(), d.Copy(), d.Changes())
			}
		}
	}
}

// scribble writes over all of an answer, its spare room too.
func scribble(b []byte) {
	b = b[:cap(b)]
	for i := range b {
		b[i] = 0xee
	}
}

// The rule 'Memory': what is handed in is neither changed nor kept, and answers share nothing.
func TestMemory(t *testing.T) {
	image := picture(3)
	d := of(t, image)
	for _, b := range image {
		scribble(b)
	}
	whole := append(full(7), full(8)...)
	keep := []byte{0, 1, 9, 9}
	want(t, "Write", d.Write(1, whole[:api.Sector]), api.OK)
	if !bytes.Equal(whole, append(full(7), full(8)...)) {
		t.Fatal("Write changes what it is given")
	}
	scribble(whole)
	expect := picture(3)
	expect[1] = full(7)
	answers := []([][]byte){d.Image(), d.Image(), reads(t, d, 3), d.Copy().Image()}
	for a := range answers {
		for i := range answers[a] {
			scribble(answers[a][i])
			for b := range answers {
				for j := range answers[b] {
					if (b > a || b == a && j > i) && !bytes.Equal(answers[b][j], expect[j]) {
						t.Fatal("two answers share memory", a, i, b, j)
					}
				}
			}
		}
	}
	w := d.Waits()
	w[0] = 2
	if !slices.Equal(d.Waits(), []int{1}) || !same(d.Image(), expect) {
		t.Fatal("an answer is shared with the device")
	}
	want(t, "Write", d.Write(2, full(6)), api.OK)
	want(t, "Crash", d.Crash(keep[:1]), api.OK)
	if !bytes.Equal(keep, []byte{0, 1, 9, 9}) || !same(d.Image(), picture(3)) {
		t.Fatal("Crash", keep)
	}
}
