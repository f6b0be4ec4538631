package admit

import (
	"bytes"
	"math"
	"math/rand"
	"slices"
	"testing"

	"annals/api"
)

// field is one of the eight numbers, and from what to what it may go.
type field struct {
	name        string
	of          func(p *api.Params) *int
	least, most int
}

// fields are all eight, in their order; the limits are the document's, spelled out.
func fields() []field {
	return []field{
		{"Size", func(p *api.Params) *int { return &p.Size }, 1, 32},
		{"Height", func(p *api.Params) *int { return &p.Height }, 0, 8},
		{"MaxID", func(p *api.Params) *int { return &p.MaxID }, 0, 24},
		{"MaxKey", func(p *api.Params) *int { return &p.MaxKey }, 0, 48},
		{"Changes", func(p *api.Params) *int { return &p.Changes }, 0, 4096},
		{"Arena", func(p *api.Params) *int { return &p.Arena }, 1, 1 << 22},
		{"Cache", func(p *api.Params) *int { return &p.Cache }, 0, 8},
		{"Page", func(p *api.Params) *int { return &p.Page }, 1, 32},
	}
}

// plain are parameters that may be.
func plain() api.Params {
	return api.Params{Size: 4, Height: 2, MaxID: 2, MaxKey: 4, Changes: 10, Arena: 781, Cache: 1, Page: 3}
}

// needed is what an arena must have room for, counted by hand: nodes of a change, added up.
func needed(p api.Params) int {
	each := 2
	for range p.MaxID + 1 {
		each += 8
	}
	sum := 1
	for range 2 + p.Cache {
		sum += p.Changes * each
	}
	return sum
}

// drawn are parameters that may be, if there is an arena for them.
func drawn(source *rand.Rand) api.Params {
	var p api.Params
	for _, f := range fields() {
		*f.of(&p) = f.least + source.Intn(f.most-f.least+1)
	}
	return p
}

// P15.1: each number at its bounds, and beyond them.
func TestCheckOfEachBound(t *testing.T) {
	for _, f := range fields() {
		for _, n := range []int{f.least, f.least + 1, f.most - 1, f.most} {
			p := plain()
			p.Arena = api.MaxArena
			*f.of(&p) = n
			want := api.OK
			if p.Arena < needed(p) {
				want = api.ErrFull
			}
			if got := Check(p); got != want {
				t.Errorf("%s %d: %d, not %d", f.name, n, got, want)
			}
		}
		for _, n := range []int{f.least - 1, f.most + 1, -1, math.MinInt, math.MaxInt, math.MinInt + 1, math.MaxInt - 1, 1 << 32, 1 << 62, -1 << 32} {
			p := plain()
			p.Arena = api.MaxArena
			*f.of(&p) = n
			if got := Check(p); got != api.ErrArg {
				t.Errorf("%s %d: %d", f.name, n, got)
			}
		}
	}
}

// P15.1: an arena that is too small, by one or by all.
func TestCheckOfTheArena(t *testing.T) {
	source := rand.New(rand.NewSource(1))
	for range 3000 {
		p := drawn(source)
		need := needed(p)
		for _, p.Arena = range []int{need - 1, need, need + 1, 1, api.MaxArena, 0, api.MaxArena + 1} {
			want := api.OK
			if p.Arena < 1 || p.Arena > api.MaxArena {
				want = api.ErrArg
			} else if p.Arena < need {
				want = api.ErrFull
			}
			if got := Check(p); got != want {
				t.Fatalf("%+v needs %d: %d, not %d", p, need, got, want)
			}
		}
	}
}

// P15.1: no directory of these may be, as no arena is great enough.
func TestCheckOfTheGreatest(t *testing.T) {
	p := api.Params{Size: 32, Height: 8, MaxID: 24, MaxKey: 48, Changes: 4096, Arena: 1 << 22, Cache: 8, Page: 32}
	if got := Check(p); got != api.ErrFull {
		t.Error(got)
	}
	if p.Cache = 3; Check(p) != api.OK {
		t.Error(Check(p), Need(p))
	}
	if p.Page = 33; Check(p) != api.ErrArg {
		t.Error(Check(p))
	}
}

// P15.1: of two errors the one that is named first.
func TestCheckTellsTheFirstError(t *testing.T) {
	for _, f := range fields() {
		p := plain()
		p.Arena = 1
		if Check(p) != api.ErrFull {
			t.Fatal(Check(p))
		}
		*f.of(&p) = f.least - 1
		if got := Check(p); got != api.ErrArg {
			t.Errorf("%s, and an arena too small: %d", f.name, got)
		}
	}
}

// P15.1, example 1
func TestNumbers(t *testing.T) {
	cases := []struct {
		p                                    api.Params
		deepest, each, need, epochs, sectors int
	}{
		{plain(), 24, 26, 3*10*26 + 1, 4, 25},
		{api.Params{Size: 1, Page: 1}, 8, 10, 1, 1, 5},
		{api.Params{Size: 1, Page: 1, Changes: 1}, 8, 10, 21, 1, 7},
		{api.Params{Size: 1, Page: 1, Changes: 1, MaxID: 24, MaxKey: 12}, 200, 202, 405, 1, 7},
		{api.Params{Size: 1, Page: 1, Changes: 1, MaxID: 24, MaxKey: 13}, 200, 202, 405, 1, 8},
		{api.Params{Size: 1, Page: 1, Changes: 2, MaxID: 1, MaxKey: 35, Cache: 8}, 16, 18, 361, 1, 5 + 2*2},
		{api.Params{Size: 1, Page: 1, Changes: 2, MaxID: 1, MaxKey: 36, Cache: 8}, 16, 18, 361, 1, 5 + 2*3},
		{api.Params{Size: 32, Height: 8, MaxID: 24, MaxKey: 48, Changes: 4096, Cache: 8, Page: 32}, 200, 202, 10*4096*202 + 1, 256, 5 + 4096*3},
	}
	for _, c := range cases {
		for _, arena := range []int{0, -1, 1, c.p.Arena, api.MaxArena, api.MaxArena + 1, math.MinInt, math.MaxInt} {
			c.p.Arena = arena
			got := []int{Deepest(c.p), Each(c.p), Need(c.p), Epochs(c.p), Sectors(c.p)}
			if want := []int{c.deepest, c.each, c.need, c.epochs, c.sectors}; !slices.Equal(got, want) {
				t.Errorf("%+v: %v, not %v", c.p, got, want)
			}
		}
	}
}

// P15.1: all that may be, each number's every value.
func TestNumbersOfWhatever(t *testing.T) {
	for height := range 9 {
		p := plain()
		p.Height = height
		if got := Epochs(p); got != []int{1, 2, 4, 8, 16, 32, 64, 128, 256}[height] {
			t.Errorf("height %d: %d epochs", height, got)
		}
	}
	source := rand.New(rand.NewSource(2))
	for range 5000 {
		p := drawn(source)
		each := 2
		sectors := 1
		for range p.MaxID + 1 {
			each += 8
		}
		for left := 91 + p.MaxID + p.MaxKey; left >= 64; left -= 64 {
			sectors++
		}
		if Deepest(p) != each-2 || Each(p) != each || Need(p) != needed(p) || Sectors(p) != 5+p.Changes*sectors {
			t.Fatalf("%+v: %d %d %d %d", p, Deepest(p), Each(p), Need(p), Sectors(p))
		}
	}
}

// P15.1: 0 of parameters that may not be, but for Arena.
func TestNumbersOfWhatMayNotBe(t *testing.T) {
	for _, f := range fields() {
		for _, n := range []int{f.least - 1, f.most + 1, math.MinInt, math.MaxInt} {
			p := plain()
			*f.of(&p) = n
			got := []int{Deepest(p), Each(p), Need(p), Epochs(p), Sectors(p)}
			want := []int{0, 0, 0, 0, 0}
			if f.name == "Arena" {
				want = []int{24, 26, 781, 4, 25}
			}
			if !slices.Equal(got, want) {
				t.Errorf("%s %d: %v", f.name, n, got)
			}
		}
	}
}

// number is a number's bytes, spelled out.
func number(n int) []byte {
	var digits []byte
	for ; n > 0; n /= 256 {
		digits = append([]byte{byte(n % 256)}, digits...)
	}
	return append([]byte{byte(len(digits))}, digits...)
}

// written is parameters' bytes, spelled out.
func written(p api.Params) []byte {
	var out []byte
	for _, f := range fields() {
		out = append(out, number(*f.of(&p))...)
	}
	return out
}

// P15.2
func TestWrite(t *testing.T) {
	p := api.Params{Size: 4, Height: 0, MaxID: 2, MaxKey: 48, Changes: 258, Arena: 1 << 22, Cache: 1, Page: 3}
	want := []byte{1, 4, 0, 1, 2, 1, 48, 2, 1, 2, 3, 64, 0, 0, 1, 1, 1, 3}
	if got := Write(nil, p); !bytes.Equal(got, want) {
		t.Error(got)
	}
	if got := Write([]byte{9, 8}, p); !bytes.Equal(got, append([]byte{9, 8}, want...)) {
		t.Error(got)
	}
	if got := Write(nil, api.Params{}); !bytes.Equal(got, make([]byte, 8)) {
		t.Error(got)
	}
	if got := Write(nil, api.Params{Size: -1, Height: math.MinInt, Page: -5}); !bytes.Equal(got, make([]byte, 8)) {
		t.Error(got)
	}
	huge := Write(nil, api.Params{Size: math.MaxInt, Page: 1 << 62})
	if most := []byte{8, 64, 0, 0, 0, 0, 0, 0, 0}; !bytes.Equal(huge, slices.Concat(most, make([]byte, 6), most)) {
		t.Error(huge)
	}
	source := rand.New(rand.NewSource(3))
	for range 2000 {
		p := drawn(source)
		if got := Write([]byte{7}, p); !bytes.Equal(got, append([]byte{7}, written(p)...)) {
			t.Fatalf("%+v: %v", p, got)
		}
	}
}

// P15.2: each number's place.
func TestOrderOfTheEight(t *testing.T) {
	for i, f := range fields() {
		var p api.Params
		*f.of(&p) = 7
		want := slices.Concat(make([]byte, i), []byte{1, 7}, make([]byte, 7-i))
		if got := Write(nil, p); !bytes.Equal(got, want) {
			t.Errorf("%s: %v", f.name, got)
		}
		if got, rest, errno := Read(want); got != p || len(rest) != 0 || errno != api.OK {
			t.Errorf("%s: %+v %v %d", f.name, got, rest, errno)
		}
	}
}

// P15.2, P15.3
func TestReadOfWrite(t *testing.T) {
	source := rand.New(rand.NewSource(4))
	taken := 0
	for range 5000 {
		p := drawn(source)
		if Check(p) == api.OK {
			taken++
		}
		tail := make([]byte, source.Intn(4))
		source.Read(tail)
		got, rest, errno := Read(append(Write(nil, p), tail...))
		if errno != api.OK || got != p || !bytes.Equal(rest, tail) {
			t.Fatalf("%+v: %+v %v %d", p, got, rest, errno)
		}
	}
	if taken < 100 {
		t.Fatal("only", taken, "that may be")
	}
}

// P15.2: what may not be is read too, up to 2^31.
func TestReadOfEachNumber(t *testing.T) {
	for i, f := range fields() {
		for _, n := range []int{0, 1, 255, 256, 1 << 22, 1<<31 - 1, 1 << 31} {
			b := slices.Concat(make([]byte, i), number(n), make([]byte, 7-i))
			var want api.Params
			*f.of(&want) = n
			if got, rest, errno := Read(b); got != want || len(rest) != 0 || errno != api.OK {
				t.Errorf("%s %d: %+v %v %d", f.name, n, got, rest, errno)
			}
		}
		for _, n := range []int{1<<31 + 1, 1 << 32, 1 << 50, 1 << 62} {
			refused(t, slices.Concat(make([]byte, i), number(n), make([]byte, 7-i)), api.ErrFull)
		}
	}
}

// refused: an error, and nothing else.
func refused(t *testing.T, b []byte, want api.Errno) {
	t.Helper()
	if p, rest, errno := Read(b); errno != want || p != (api.Params{}) || len(rest) != 0 {
		t.Errorf("%v: %+v %v %d, not %d", b, p, rest, errno, want)
	}
}

// P15.2: the codec's errors, at each of the eight.
func TestReadErrors(t *testing.T) {
	refused(t, nil, api.ErrShort)
	refused(t, []byte{}, api.ErrShort)
	refused(t, []byte{1, 4}, api.ErrShort)
	whole := Write(nil, api.Params{Size: 4, Height: 2, MaxID: 2, MaxKey: 300, Changes: 70000, Arena: 781, Cache: 1, Page: 3})
	for n := range len(whole) {
		refused(t, whole[:n], api.ErrShort)
	}
	for i := range 8 {
		ahead := bytes.Repeat([]byte{1, 5}, i)
		behind := bytes.Repeat([]byte{1, 6}, 7-i)
		refused(t, slices.Concat(ahead, []byte{9}, behind), api.ErrForm)
		refused(t, slices.Concat(ahead, []byte{255}, behind), api.ErrForm)
		refused(t, slices.Concat(ahead, []byte{1, 0}, behind), api.ErrForm)
		refused(t, slices.Concat(ahead, []byte{2, 0, 1}, behind), api.ErrForm)
		refused(t, slices.Concat(ahead, []byte{8, 64, 0, 0, 0, 0, 0, 0, 1}, behind), api.ErrForm)
		refused(t, slices.Concat(ahead, []byte{5, 1, 0, 0, 0, 0}, behind), api.ErrFull)
	}
	// the first error counts
	refused(t, []byte{5, 1, 0, 0, 0, 0, 9}, api.ErrFull)
	refused(t, []byte{9, 5, 1, 0, 0, 0, 0}, api.ErrForm)
}

// Read ends at whatever bytes, and what it took is what Write tells.
func TestReadOfWhatever(t *testing.T) {
	source := rand.New(rand.NewSource(5))
	taken := 0
	for range 50000 {
		b := make([]byte, source.Intn(30))
		for i := range b {
			b[i] = byte(source.Intn(4))
		}
		p, rest, errno := Read(b)
		if errno != api.OK {
			refused(t, b, errno)
			continue
		}
		taken++
		if !bytes.Equal(append(Write(nil, p), rest...), b) {
			t.Fatalf("%v: %+v %v", b, p, rest)
		}
	}
	if taken < 100 {
		t.Fatal("only", taken, "taken")
	}
}

// scribble writes over a list, and over the room behind its end.
func scribble(b []byte) {
	b = b[:cap(b)]
	for i := range b {
		b[i] ^= 0xff
	}
}

// Memory: what is handed in stays, the room behind it too, and is not answered.
func TestMemory(t *testing.T) {
	room := bytes.Repeat([]byte{7}, 100)
	ahead := room[:3]
	got := Write(ahead, plain())
	if !bytes.Equal(room, bytes.Repeat([]byte{7}, 100)) {
		t.Error("Write wrote behind the end", room)
	}
	scribble(got)
	if !bytes.Equal(room, bytes.Repeat([]byte{7}, 100)) {
		t.Error("Write shares", room)
	}
	b := append(Write(nil, plain()), 1, 2, 3)
	kept := bytes.Clone(b)
	_, rest, _ := Read(b)
	scribble(rest)
	if !bytes.Equal(b, kept) {
		t.Error("Read shares what is left")
	}
	_, rest, _ = Read(b)
	scribble(b)
	if !bytes.Equal(rest, []byte{1, 2, 3}) {
		t.Error("Read keeps what is left", rest)
	}
}
