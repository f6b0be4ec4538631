package codec

import (
	"bytes"
	"math"
	"math/rand"
	"testing"

	"annals/api"
)

// numbers: each number's bytes, at the edges of how many it takes.
func numbers() map[int][]byte {
	return map[int][]byte{
		0:            {0},
		1:            {1, 1},
		255:          {1, 255},
		256:          {2, 1, 0},
		258:          {2, 1, 2},
		65535:        {2, 255, 255},
		65536:        {3, 1, 0, 0},
		1<<32 - 1:    {4, 255, 255, 255, 255},
		1 << 32:      {5, 1, 0, 0, 0, 0},
		1<<56 - 1:    {7, 255, 255, 255, 255, 255, 255, 255},
		1 << 56:      {8, 1, 0, 0, 0, 0, 0, 0, 0},
		1<<62 - 1:    {8, 0x3f, 255, 255, 255, 255, 255, 255, 255},
		1 << 62:      {8, 0x40, 0, 0, 0, 0, 0, 0, 0},
		0x0102030405: {5, 1, 2, 3, 4, 5},
	}
}

// P4.1
func TestPutUint(t *testing.T) {
	for n, want := range numbers() {
		if got := Uint(nil, n); !bytes.Equal(got, want) {
			t.Errorf("Uint(nil, %d): %v, not %v", n, got, want)
		}
		if got := Uint([]byte{7, 8}, n); !bytes.Equal(got, append([]byte{7, 8}, want...)) {
			t.Errorf("%d behind two bytes: %v", n, got)
		}
	}
	for _, n := range []int{-1, -256, math.MinInt, math.MinInt + 1} {
		if got := Uint([]byte{7}, n); !bytes.Equal(got, []byte{7, 0}) {
			t.Errorf("%d does not count as 0: %v", n, got)
		}
	}
	for _, n := range []int{1<<62 + 1, math.MaxInt, math.MaxInt - 1} {
		if got := Uint(nil, n); !bytes.Equal(got, []byte{8, 0x40, 0, 0, 0, 0, 0, 0, 0}) {
			t.Errorf("%d does not count as 2^62: %v", n, got)
		}
	}
}

// P4.1
func TestPutBytes(t *testing.T) {
	long := bytes.Repeat([]byte{3}, 300)
	cases := []struct{ b, s, want []byte }{
		{nil, nil, []byte{0}},
		{[]byte{9}, []byte{}, []byte{9, 0}},
		{[]byte{9}, []byte("ab"), []byte{9, 1, 2, 'a', 'b'}},
		{nil, long[:255], append([]byte{1, 255}, long[:255]...)},
		{nil, long[:256], append([]byte{2, 1, 0}, long[:256]...)},
		{nil, long, append([]byte{2, 1, 44}, long...)},
	}
	for _, c := range cases {
		if got := Bytes(c.b, c.s); !bytes.Equal(got, c.want) {
			t.Errorf("Bytes(%v, %v): %v", c.b, c.s, got)
		}
	}
}

// P4.1
func TestPutFlag(t *testing.T) {
	if got := Flag([]byte{4}, true); !bytes.Equal(got, []byte{4, 1}) {
		t.Error(got)
	}
	if got := Flag(nil, false); !bytes.Equal(got, []byte{0}) {
		t.Error(got)
	}
}

// P4.2
func TestReadUint(t *testing.T) {
	for want, b := range numbers() {
		for _, most := range []int{want, 1 << 62, math.MaxInt} {
			r := Open(append(bytes.Clone(b), 0))
			if got := r.Uint(most); got != want || r.Err() != api.OK || r.Left() != 1 {
				t.Errorf("%v up to %d: %d, %v, %d left", b, most, got, r.Err(), r.Left())
			}
		}
		for _, most := range []int{want - 1, -1, math.MinInt} {
			r := Open(b)
			if got := r.Uint(most); got != 0 || r.Err() != api.ErrFull {
				t.Errorf("%v up to %d: %d, %v", b, most, got, r.Err())
			}
		}
	}
}

// P4.2: of a number, each error, and the first one where several apply.
func TestReadUintErrors(t *testing.T) {
	cases := []struct {
		b    []byte
		want api.Errno
	}{
		{nil, api.ErrShort},
		{[]byte{9}, api.ErrForm},
		{[]byte{255}, api.ErrForm},
		{[]byte{9, 1, 1, 1, 1, 1, 1, 1, 1, 1}, api.ErrForm},
		{[]byte{1}, api.ErrShort},
		{[]byte{2, 1}, api.ErrShort},
		{[]byte{2, 0}, api.ErrShort},
		{[]byte{8, 1, 1, 1, 1, 1, 1, 1}, api.ErrShort},
		{[]byte{8, 255, 1, 1, 1, 1, 1, 1}, api.ErrShort},
		{[]byte{1, 0}, api.ErrForm},
		{[]byte{2, 0, 255}, api.ErrForm},
		{[]byte{8, 0x40, 0, 0, 0, 0, 0, 0, 1}, api.ErrForm},
		{[]byte{8, 0x80, 0, 0, 0, 0, 0, 0, 0}, api.ErrForm},
		{[]byte{8, 255, 255, 255, 255, 255, 255, 255, 255}, api.ErrForm},
		{[]byte{1, 6}, api.ErrFull},
		{[]byte{8, 0x40, 0, 0, 0, 0, 0, 0, 0}, api.ErrFull},
	}
	for _, c := range cases {
		r := Open(c.b)
		if got := r.Uint(5); got != 0 || r.Err() != c.want || r.End() != c.want {
			t.Errorf("the number %v: %d, %v, %v, not %v", c.b, got, r.Err(), r.End(), c.want)
		}
		r = Open(c.b)
		if got := r.Bytes(5); len(got) != 0 || r.Err() != c.want || r.End() != c.want {
			t.Errorf("the text of the length %v: %v, %v, %v, not %v", c.b, got, r.Err(), r.End(), c.want)
		}
	}
}

// P4.2
func TestReadBytes(t *testing.T) {
	cases := []struct {
		b    []byte
		most int
		text string
		want api.Errno
	}{
		{[]byte{0}, 0, "", api.OK},
		{[]byte{1, 2, 'a', 'b'}, 2, "ab", api.OK},
		{[]byte{1, 2, 'a', 'b'}, math.MaxInt, "ab", api.OK},
		{[]byte{1, 2, 'a', 'b'}, 1, "", api.ErrFull},
		{[]byte{0}, -1, "", api.ErrFull},
		{[]byte{1, 2, 'a'}, 2, "", api.ErrShort},
		{[]byte{1, 2}, 2, "", api.ErrShort},
		{[]byte{1, 3, 'a'}, 2, "", api.ErrFull},
		{[]byte{8, 0x40, 0, 0, 0, 0, 0, 0, 0}, math.MaxInt, "", api.ErrShort},
	}
	for _, c := range cases {
		r := Open(c.b)
		if got := r.Bytes(c.most); string(got) != c.text || r.Err() != c.want || r.Left() != 0 {
			t.Errorf("%v up to %d: %v, %v, %d left", c.b, c.most, got, r.Err(), r.Left())
		}
	}
}

// P4.2
func TestReadFlag(t *testing.T) {
	r := Open([]byte{1, 0, 1})
	if !r.Flag() || r.Flag() || !r.Flag() || r.Err() != api.OK || r.End() != api.OK {
		t.Error(r.Err())
	}
	if r.Flag() || r.Err() != api.ErrShort {
		t.Error(r.Err())
	}
	for _, x := range []byte{2, 3, 128, 255} {
		if r := Open([]byte{x}); r.Flag() || r.Err() != api.ErrForm || r.Left() != 0 {
			t.Errorf("the yes or no %d: %v", x, r.Err())
		}
	}
}

// P4.2: behind the first error nothing is told any more, whatever the next bytes are, and no other error takes its place.
func TestFirstErrorStays(t *testing.T) {
	fails := map[api.Errno]func(r *Reader){
		api.ErrFull:  func(r *Reader) { r.Uint(0) },
		api.ErrShort: func(r *Reader) { r.Uint(1); r.Bytes(99) },
		api.ErrForm:  func(r *Reader) { r.Uint(1); r.Uint(1); r.Uint(1); r.Flag() },
	}
	for want, fail := range fails {
		r := Open([]byte{1, 1, 1, 1, 1, 1, 7, 1, 1})
		if want == api.ErrShort {
			r = Open([]byte{1, 1, 1, 9, 1, 1})
		}
		fail(r)
		for range 2 {
			if r.Err() != want || r.End() != want || r.Left() != 0 {
				t.Errorf("%v, %v, %d left, not %v", r.Err(), r.End(), r.Left(), want)
			}
			if r.Uint(99) != 0 || len(r.Bytes(99)) != 0 || r.Flag() || r.Uint(-1) != 0 {
				t.Errorf("something is told behind %v", want)
			}
		}
	}
}

// P4.2
func TestLeftAndEnd(t *testing.T) {
	r := Open([]byte{2, 1, 2, 1, 1, 'a', 1})
	wants := []int{7, 4, 1, 0}
	steps := []func(){func() {}, func() { r.Uint(300) }, func() { r.Bytes(1) }, func() { r.Flag() }}
	for i, step := range steps {
		step()
		end := api.ErrForm
		if wants[i] == 0 {
			end = api.OK
		}
		// Asked twice: End only tells that something is left, and is no error by itself.
		for range 2 {
			if r.Left() != wants[i] || r.End() != end || r.Err() != api.OK {
				t.Errorf("behind step %d: %d left, %v, %v", i, r.Left(), r.End(), r.Err())
			}
		}
	}
	if r := Open(nil); r.Left() != 0 || r.Err() != api.OK || r.End() != api.OK {
		t.Error("a reader of no bytes", r.Left(), r.Err(), r.End())
	}
}

// P4.2: a reader that no call made.
func TestNoReader(t *testing.T) {
	for _, r := range []*Reader{nil, {}, new(Reader)} {
		for range 2 {
			if r.Uint(9) != 0 || len(r.Bytes(9)) != 0 || r.Flag() || r.Left() != 0 || r.Err() != api.ErrNil || r.End() != api.ErrNil {
				t.Errorf("%v: %v, %v", r, r.Err(), r.End())
			}
		}
	}
}

// P4.3: numbers, texts, yes and no, put in any order, are read.
func TestWhatWasPutIsRead(t *testing.T) {
	r := rand.New(rand.NewSource(4))
	for range 300 {
		b, kinds, seed := []byte(nil), make([]int, r.Intn(12)), r.Int63()
		values := rand.New(rand.NewSource(seed))
		for i := range kinds {
			kinds[i] = r.Intn(3)
			n, s, yes := value(values)
			b = [][]byte{Uint(b, n), Bytes(b, s), Flag(b, yes)}[kinds[i]]
		}
		read := Open(b)
		values = rand.New(rand.NewSource(seed))
		for i, kind := range kinds {
			n, s, yes := value(values)
			same := kind == 0 && read.Uint(n) == n || kind == 1 && bytes.Equal(read.Bytes(len(s)), s) || kind == 2 && read.Flag() == yes
			if !same {
				t.Fatalf("item %d of %v is not what was put: %v", i, b, read.Err())
			}
		}
		if read.End() != api.OK {
			t.Fatalf("%v: %v", b, read.End())
		}
	}
}

// value is a number of any length, a text, a yes or no.
func value(r *rand.Rand) (int, []byte, bool) {
	s := make([]byte, r.Intn(300))
	r.Read(s)
	return r.Intn(1<<62) >> r.Intn(63), s, r.Intn(2) == 1
}

// P4.4: of all short bytes: what is read of them, put again, is those bytes.
func TestWhatIsReadIsPut(t *testing.T) {
	digits := []byte{0, 1, 2, 3, 8, 9, 0x40, 255}
	var some func(b []byte, more int)
	some = func(b []byte, more int) {
		putAgain(t, b)
		for _, d := range digits {
			if more > 0 {
				some(append(bytes.Clone(b), d), more-1)
			}
		}
	}
	some(nil, 5)
	for _, b := range numbers() {
		putAgain(t, b)
	}
}

// putAgain reads b as each of the three, and puts what was read.
func putAgain(t *testing.T, b []byte) {
	t.Helper()
	r := Open(b)
	if n := r.Uint(math.MaxInt); r.Err() == api.OK && !bytes.Equal(Uint(nil, n), b[:len(b)-r.Left()]) {
		t.Errorf("%v is read as %d", b, n)
	}
	r = Open(b)
	if s := r.Bytes(math.MaxInt); r.Err() == api.OK && !bytes.Equal(Bytes(nil, s), b[:len(b)-r.Left()]) {
		t.Errorf("%v is read as %v", b, s)
	}
	r = Open(b)
	if yes := r.Flag(); r.Err() == api.OK && !bytes.Equal(Flag(nil, yes), b[:len(b)-r.Left()]) {
		t.Errorf("%v is read as %v", b, yes)
	}
}

// Memory: nothing is put into the room behind an argument, and no answer shares any.
func TestPutMemory(t *testing.T) {
	whole := []byte{1, 2, 7, 7, 7, 7, 7, 7, 7, 7, 7, 7}
	kept := bytes.Clone(whole)
	text := []byte("text")
	b := whole[:2]
	for _, got := range [][]byte{Uint(b, 0), Uint(b, 1<<62), Bytes(b, nil), Bytes(b, text), Bytes(nil, text), Flag(b, true), Flag(b, false)} {
		scribble(got)
	}
	if !bytes.Equal(whole, kept) || string(text) != "text" {
		t.Errorf("an argument is changed: %v, %s", whole, text)
	}
}

// Memory: a reader keeps none of its bytes, and hands out none of its own.
func TestReadMemory(t *testing.T) {
	b := Bytes(Bytes(nil, []byte("ab")), []byte("cd"))
	kept := bytes.Clone(b)
	r := Open(b)
	first := r.Bytes(2)
	scribble(first)
	if !bytes.Equal(b, kept) {
		t.Errorf("the bytes that are read are changed: %v", b)
	}
	scribble(b)
	second := r.Bytes(2)
	if string(second) != "cd" {
		t.Errorf("the second text is %q", second)
	}
	scribble(second)
	if string(first) != "\xee\xee" {
		t.Errorf("the first text is changed by the second: %q", first)
	}
}

// scribble writes over all of a list, its spare room too.
func scribble(b []byte) {
	b = b[:cap(b)]
	for i := range b {
		b[i] = 0xee
	}
}
