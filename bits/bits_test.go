package bits

import (
	"bytes"
	"math"
	"math/rand"
	"strings"
	"testing"
)

// spelt is a row of bits as a text of 0 and 1, reckoned apart from the program.
func spelt(b []byte) string {
	var s strings.Builder
	for _, x := range b {
		for mask := 128; mask > 0; mask /= 2 {
			if int(x)&mask != 0 {
				s.WriteByte('1')
			} else {
				s.WriteByte('0')
			}
		}
	}
	return s.String()
}

// bytesOf is such a text as bytes, with noughts behind its end.
func bytesOf(s string) []byte {
	out := make([]byte, (len(s)+7)/8)
	for i, c := range s {
		if c == '1' {
			out[i/8] |= byte(128 >> (i % 8))
		}
	}
	return out
}

// rows are rows of bits, many of which begin alike.
func rows() [][]byte {
	r := rand.New(rand.NewSource(3))
	out := [][]byte{nil, {}, {0}, {255}, {1}, {1, 'a'}, {0x80, 0}, {0, 0, 0}, {0xff, 0xff, 0xff}}
	for range 60 {
		b := make([]byte, r.Intn(5))
		for i := range b {
			b[i] = []byte{0, 1, 0x80, 0xf0, 0xf8, 0xff}[r.Intn(6)]
		}
		out = append(out, b)
	}
	return out
}

// counts are numbers of bits: the ordinary ones, and those far beyond them.
func counts() []int {
	out := []int{math.MinInt, math.MinInt + 1, -9, -8, -1, math.MaxInt, math.MaxInt - 7, 1 << 40}
	for n := range 45 {
		out = append(out, n)
	}
	return out
}

// P3.1
func TestKey(t *testing.T) {
	long := bytes.Repeat([]byte{7}, 300)
	cases := []struct{ id, want []byte }{
		{[]byte("a"), []byte{1, 0x61}},
		{nil, []byte{0}},
		{[]byte{}, []byte{0}},
		{[]byte{0, 255}, []byte{2, 0, 255}},
		{long[:254], append([]byte{254}, long[:254]...)},
		{long[:255], append([]byte{255}, long[:255]...)},
		{long[:256], append([]byte{255}, long[:255]...)},
		{long, append([]byte{255}, long[:255]...)},
	}
	for _, c := range cases {
		if got := Key(c.id); !bytes.Equal(got, c.want) {
			t.Errorf("Key(%v): %v, not %v", c.id, got, c.want)
		}
	}
}

// P3.1
func TestBit(t *testing.T) {
	if Bit(Key([]byte("a")), 7) != 1 {
		t.Error("the document's example")
	}
	for _, b := range rows() {
		s := spelt(b)
		for _, i := range counts() {
			want := -1
			if i >= 0 && i < len(s) {
				want = int(s[i] - '0')
			}
			if got := Bit(b, i); got != want {
				t.Errorf("Bit(%v, %d): %d, not %d", b, i, got, want)
			}
		}
	}
}

// P3.2
func TestFirst(t *testing.T) {
	for _, b := range rows() {
		s := spelt(b)
		for _, n := range counts() {
			want := bytesOf(s[:min(max(n, 0), len(s))])
			if got := First(b, n); !bytes.Equal(got, want) {
				t.Errorf("First(%v, %d): %v, not %v", b, n, got, want)
			}
		}
	}
}

// P3.2
func TestCommon(t *testing.T) {
	for _, a := range rows() {
		for _, b := range rows() {
			want, x, y := 0, spelt(a), spelt(b)
			for want < len(x) && want < len(y) && x[want] == y[want] {
				want++
			}
			if got := Common(a, b); got != want {
				t.Errorf("Common(%v, %v): %d, not %d", a, b, got, want)
			}
		}
	}
}

// P3.2
func TestBegins(t *testing.T) {
	for _, a := range rows() {
		for _, b := range rows() {
			x, y := spelt(a), spelt(b)
			for _, n := range counts() {
				want := n < 1 || n <= len(x) && n <= len(y) && x[:n] == y[:n]
				if got := Begins(a, b, n); got != want {
					t.Errorf("Begins(%v, %v, %d): %v", a, b, n, got)
				}
			}
		}
	}
}

// sideByHand goes bit by bit, as the document says it.
func sideByHand(prefix string, n int, b string) int {
	for i := 0; i < n && i < len(prefix) && i < len(b); i++ {
		if prefix[i] != b[i] {
			return int(prefix[i]-'0')*2 - 1
		}
	}
	return 0
}

// P3.3
func TestSide(t *testing.T) {
	for _, a := range rows() {
		for _, b := range rows() {
			for _, n := range counts() {
				want := sideByHand(spelt(a), n, spelt(b))
				if got := Side(a, n, b); got != want {
					t.Errorf("Side(%v, %d, %v): %d, not %d", a, n, b, got, want)
				}
			}
		}
	}
}

// P3.3
func TestOrder(t *testing.T) {
	long := bytes.Repeat([]byte{5}, 256)
	more := append(bytes.Repeat([]byte{5}, 255), 9)
	less := append(bytes.Repeat([]byte{5}, 254), 4)
	cases := []struct {
		a, b []byte
		want int
	}{
		{[]byte("b"), []byte("aa"), -1},
		{[]byte("b"), []byte("a"), 1},
		{[]byte("ab"), []byte("ab"), 0},
		{nil, []byte{}, 0},
		{nil, []byte{0}, -1},
		{[]byte{0}, nil, 1},
		{[]byte{0x7f}, []byte{0x80}, -1},
		{[]byte("a"), []byte("a\x00"), -1},
		{bytes.Repeat([]byte{1}, 128), bytes.Repeat([]byte{2}, 127), 1},
		{long, more, 0},
		{long[:255], more, 0},
		{long, long[:254], 1},
		{less, more, -1},
	}
	for _, c := range cases {
		if got := Order(c.a, c.b); got != c.want {
			t.Errorf("Order(%v, %v): %d, not %d", c.a, c.b, got, c.want)
		}
		if got := Order(c.b, c.a); got != -c.want {
			t.Errorf("Order(%v, %v): %d, not %d", c.b, c.a, got, -c.want)
		}
	}
}

// P3.4: the bits of unlike identities part ahead of where either one ends, and Order is told by the bit there.
func TestUnlikeIdentitiesPart(t *testing.T) {
	ids := append(rows(), bytes.Repeat([]byte{0}, 254), bytes.Repeat([]byte{0}, 255), append(bytes.Repeat([]byte{0}, 254), 1))
	for _, a := range ids {
		for _, b := range ids {
			x, y := Key(a), Key(b)
			at := Common(x, y)
			if bytes.Equal(a, b) {
				if Order(a, b) != 0 || at != 8*len(x) || at != 8*len(y) {
					t.Errorf("%v and %v are the same, and part at %d", a, b, at)
				}
				continue
			}
			if at >= 8*len(x) || at >= 8*len(y) {
				t.Errorf("the bits of %v and %v part nowhere", a, b)
			}
			if Order(a, b) != Bit(x, at)-Bit(y, at) || Order(a, b) != Side(x, 8*len(x), y) {
				t.Errorf("Order(%v, %v): %d", a, b, Order(a, b))
			}
		}
	}
}

// P3.5
func TestFirstIsABeginning(t *testing.T) {
	for _, b := range rows() {
		for _, n := range counts() {
			held := min(max(n, 0), 8*len(b))
			if first := First(b, n); !Begins(b, first, held) || len(first) != (held+7)/8 {
				t.Errorf("First(%v, %d) does not begin it: %v", b, n, first)
			}
			for _, m := range counts() {
				if got, want := First(First(b, n), m), First(b, min(n, m)); !bytes.Equal(got, want) {
					t.Errorf("the first %d of the first %d of %v: %v, not %v", m, n, b, got, want)
				}
			}
		}
	}
}

// Memory: arguments stay as they are, spare room too, and no answer shares any of it.
func TestMemory(t *testing.T) {
	whole := []byte{2, 0x5a, 0xff, 0x77, 0x77}
	kept := bytes.Clone(whole)
	b := whole[:3]
	for _, n := range []int{-1, 0, 3, 8, 11, 24, 25, math.MaxInt} {
		scribble(First(b, n))
	}
	scribble(Key(b))
	Common(b, b)
	Begins(b, b, 11)
	Side(b, 24, b)
	Order(b, b)
	if !bytes.Equal(whole, kept) {
		t.Errorf("an argument is changed: %v", whole)
	}
}

// scribble writes over all of an answer, its spare room too.
func scribble(b []byte) {
	b = b[:cap(b)]
	for i := range b {
		b[i] = 0xee
	}
}
