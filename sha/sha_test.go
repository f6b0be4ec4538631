package sha

import (
	"bytes"
	"crypto/sha256"
	"encoding/hex"
	"math"
	"testing"
)

// row is n bytes, no two neighbours alike.
func row(n int) []byte {
	b := make([]byte, n)
	for i := range b {
		b[i] = byte(i*7 + i>>8)
	}
	return b
}

// P1.1: the examples of the standard, and the document's.
func TestSumOfTheStandardsExamples(t *testing.T) {
	cases := []struct{ text, want string }{
		{"", "e3b0c44298fc1c149afbf4c8996fb92427ae41e4649b934ca495991b7852b855"},
		{"abc", "ba7816bf8f01cfea414140de5dae2223b00361a396177a9cb410ff61f20015ad"},
		{"abcdbcdecdefdefgefghfghighijhijkijkljklmklmnlmnomnopnopq", "248d6a61d20638b8e5c026930c3e6039a33ce45964ff2167f6ecedd419db06c1"},
		{"abcdefghbcdefghicdefghijdefghijkefghijklfghijklmghijklmnhijklmnoijklmnopjklmnopqklmnopqrlmnopqrsmnopqrstnopqrstu", "cf5b16a778af8380036ce59e7b0492370b249b11e8f07a51afac45037afee9d1"},
		{string(bytes.Repeat([]byte("a"), 1000000)), "cdc76e5c9914fb9281a1c7e284d73e67f1809a48a497200e046d39ccc7112cd0"},
	}
	for _, c := range cases {
		if got := hex.EncodeToString(Sum([]byte(c.text))); got != c.want {
			t.Errorf("Sum of %d bytes: %s, not %s", len(c.text), got, c.want)
		}
	}
}

// P1.1: each length around the ends of blocks and of their padding.
func TestSumAtEachLength(t *testing.T) {
	for n := range 4*blockSize + 10 {
		want := sha256.Sum256(row(n))
		if got := Sum(row(n)); !bytes.Equal(got, want[:]) {
			t.Fatalf("Sum of %d bytes: %x, not %x", n, got, want)
		}
	}
}

// P1.1: bits that are all set, none set, or set one at a time.
func TestSumOfBitRows(t *testing.T) {
	for i := range 8 * blockSize {
		b := make([]byte, blockSize)
		b[i/8] = 1 << (i % 8)
		for _, x := range [][]byte{b, bytes.Repeat([]byte{0xff}, i), make([]byte, i)} {
			if want := sha256.Sum256(x); !bytes.Equal(Sum(x), want[:]) {
				t.Fatalf("Sum of %x", x)
			}
		}
	}
}

// P1.1: none below 1, all above 32, and each size between.
func TestCut(t *testing.T) {
	for _, text := range [][]byte{nil, {}, []byte("abc"), row(200)} {
		whole := Sum(text)
		for _, size := range []int{math.MinInt, -1, 0} {
			if got := Cut(size, text); len(got) != 0 {
				t.Errorf("Cut(%d): %x, not none", size, got)
			}
		}
		for size := 1; size <= 32; size++ {
			if got := Cut(size, text); !bytes.Equal(got, whole[:size]) {
				t.Errorf("Cut(%d): %x", size, got)
			}
		}
		for _, size := range []int{33, 64, math.MaxInt} {
			if got := Cut(size, text); !bytes.Equal(got, whole) {
				t.Errorf("Cut(%d): %x, not all", size, got)
			}
		}
	}
}

// P1.2
func TestBlocks(t *testing.T) {
	for n := range 1000 {
		want := 1
		for want*blockSize < n+9 {
			want++
		}
		if got := Blocks(n); got != want {
			t.Errorf("Blocks(%d): %d, not %d", n, got, want)
		}
	}
	for _, n := range []int{math.MinInt, -64, -1} {
		if got := Blocks(n); got != 1 {
			t.Errorf("Blocks(%d): %d, not 1", n, got)
		}
	}
	if got := Blocks(math.MaxInt); got != math.MaxInt/blockSize+2 {
		t.Errorf("Blocks(MaxInt): %d", got)
	}
	if Blocks(55) != 1 || Blocks(56) != 2 {
		t.Error("the document's example")
	}
}

// P1.3
func TestShorterCutBeginsLongerOne(t *testing.T) {
	for n := range 130 {
		text := row(n)
		for long := -1; long <= 34; long++ {
			for short := -1; short <= long; short++ {
				if !bytes.HasPrefix(Cut(long, text), Cut(short, text)) {
					t.Fatalf("%d bytes: the cut to %d does not begin the one to %d", n, short, long)
				}
			}
		}
	}
}

// Rule 'Memory': what is handed in stays, the room behind its end too.
func TestArgumentsStay(t *testing.T) {
	for n := range 140 {
		room := row(300)
		Sum(room[:n])
		Cut(7, room[:n])
		if !bytes.Equal(room, row(300)) {
			t.Fatalf("%d bytes: the argument or its room has changed", n)
		}
	}
}

// Rule 'Memory': answers are new, and a cut has no room that shows more of the sum.
func TestAnswersAreNewMemory(t *testing.T) {
	text := row(70)
	sum, cut := Sum(text), Cut(9, text)
	want := bytes.Clone(sum)
	clear(sum[:cap(sum)])
	clear(cut[:cap(cut)])
	if !bytes.Equal(Sum(text), want) || !bytes.Equal(Cut(9, text), want[:9]) {
		t.Error("an answer shares memory with another one")
	}
	for size := 1; size <= 32; size++ {
		if got := cap(Cut(size, text)); got != size {
			t.Errorf("Cut(%d) has room for %d", size, got)
		}
	}
}
