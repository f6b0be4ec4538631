package wots

import (
	"bytes"
	"crypto/sha256"
	"encoding/binary"
	"math"
	"math/rand"
	"slices"
	"testing"

	"annals/api"
)

// hash is the document's hash of a text, spelled by hand.
func hash(size, tag int, parts ...[]byte) []byte {
	text := []byte{byte(tag)}
	for _, p := range parts {
		text = append(binary.BigEndian.AppendUint16(text, uint16(len(p))), p...)
	}
	sum := sha256.Sum256(text)
	return sum[:size]
}

// number is n in eight bytes.
func number(n int) []byte { return binary.BigEndian.AppendUint64(nil, uint64(n)) }

// chain is x behind the steps that are named, one by one.
func chain(size int, x []byte, index, i int, steps ...int) []byte {
	for _, k := range steps {
		x = hash(size, 7, number(index), number(i), number(k), x)
	}
	return x
}

// secret is a chain's beginning.
func secret(size int, seed []byte, index, i int) []byte {
	return hash(size, 6, seed, number(index), number(i))
}

// key is the key of a number, all of whose chains go all their steps.
func key(size int, seed []byte, index int) []byte {
	var ends []byte
	for i := range 4*size + 5 {
		ends = append(ends, chain(size, secret(size, seed, index, i), index, i, 0, 1, 2)...)
	}
	return hash(size, 8, number(index), ends)
}

// row is n bytes, drawn by r.
func row(r *rand.Rand, n int) []byte {
	b := make([]byte, n)
	r.Read(b)
	return b
}

// sizes are those at the edges, and some between.
var sizes = []int{1, 2, 3, 16, 31, 32}

// P5.1
func TestDigits(t *testing.T) {
	cases := []struct {
		digest []byte
		want   []int
	}{
		{[]byte{0xff}, []int{3, 3, 3, 3, 0, 0, 0, 0, 0}},
		{[]byte{0x00}, []int{0, 0, 0, 0, 0, 0, 0, 3, 0}},
		{[]byte{0x1b}, []int{0, 1, 2, 3, 0, 0, 0, 1, 2}},
		{[]byte{0xe4}, []int{3, 2, 1, 0, 0, 0, 0, 1, 2}},
		{[]byte{0x40}, []int{1, 0, 0, 0, 0, 0, 0, 2, 3}},
		{[]byte{0xff, 0x80}, []int{3, 3, 3, 3, 2, 0, 0, 0, 0, 0, 0, 2, 2}},
		{nil, []int{0, 0, 0, 0, 0}},
		{[]byte{}, []int{0, 0, 0, 0, 0}},
	}
	for _, c := range cases {
		if got := Digits(c.digest); !slices.Equal(got, c.want) {
			t.Errorf("Digits(%x): %v, not %v", c.digest, got, c.want)
		}
	}
}

// P5.1: of noughts the check is the greatest: 384, that is 1, 2, 0, 0, 0 in base 4.
func TestDigitsOfTheGreatestCheck(t *testing.T) {
	want := append(make([]int, 128), 1, 2, 0, 0, 0)
	if got := Digits(make([]byte, 32)); !slices.Equal(got, want) {
		t.Error(got)
	}
}

// P5.1: of each length the digits are the digest's, and their check's; what stands behind 32 bytes does not count.
func TestDigitsOfEachLength(t *testing.T) {
	r := rand.New(rand.NewSource(5))
	for n := range 70 {
		digest := row(r, n)
		got := Digits(digest)
		first := digest[:min(n, 32)]
		if len(got) != 4*len(first)+5 {
			t.Fatalf("%d bytes have %d digits", n, len(got))
		}
		sum := 0
		for i, b := range first {
			d := got[4*i : 4*i+4]
			if d[0]<<6|d[1]<<4|d[2]<<2|d[3] != int(b) || slices.Max(d) > 3 || slices.Min(d) < 0 {
				t.Fatalf("the digits of %x: %v", b, d)
			}
			sum += 12 - d[0] - d[1] - d[2] - d[3]
		}
		d := got[4*len(first):]
		if d[0]<<8|d[1]<<6|d[2]<<4|d[3]<<2|d[4] != sum || slices.Max(d) > 3 || slices.Min(d) < 0 {
			t.Fatalf("the check of %x: %v, not of %d", digest, d, sum)
		}
	}
}

// P5.1
func TestSecret(t *testing.T) {
	for _, size := range sizes {
		for _, seed := range [][]byte{nil, {}, []byte("s"), make([]byte, 64), make([]byte, 65), make([]byte, 65535)} {
			for _, n := range [][2]int{{0, 0}, {5, 12}, {255, 132}, {256, -1}, {math.MinInt, math.MaxInt}} {
				if got := Secret(size, seed, n[0], n[1]); !bytes.Equal(got, secret(size, seed, n[0], n[1])) {
					t.Errorf("Secret(%d, %d bytes, %v): %x", size, len(seed), n, got)
				}
			}
		}
	}
}

// P5.1: a size or a seed of which there is no hash, or one of all 32 bytes.
func TestSecretBeyondTheHash(t *testing.T) {
	for _, size := range []int{math.MinInt, -1, 0} {
		if got := Secret(size, []byte("s"), 0, 0); len(got) != 0 {
			t.Errorf("of %d bytes: %x", size, got)
		}
	}
	for _, size := range []int{33, math.MaxInt} {
		if got := Secret(size, []byte("s"), 1, 2); !bytes.Equal(got, secret(32, []byte("s"), 1, 2)) {
			t.Errorf("of %d bytes: %x", size, got)
		}
	}
	if got := Secret(32, make([]byte, 65536), 0, 0); len(got) != 0 {
		t.Errorf("of a seed that no text takes: %x", got)
	}
}

// P5.1: each from and to, those below 0 and above 3 too.
func TestChain(t *testing.T) {
	steps := func(from, to int) []int {
		var out []int
		for k := range 3 {
			if k >= from && k < to {
				out = append(out, k)
			}
		}
		return out
	}
	ends := []int{math.MinInt, -3, -1, 0, 1, 2, 3, 4, 9, math.MaxInt}
	for _, size := range sizes {
		x := bytes.Repeat([]byte{byte(size)}, size)
		for _, from := range ends {
			for _, to := range ends {
				want := chain(size, x, 5, 7, steps(from, to)...)
				if got := Chain(size, x, 5, 7, from, to); !bytes.Equal(got, want) {
					t.Errorf("Chain(%d, %d, %d): %x, not %x", size, from, to, got, want)
				}
			}
		}
	}
}

// P5.1: whatever x and the numbers are, a step is the hash; without steps even an x that can't be stays.
func TestChainOfAnything(t *testing.T) {
	for _, n := range [][2]int{{-1, -1}, {256, 133}, {math.MinInt, math.MaxInt}} {
		for _, x := range [][]byte{nil, []byte("abc"), make([]byte, 65535)} {
			if got := Chain(4, x, n[0], n[1], 1, 3); !bytes.Equal(got, chain(4, x, n[0], n[1], 1, 2)) {
				t.Errorf("from %d bytes by %v: %x", len(x), n, got)
			}
		}
	}
	long := make([]byte, 65536)
	if got := Chain(4, long, 0, 0, 2, 2); !bytes.Equal(got, long) {
		t.Error("without steps a long x is changed")
	}
	if got := Chain(4, long, 0, 0, 2, 3); len(got) != 0 {
		t.Errorf("of an x that no text takes: %x", got)
	}
	if got := Chain(0, []byte("abc"), 0, 0, 0, 3); len(got) != 0 {
		t.Errorf("of size 0: %x", got)
	}
	if got := Chain(math.MaxInt, []byte("abc"), 0, 0, 0, 3); !bytes.Equal(got, chain(32, []byte("abc"), 0, 0, 0, 1, 2)) {
		t.Errorf("of the greatest size: %x", got)
	}
}

// P5.2
func TestKey(t *testing.T) {
	r := rand.New(rand.NewSource(52))
	for _, size := range sizes {
		for _, index := range []int{0, 1, 5, 254, 255} {
			for _, n := range []int{0, 1, 63, 64} {
				seed := row(r, n)
				if got, errno := Key(size, seed, index); errno != api.OK || !bytes.Equal(got, key(size, seed, index)) {
					t.Errorf("Key(%d, %x, %d): %x, %v", size, seed, index, got, errno)
				}
			}
		}
	}
}

// P5.2: of each digit d the chain from its secret behind d steps.
func TestSign(t *testing.T) {
	r := rand.New(rand.NewSource(53))
	for _, size := range sizes {
		for _, index := range []int{0, 6, 255} {
			seed, digest := row(r, 64), row(r, size)
			got, errno := Sign(size, seed, index, digest)
			if errno != api.OK || len(got) != 4*size+5 {
				t.Fatalf("size %d: %d chains, %v", size, len(got), errno)
			}
			for i, d := range Digits(digest) {
				want := chain(size, secret(size, seed, index, i), index, i, []int{0, 1, 2}[:d]...)
				if !bytes.Equal(got[i], want) {
					t.Errorf("size %d, chain %d behind %d steps: %x, not %x", size, i, d, got[i], want)
				}
			}
		}
	}
}

// P5.2: whatever the chains are, the key is the hash of all of them behind their other steps.
func TestRecover(t *testing.T) {
	r := rand.New(rand.NewSource(54))
	for _, size := range sizes {
		for _, index := range []int{0, 9, 255} {
			digest, chains, ends := row(r, size), make([][]byte, 4*size+5), []byte(nil)
			for i, d := range Digits(digest) {
				chains[i] = row(r, size)
				ends = append(ends, chain(size, chains[i], index, i, []int{0, 1, 2}[d:]...)...)
			}
			got, errno := Recover(size, chains, index, digest)
			if errno != api.OK || !bytes.Equal(got, hash(size, 8, number(index), ends)) {
				t.Errorf("size %d: %x, %v", size, got, errno)
			}
		}
	}
}

// blank is as many chains as size asks for, of noughts; few, where no size can be so great.
func blank(size int) [][]byte {
	size = max(min(size, 99), 0)
	chains := make([][]byte, 4*size+5)
	for i := range chains {
		chains[i] = make([]byte, size)
	}
	return chains
}

// P5.2: a size, a number, a seed or a digest that can't be; Key has no digest, Recover no seed.
func TestErrors(t *testing.T) {
	const ok, no = api.OK, api.ErrArg
	cases := []struct {
		size, seed, index, digest int
		key, sign, back           api.Errno
	}{
		{1, 64, 255, 1, ok, ok, ok},
		{32, 0, 0, 32, ok, ok, ok},
		{0, 0, 0, 0, no, no, no},
		{-1, 0, 0, 0, no, no, no},
		{33, 0, 0, 33, no, no, no},
		{33, 0, 0, 32, no, no, no},
		{math.MaxInt, 0, 0, 1, no, no, no},
		{math.MinInt, 0, 0, 1, no, no, no},
		{2, 0, -1, 2, no, no, no},
		{2, 0, 256, 2, no, no, no},
		{2, 0, math.MaxInt, 2, no, no, no},
		{2, 0, math.MinInt, 2, no, no, no},
		{2, 65, 0, 2, no, no, ok},
		{2, 70000, 0, 2, no, no, ok},
		{2, 0, 0, 0, ok, no, no},
		{2, 0, 0, 1, ok, no, no},
		{2, 0, 0, 3, ok, no, no},
		{32, 0, 0, 33, ok, no, no},
	}
	for _, c := range cases {
		seed, digest := make([]byte, c.seed), make([]byte, c.digest)
		if got, errno := Key(c.size, seed, c.index); errno != c.key || errno != ok && len(got) != 0 {
			t.Errorf("Key at %v: %x, %v", c, got, errno)
		}
		if got, errno := Sign(c.size, seed, c.index, digest); errno != c.sign || errno != ok && len(got) != 0 {
			t.Errorf("Sign at %v: %d chains, %v", c, len(got), errno)
		}
		if got, errno := Recover(c.size, blank(c.size), c.index, digest); errno != c.back || errno != ok && len(got) != 0 {
			t.Errorf("Recover at %v: %x, %v", c, got, errno)
		}
	}
}

// P5.2: too few chains, too many, and each one of another length.
func TestRecoverOfChainsThatCantBe(t *testing.T) {
	digest := []byte{7, 8}
	good, _ := Sign(2, []byte("s"), 5, digest)
	bad := [][][]byte{nil, {}, good[:12], good[1:], append(slices.Clone(good), good[0])}
	for i := range good {
		for _, x := range [][]byte{nil, {1}, {1, 2, 3}, make([]byte, 70000)} {
			other := slices.Clone(good)
			other[i] = x
			bad = append(bad, other)
		}
	}
	for i, chains := range bad {
		if got, errno := Recover(2, chains, 5, digest); errno != api.ErrArg || len(got) != 0 {
			t.Errorf("case %d: %x, %v", i, got, errno)
		}
	}
}

// P5.3
func TestRecoverOfSignIsTheKey(t *testing.T) {
	r := rand.New(rand.NewSource(55))
	for size := 1; size <= 32; size++ {
		for _, digest := range [][]byte{row(r, size), make([]byte, size), bytes.Repeat([]byte{0xff}, size)} {
			seed, index := row(r, r.Intn(65)), r.Intn(256)
			chains, errno := Sign(size, seed, index, digest)
			if errno != api.OK {
				t.Fatal(errno)
			}
			want, _ := Key(size, seed, index)
			if got, errno := Recover(size, chains, index, digest); errno != api.OK || !bytes.Equal(got, want) {
				t.Errorf("size %d, number %d: %x, %v, not %x", size, index, got, errno, want)
			}
		}
	}
}

// P5.3, the other way: another digest, number or chain comes to another key.
func TestRecoverOfAnotherIsNotTheKey(t *testing.T) {
	seed, digest := []byte("seed"), bytes.Repeat([]byte{0x2d}, 16)
	chains, _ := Sign(16, seed, 3, digest)
	want, _ := Key(16, seed, 3)
	other := bytes.Clone(digest)
	other[9] ^= 1
	if got, _ := Recover(16, chains, 3, other); bytes.Equal(got, want) {
		t.Error("another digest")
	}
	if got, _ := Recover(16, chains, 4, digest); bytes.Equal(got, want) {
		t.Error("another number")
	}
	for i := range chains {
		chains[i][15] ^= 1
		if got, _ := Recover(16, chains, 3, digest); bytes.Equal(got, want) {
			t.Error("another chain", i)
		}
		chains[i][15] ^= 1
	}
}

// less tells whether some digit of a is less than b's.
func less(a, b []int) bool {
	for i := range a {
		if a[i] < b[i] {
			return true
		}
	}
	return false
}

// P5.4: all pairs of one byte, and pairs that part in few bits of many bytes.
func TestUnlikeDigestsHaveLessDigits(t *testing.T) {
	for a := range 256 {
		for b := range 256 {
			x, y := Digits([]byte{byte(a)}), Digits([]byte{byte(b)})
			if a != b && !(less(x, y) && less(y, x)) {
				t.Fatalf("%02x and %02x: %v, %v", a, b, x, y)
			}
		}
	}
	r := rand.New(rand.NewSource(56))
	for range 5000 {
		a := row(r, 1+r.Intn(32))
		b := bytes.Clone(a)
		for range 1 + r.Intn(3) {
			b[r.Intn(len(b))] ^= 1 << r.Intn(8)
		}
		x, y := Digits(a), Digits(b)
		if !bytes.Equal(a, b) && !(less(x, y) && less(y, x)) {
			t.Fatalf("%x and %x: %v, %v", a, b, x, y)
		}
	}
	zeros, ones := Digits(make([]byte, 32)), Digits(bytes.Repeat([]byte{0xff}, 32))
	if !less(zeros, ones) || !less(ones, zeros) {
		t.Error("all bits unlike")
	}
}

// scribble writes over all of a list, its spare room too.
func scribble(b []byte) {
	b = b[:cap(b)]
	for i := range b {
		b[i] = 0xee
	}
}

// roomy is a copy of b, with room behind it that is none of the call's.
func roomy(b []byte) []byte {
	return append(append(make([]byte, 0, len(b)+40), b...), make([]byte, 40)...)[:len(b)]
}

// Rule 'Memory': what is handed in stays, the room behind it too, and no two lists share any.
func TestMemory(t *testing.T) {
	seed, digest := roomy([]byte("seed")), roomy([]byte{0xff, 0x1b})
	chains, _ := Sign(2, seed, 1, digest)
	kept := slices.Clone(chains)
	for i := range chains {
		kept[i] = bytes.Clone(chains[i])
	}
	given := slices.Clone(kept)
	for i := range given {
		given[i] = roomy(kept[i])
	}
	x := roomy([]byte{1, 2})
	for _, b := range [][]byte{Secret(2, seed, 1, 0), Chain(2, x, 1, 0, 2, 2), Chain(2, x, 1, 0, 0, 3)} {
		scribble(b)
	}
	public, _ := Key(2, seed, 1)
	again, _ := Recover(2, given, 1, digest)
	if !bytes.Equal(public, again) {
		t.Error("the key")
	}
	scribble(public)
	scribble(again)
	for i := range given {
		if !bytes.Equal(given[i][:42], append(bytes.Clone(kept[i]), make([]byte, 40)...)) {
			t.Errorf("chain %d that was handed in is %x", i, given[i][:42])
		}
	}
	for i := range chains {
		if !bytes.Equal(chains[i], kept[i]) {
			t.Errorf("chain %d shares memory", i)
		}
		scribble(chains[i])
	}
	whole := append([]byte("seed"), make([]byte, 40)...)
	if !bytes.Equal(seed[:44], whole) || !bytes.Equal(digest[:42], append([]byte{0xff, 0x1b}, make([]byte, 40)...)) || !bytes.Equal(x[:42], append([]byte{1, 2}, make([]byte, 40)...)) {
		t.Error("an argument is changed")
	}
}
