package mts

import (
	"bytes"
	"crypto/sha256"
	"encoding/binary"
	"math"
	"math/rand"
	"reflect"
	"slices"
	"sync"
	"testing"

	"annals/api"
	"annals/codec"
	"annals/wots"
)

// number is n in eight bytes.
func number(n int) []byte { return binary.BigEndian.AppendUint64(nil, uint64(n)) }

// node is the hash of the tree of a seed at a level and a place, spelled by hand, from above.
func node(size int, seed []byte, level, place int) []byte {
	if level == 0 {
		key, _ := wots.Key(size, seed, place)
		return key
	}
	text := []byte{9}
	for _, part := range [][]byte{number(level), number(place), node(size, seed, level-1, 2*place), node(size, seed, level-1, 2*place+1)} {
		text = append(binary.BigEndian.AppendUint16(text, uint16(len(part))), part...)
	}
	sum := sha256.Sum256(text)
	return sum[:size]
}

// made is keys that New takes.
func made(t *testing.T, size int, seed []byte, height int) *Keys {
	t.Helper()
	k, errno := New(size, seed, height)
	if errno != api.OK || k == nil {
		t.Fatalf("New(%d, %d bytes, %d): %v", size, len(seed), height, errno)
	}
	return k
}

// signed is a signature that Sign gives.
func signed(t *testing.T, k *Keys, index int, digest []byte) api.Signature {
	t.Helper()
	s, errno := k.Sign(index, digest)
	if errno != api.OK {
		t.Fatalf("Sign(%d, %x): %v", index, digest, errno)
	}
	return s
}

// digestOf is a digest of size bytes.
func digestOf(size, n int) []byte {
	b := make([]byte, size)
	rand.New(rand.NewSource(int64(n))).Read(b)
	return b
}

// P6.1
func TestPublic(t *testing.T) {
	cases := []struct{ size, seed, height int }{{1, 0, 0}, {32, 64, 0}, {2, 1, 1}, {16, 4, 2}, {3, 64, 3}, {1, 7, 8}}
	for _, c := range cases {
		seed := digestOf(c.seed, 1)
		k := made(t, c.size, seed, c.height)
		for range 2 {
			if got := k.Public(); !bytes.Equal(got, node(c.size, seed, c.height, 0)) {
				t.Errorf("%v: %x", c, got)
			}
		}
	}
}

// P6.1: the document's example.
func TestPublicOfHeight0(t *testing.T) {
	want, _ := wots.Key(20, []byte("seed"), 0)
	if got := made(t, 20, []byte("seed"), 0).Public(); !bytes.Equal(got, want) {
		t.Errorf("%x, not %x", got, want)
	}
}

// P6.1
func TestNewErrors(t *testing.T) {
	cases := []struct{ size, seed, height int }{
		{0, 0, 0}, {-1, 0, 0}, {33, 0, 0}, {math.MaxInt, 0, 0}, {math.MinInt, 0, 0},
		{2, 65, 0}, {2, 70000, 0}, {2, 0, -1}, {2, 0, 9}, {2, 0, 63}, {2, 0, 64}, {2, 0, math.MaxInt}, {2, 0, math.MinInt},
	}
	for _, c := range cases {
		if k, errno := New(c.size, make([]byte, c.seed), c.height); errno != api.ErrArg || k != nil {
			t.Errorf("New at %v: %v, %v", c, k, errno)
		}
	}
}

// P6.1: the number, wots' chains, and beside each step up the tree's hash.
func TestSign(t *testing.T) {
	for _, c := range [][2]int{{1, 0}, {2, 1}, {3, 2}, {32, 3}} {
		size, height, seed := c[0], c[1], []byte("seed")
		k := made(t, size, seed, height)
		for index := range 1 << height {
			digest := digestOf(size, index)
			s := signed(t, k, index, digest)
			chains, _ := wots.Sign(size, seed, index, digest)
			path := make([][]byte, height)
			for l := range path {
				path[l] = node(size, seed, l, index>>l^1)
			}
			if want := (api.Signature{Index: index, Chains: chains, Path: path}); !reflect.DeepEqual(s, want) {
				t.Errorf("size %d, height %d, number %d: %v, not %v", size, height, index, s, want)
			}
		}
	}
}

// P6.1: a number or a digest that can't be; what was told stays.
func TestSignErrors(t *testing.T) {
	for _, height := range []int{0, 2, 8} {
		k := made(t, 2, []byte("s"), height)
		cases := []struct{ index, digest int }{
			{-1, 2}, {1 << height, 2}, {256, 2}, {math.MaxInt, 2}, {math.MinInt, 2},
			{0, 0}, {0, 1}, {0, 3}, {0, 32}, {-1, 0},
		}
		for _, c := range cases {
			if s, errno := k.Sign(c.index, make([]byte, c.digest)); errno != api.ErrArg || !reflect.DeepEqual(s, api.Signature{}) {
				t.Errorf("height %d, Sign at %v: %v, %v", height, c, s, errno)
			}
		}
		if !Verify(2, k.Public(), height, []byte{1, 2}, signed(t, k, 1<<height-1, []byte{1, 2})) {
			t.Errorf("height %d: behind errors no signature is taken", height)
		}
	}
}

// P6.1: keys that no call made: none, and ErrNil ahead of all else.
func TestNoKeys(t *testing.T) {
	for _, k := range []*Keys{nil, {}, new(Keys)} {
		for range 2 {
			if got := k.Public(); len(got) != 0 {
				t.Errorf("a public key: %x", got)
			}
			for _, index := range []int{0, -1, math.MaxInt} {
				for _, digest := range [][]byte{nil, {}, {1}, make([]byte, 32)} {
					if s, errno := k.Sign(index, digest); errno != api.ErrNil || !reflect.DeepEqual(s, api.Signature{}) {
						t.Errorf("Sign(%d, %x): %v, %v", index, digest, s, errno)
					}
				}
			}
		}
	}
}

// The tree's hashes are reckoned when they are first needed, and once.
func TestTreeIsReckonedOnce(t *testing.T) {
	k := made(t, 2, nil, 3)
	if k.levels != nil {
		t.Error("New reckons the tree")
	}
	k.Public()
	first := &k.levels[0][0]
	k.Public()
	signed(t, k, 5, []byte{1, 2})
	if &k.levels[0][0] != first {
		t.Error("the tree is reckoned again")
	}
}

// The first need may be many calls' at a time.
func TestKeysAskedAtOnce(t *testing.T) {
	k := made(t, 4, []byte("s"), 3)
	var wait sync.WaitGroup
	got := make([][]byte, 8)
	for i := range got {
		wait.Go(func() { got[i] = k.Public() })
	}
	wait.Wait()
	for _, b := range got {
		if !bytes.Equal(b, node(4, []byte("s"), 3, 0)) {
			t.Errorf("%x", b)
		}
	}
}

// P6.2, P6.4: each number of each height, at small and great sizes.
func TestWhatWasSignedIsVerified(t *testing.T) {
	for height := range 9 {
		for _, size := range []int{1, 5, 32} {
			if size > 1 && height > 4 {
				continue
			}
			k := made(t, size, []byte("seed"), height)
			public := k.Public()
			for index := range 1 << height {
				digest := digestOf(size, index)
				if !Verify(size, public, height, digest, signed(t, k, index, digest)) {
					t.Fatalf("size %d, height %d, number %d is not taken", size, height, index)
				}
			}
		}
	}
}

// example is a signature that is taken, of size 16 and height 3, by number 5.
func example(t *testing.T) (public, digest []byte, s api.Signature) {
	k := made(t, 16, []byte("seed"), 3)
	digest = digestOf(16, 1)
	return k.Public(), digest, signed(t, k, 5, digest)
}

// cloned is a signature in memory of its own.
func cloned(s api.Signature) api.Signature {
	for _, list := range []*[][]byte{&s.Chains, &s.Path} {
		*list = slices.Clone(*list)
		for i, hash := range *list {
			(*list)[i] = bytes.Clone(hash)
		}
	}
	return s
}

// P6.2: whatever is changed, the signature is not taken any more.
func TestVerifyOfAnother(t *testing.T) {
	public, digest, s := example(t)
	if !Verify(16, public, 3, digest, s) {
		t.Fatal("the example is not taken")
	}
	for i := range 8 * 16 {
		other := bytes.Clone(digest)
		other[i/8] ^= 1 << (i % 8)
		if Verify(16, public, 3, other, s) {
			t.Errorf("a digest with bit %d changed", i)
		}
		other = bytes.Clone(public)
		other[i/8] ^= 1 << (i % 8)
		if Verify(16, other, 3, digest, s) {
			t.Errorf("a public key with bit %d changed", i)
		}
	}
	for _, index := range []int{0, 1, 2, 3, 4, 6, 7, 8, 13, 255, 256, 5 + 1<<32, -1, -3, 5 - 8, math.MaxInt, math.MinInt} {
		other := s
		other.Index = index
		if Verify(16, public, 3, digest, other) {
			t.Errorf("the number %d", index)
		}
	}
	for i := range s.Chains {
		other := cloned(s)
		other.Chains[i][i%16] ^= 4
		if Verify(16, public, 3, digest, other) {
			t.Errorf("chain %d changed", i)
		}
	}
	for i := range s.Path {
		other := cloned(s)
		other.Path[i][i] ^= 4
		if Verify(16, public, 3, digest, other) {
			t.Errorf("hash %d beside the way changed", i)
		}
	}
	other := cloned(s)
	other.Path[0], other.Path[1] = other.Path[1], other.Path[0]
	if Verify(16, public, 3, digest, other) {
		t.Error("the path in another order")
	}
}

// P6.2: lists that are too short or too long, and hashes of other lengths, in each place.
func TestVerifyOfAnotherShape(t *testing.T) {
	public, digest, s := example(t)
	for _, which := range []string{"chains", "path"} {
		pick := func(s *api.Signature) *[][]byte {
			if which == "chains" {
				return &s.Chains
			}
			return &s.Path
		}
		lists := map[string]func(l [][]byte) [][]byte{
			"none":           func(l [][]byte) [][]byte { return nil },
			"without last":   func(l [][]byte) [][]byte { return l[:len(l)-1] },
			"without first":  func(l [][]byte) [][]byte { return l[1:] },
			"one more":       func(l [][]byte) [][]byte { return append(l, make([]byte, 16)) },
			"one more, none": func(l [][]byte) [][]byte { return append(l, nil) },
		}
		for name, change := range lists {
			other := cloned(s)
			*pick(&other) = change(*pick(&other))
			if Verify(16, public, 3, digest, other) {
				t.Errorf("%s: %s", which, name)
			}
		}
		for i := range *pick(&s) {
			for _, n := range []int{0, 15, 17, 32, 70000} {
				other := cloned(s)
				list := *pick(&other)
				list[i] = append(list[i], make([]byte, n)...)[:n]
				if Verify(16, public, 3, digest, other) {
					t.Errorf("%s: hash %d of %d bytes", which, i, n)
				}
			}
		}
	}
	if Verify(16, public, 3, digest, api.Signature{}) {
		t.Error("no signature")
	}
}

// led is a signature of size 2 with that number and path, and the public key that it leads to, whether or not the tree can be.
func led(index int, path ...[]byte) (public, digest []byte, s api.Signature) {
	digest = []byte{7, 8}
	chains, _ := wots.Sign(2, nil, index, digest)
	public, _ = wots.Key(2, nil, index)
	for l, beside := range path {
		kids := [2][]byte{public, beside}
		if index>>l%2 == 1 {
			kids = [2][]byte{beside, public}
		}
		public = join(2, l+1, index>>(l+1), kids)
	}
	return public, digest, api.Signature{Index: index, Chains: chains, Path: path}
}

// P6.2: what leads to the public key is not taken, if its number, its path or the height can't be.
func TestVerifyOfWhatLeadsThere(t *testing.T) {
	hash := []byte{1, 2}
	deep := make([][]byte, 9)
	for i := range deep {
		deep[i] = hash
	}
	cases := []struct {
		height, index int
		path          [][]byte
		want          bool
	}{
		{0, 0, nil, true}, {1, 1, deep[:1], true}, {2, 3, deep[:2], true}, {8, 255, deep[:8], true},
		{0, 1, nil, false}, {1, 2, deep[:1], false}, {2, 4, deep[:2], false}, {7, 255, deep[:7], false},
		{0, 0, deep[:1], false}, {1, 0, deep[:2], false}, {1, 0, nil, false}, {8, 255, deep[:7], false}, {8, 0, deep, false},
		{9, 0, deep, false}, {-1, 0, nil, false},
		{1, 0, [][]byte{nil}, false}, {1, 0, [][]byte{{1}}, false}, {1, 0, [][]byte{{1, 2, 3}}, false},
		{2, 1, [][]byte{hash, {1}}, false}, {2, 1, [][]byte{{1, 2, 3}, hash}, false},
	}
	for _, c := range cases {
		public, digest, s := led(c.index, c.path...)
		if Verify(2, public, c.height, digest, s) != c.want {
			t.Errorf("height %d, number %d, path %v: not %v", c.height, c.index, c.path, c.want)
		}
	}
}

// P6.2: a size, a height, a digest or a public key that can't be.
func TestVerifyOfWrongArguments(t *testing.T) {
	public, digest, s := example(t)
	for _, size := range []int{math.MinInt, -1, 0, 1, 15, 17, 32, 33, math.MaxInt} {
		if Verify(size, public, 3, digest, s) || Verify(size, nil, 3, nil, api.Signature{}) {
			t.Errorf("size %d", size)
		}
	}
	for _, height := range []int{math.MinInt, -1, 0, 2, 4, 8, 9, 63, 64, math.MaxInt} {
		if Verify(16, public, height, digest, s) {
			t.Errorf("height %d", height)
		}
	}
	for _, other := range [][]byte{nil, {}, digest[:15], append(bytes.Clone(digest), 0), make([]byte, 70000)} {
		if Verify(16, public, 3, other, s) {
			t.Errorf("a digest of %d bytes", len(other))
		}
	}
	for _, other := range [][]byte{nil, {}, public[:15], append(bytes.Clone(public), 0)} {
		if Verify(16, other, 3, digest, s) {
			t.Errorf("a public key of %d bytes", len(other))
		}
	}
}

// P6.3
func TestWrite(t *testing.T) {
	s := api.Signature{Index: 258, Chains: [][]byte{{1}, {}, {2, 3}}, Path: [][]byte{{4, 5}, nil, {6}}}
	cases := []struct {
		b    []byte
		s    api.Signature
		want []byte
	}{
		{nil, api.Signature{}, []byte{0}},
		{[]byte{9}, api.Signature{Index: -5}, []byte{9, 0}},
		{[]byte{}, api.Signature{Index: 7, Path: [][]byte{{8}}}, []byte{1, 7, 8}},
		{[]byte{9, 9}, s, []byte{9, 9, 2, 1, 2, 1, 2, 3, 4, 5, 6}},
		{nil, api.Signature{Index: math.MaxInt}, []byte{8, 0x40, 0, 0, 0, 0, 0, 0, 0}},
	}
	for _, c := range cases {
		if got := Write(c.b, c.s); !bytes.Equal(got, c.want) {
			t.Errorf("Write(%v, %v): %v", c.b, c.s, got)
		}
	}
}

// P6.3: a signature as it stands in bytes, a hash at a time.
func TestRead(t *testing.T) {
	b := []byte{1, 3}
	for i := range 9 + 2 {
		b = append(b, byte(100+i))
	}
	s, rest, errno := Read(1, 2, append(b, 7, 7))
	if errno != api.OK || s.Index != 3 || len(s.Chains) != 9 || len(s.Path) != 2 || !bytes.Equal(rest, []byte{7, 7}) {
		t.Fatal(s, rest, errno)
	}
	for i, hash := range append(slices.Clone(s.Chains), s.Path...) {
		if !bytes.Equal(hash, []byte{byte(100 + i)}) {
			t.Errorf("hash %d: %v", i, hash)
		}
	}
	if _, rest, errno := Read(1, 2, b); errno != api.OK || len(rest) != 0 {
		t.Error("nothing is left", rest, errno)
	}
}

// P6.3: each error, and the first one where several apply.
func TestReadErrors(t *testing.T) {
	full := make([]byte, 64)
	cases := []struct {
		size, height int
		b            []byte
		want         api.Errno
	}{
		{0, 2, nil, api.ErrArg}, {-1, 2, full, api.ErrArg}, {33, 2, full, api.ErrArg}, {math.MaxInt, 2, full, api.ErrArg}, {math.MinInt, 2, full, api.ErrArg},
		{1, -1, full, api.ErrArg}, {1, 9, full, api.ErrArg}, {1, 64, full, api.ErrArg}, {1, math.MaxInt, full, api.ErrArg}, {1, math.MinInt, full, api.ErrArg},
		{1, 9, []byte{9}, api.ErrArg},
		{1, 2, nil, api.ErrShort}, {1, 2, []byte{}, api.ErrShort}, {1, 2, []byte{1}, api.ErrShort}, {1, 2, []byte{2, 1}, api.ErrShort},
		{1, 2, []byte{9}, api.ErrForm}, {1, 2, append([]byte{1, 0}, full...), api.ErrForm}, {1, 2, []byte{1, 0}, api.ErrForm},
		{1, 2, append([]byte{1, 4}, full...), api.ErrFull}, {1, 2, []byte{1, 4}, api.ErrFull}, {1, 0, append([]byte{1, 1}, full...), api.ErrFull},
		{1, 8, append([]byte{2, 1, 0}, full...), api.ErrFull}, {1, 8, append([]byte{8, 0x40, 0, 0, 0, 0, 0, 0, 0}, full...), api.ErrFull},
		{1, 2, full[:11], api.ErrShort}, {1, 0, full[:9], api.ErrShort}, {2, 1, full[:28], api.ErrShort}, {32, 8, full, api.ErrShort},
		{1, 2, full[:12], api.OK}, {1, 0, full[:10], api.OK}, {2, 1, full[:29], api.OK},
		{1, 2, append([]byte{1, 3}, full...), api.OK}, {1, 8, append([]byte{1, 255}, full...), api.OK},
	}
	for _, c := range cases {
		s, rest, errno := Read(c.size, c.height, c.b)
		if errno != c.want {
			t.Errorf("Read(%d, %d, %v): %v, not %v", c.size, c.height, c.b, errno, c.want)
		}
		if errno != api.OK && (!reflect.DeepEqual(s, api.Signature{}) || len(rest) != 0) {
			t.Errorf("beside %v: %v, %v", errno, s, rest)
		}
	}
}

// P6.3: each beginning of a signature's bytes is short.
func TestReadOfEachBeginning(t *testing.T) {
	_, _, s := example(t)
	b := Write(nil, s)
	for n := range b {
		if _, _, errno := Read(16, 3, b[:n]); errno != api.ErrShort {
			t.Errorf("the first %d bytes: %v", n, errno)
		}
	}
}

// P6.4
func TestReadOfWriteIsTheSignature(t *testing.T) {
	for _, c := range [][2]int{{1, 0}, {2, 1}, {5, 4}, {32, 2}, {1, 8}} {
		k := made(t, c[0], []byte("seed"), c[1])
		for index := range 1 << c[1] {
			s := signed(t, k, index, digestOf(c[0], index))
			b := Write([]byte("ahead"), s)
			if !bytes.HasPrefix(b, codec.Uint([]byte("ahead"), index)) {
				t.Fatalf("the bytes begin with %v", b[:7])
			}
			got, rest, errno := Read(c[0], c[1], append(b[5:], "behind"...))
			if errno != api.OK || !reflect.DeepEqual(got, s) || string(rest) != "behind" {
				t.Fatalf("size %d, height %d, number %d: %v, %q", c[0], c[1], index, errno, rest)
			}
		}
	}
}

// scribble writes over all of a list, its spare room too.
func scribble(b []byte) {
	b = b[:cap(b)]
	for i := range b {
		b[i] = 0xee
	}
}

// scribbleAll does so with each hash of a signature, and sees that no other one changes with it.
func scribbleAll(t *testing.T, s api.Signature) {
	t.Helper()
	all := append(slices.Clone(s.Chains), s.Path...)
	for i, hash := range all {
		kept := make([][]byte, len(all))
		for j := range all {
			kept[j] = bytes.Clone(all[j])
		}
		scribble(hash)
		for j := range all {
			if j != i && !bytes.Equal(all[j], kept[j]) {
				t.Fatalf("hashes %d and %d share memory", i, j)
			}
		}
	}
}

// Rule 'Memory': keys keep no memory of the caller's, and hand out none of their own.
func TestKeysMemory(t *testing.T) {
	room := []byte("seed and more")
	k := made(t, 4, room[:4], 2)
	scribble(room)
	want := node(4, []byte("seed"), 2, 0)
	digest := []byte{1, 2, 3, 4, 9, 9, 9}
	for range 2 {
		public := k.Public()
		if !bytes.Equal(public, want) {
			t.Errorf("%x, not %x", public, want)
		}
		scribble(public)
		s := signed(t, k, 2, digest[:4])
		if !Verify(4, want, 2, digest[:4], s) {
			t.Error("a signature is not taken")
		}
		scribbleAll(t, s)
	}
	if !bytes.Equal(digest, []byte{1, 2, 3, 4, 9, 9, 9}) {
		t.Errorf("the digest or its room has changed: %v", digest)
	}
}

// Rule 'Memory': what is written, read or verified stays, the room behind it too.
func TestBytesMemory(t *testing.T) {
	public, digest, s := example(t)
	kept := cloned(s)
	room := bytes.Repeat([]byte{7}, 4000)
	scribble(Write(room[:3], s))
	if !bytes.Equal(room, bytes.Repeat([]byte{7}, 4000)) {
		t.Error("the room behind what is written to has changed")
	}
	b := append(Write(nil, s), "behind"...)
	whole := bytes.Clone(b)
	got, rest, _ := Read(16, 3, b)
	scribble(rest)
	scribbleAll(t, got)
	if !bytes.Equal(b, whole) {
		t.Error("what is read has changed")
	}
	if !Verify(16, public, 3, digest, s) || !reflect.DeepEqual(s, kept) {
		t.Error("what is verified has changed")
	}
	again, rest, _ := Read(16, 3, b)
	scribble(b)
	if !reflect.DeepEqual(again, kept) || string(rest) != "behind" {
		t.Error("what was read shares memory with the bytes")
	}
}
