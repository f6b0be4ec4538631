package record

import (
	"bytes"
	"crypto/sha256"
	"encoding/binary"
	"math"
	"math/rand"
	"slices"
	"testing"

	"annals/api"
	"annals/mts"
)

// links is how many links the record of an epoch has, counted power by power.
func links(epoch int) int {
	count := 0
	for power := 1; power <= epoch; power *= 2 {
		if epoch%power == 0 {
			count++
		}
	}
	return count
}

// drawn is a record of an epoch that may be.
func drawn(source *rand.Rand, size, epoch int) api.Record {
	r := api.Record{Epoch: epoch, Time: int(source.Int63n(api.MaxTime + 1)), Count: source.Intn(33), Tree: digest(source, size), List: digest(source, size)}
	for range links(epoch) {
		r.Links = append(r.Links, digest(source, size))
	}
	return r
}

// digest is some bytes.
func digest(source *rand.Rand, size int) []byte {
	b := make([]byte, size)
	source.Read(b)
	return b
}

// digests is some lists of bytes.
func digests(source *rand.Rand, n, size int) [][]byte {
	l := make([][]byte, n)
	for i := range l {
		l[i] = digest(source, size)
	}
	return l
}

// number is a number's bytes, spelled out.
func number(n int) []byte {
	b := bytes.TrimLeft(binary.BigEndian.AppendUint64(nil, uint64(n)), "\x00")
	return append([]byte{byte(len(b))}, b...)
}

// spelled is a record's bytes, spelled out.
func spelled(r api.Record) []byte {
	b := append(number(r.Epoch), number(r.Time)...)
	b = append(append(b, number(len(r.Tree))...), r.Tree...)
	b = append(b, number(r.Count)...)
	for _, l := range append([][]byte{r.List}, r.Links...) {
		b = append(append(b, number(len(l))...), l...)
	}
	return b
}

// sealed is a signed record's bytes, spelled out.
func sealed(s api.Signed) []byte {
	b := spelled(s.Record)
	b = append(number(len(b)), b...)
	b = append(b, number(s.Signature.Index)...)
	for _, l := range append(slices.Clone(s.Signature.Chains), s.Signature.Path...) {
		b = append(b, l...)
	}
	return b
}

// alike: the same lists of bytes (none and nil are the same).
func alike(a, b [][]byte) bool {
	return slices.EqualFunc(a, b, bytes.Equal)
}

// same: the same record.
func same(a, b api.Record) bool {
	return a.Epoch == b.Epoch && a.Time == b.Time && a.Count == b.Count && bytes.Equal(a.Tree, b.Tree) && bytes.Equal(a.List, b.List) && alike(a.Links, b.Links)
}

// sameSigned: the same signed record.
func sameSigned(a, b api.Signed) bool {
	return same(a.Record, b.Record) && a.Signature.Index == b.Signature.Index && alike(a.Signature.Chains, b.Signature.Chains) && alike(a.Signature.Path, b.Signature.Path)
}

// copied is a record in memory of its own.
func copied(r api.Record) api.Record {
	r.Tree, r.List, r.Links = bytes.Clone(r.Tree), bytes.Clone(r.List), own(r.Links)
	return r
}

// copiedSigned is a signed record in memory of its own.
func copiedSigned(s api.Signed) api.Signed {
	s.Record = copied(s.Record)
	s.Signature.Chains, s.Signature.Path = own(s.Signature.Chains), own(s.Signature.Path)
	return s
}

// own is lists of bytes in memory of their own.
func own(l [][]byte) [][]byte {
	var out [][]byte
	for _, b := range l {
		out = append(out, bytes.Clone(b))
	}
	return out
}

// takes holds all calls of a record against whether it may be.
func takes(t *testing.T, what string, size int, r api.Record, want bool) {
	t.Helper()
	b, errno := Encode(size, r)
	hash := Hash(size, r)
	if Can(size, r) != want {
		t.Errorf("%s: Can is %v", what, !want)
	}
	if want && (errno != api.OK || !bytes.Equal(b, spelled(r)) || len(hash) != size) {
		t.Errorf("%s: %x, %v, %x", what, b, errno, hash)
	}
	if !want && (errno != api.ErrArg || len(b) != 0 || len(hash) != 0) {
		t.Errorf("%s: %x, %v, %x, though it may not be", what, b, errno, hash)
	}
}

// P13.1: each epoch with as many links as it must have, and with no others; example 1.
func TestLinks(t *testing.T) {
	source := rand.New(rand.NewSource(1))
	for epoch := range 256 {
		r := drawn(source, 3, epoch)
		want := len(r.Links)
		for n := range 11 {
			r.Links = digests(source, n, 3)
			takes(t, "links", 3, r, n == want)
		}
	}
	six := drawn(source, 3, 6)
	if len(six.Links) != 2 || !Can(3, six) {
		t.Error("epoch 6")
	}
	if none := drawn(source, 3, 0); len(none.Links) != 0 || !Can(3, none) {
		t.Error("epoch 0")
	}
	if most := drawn(source, 3, 128); len(most.Links) != 8 || !Can(3, most) {
		t.Error("epoch 128")
	}
}

// P13.1: each number's ends, and what is beyond them.
func TestNumbers(t *testing.T) {
	source := rand.New(rand.NewSource(2))
	far := []int{math.MinInt, math.MinInt + 1, math.MinInt32, -256, -2, -1, 1 << 51, 1 << 62, math.MaxInt - 1, math.MaxInt}
	for _, n := range append(far, 256, 257, 512, 1<<20) {
		for count := range 12 {
			r := drawn(source, 2, 0)
			r.Epoch, r.Links = n, digests(source, count, 2)
			takes(t, "epoch", 2, r, false)
		}
	}
	for _, n := range append(far, 1<<50+1) {
		r := drawn(source, 2, 12)
		r.Time = n
		takes(t, "time", 2, r, false)
	}
	for _, n := range append(far, 33, 34, 1<<32) {
		r := drawn(source, 2, 12)
		r.Count = n
		takes(t, "count", 2, r, false)
	}
	for _, n := range []int{0, 1, 255, 256, 1<<50 - 1, 1 << 50} {
		r := drawn(source, 2, 255)
		r.Time = n
		takes(t, "time", 2, r, true)
	}
	for n := range 33 {
		r := drawn(source, 2, 255)
		r.Count = n
		takes(t, "count", 2, r, true)
	}
}

// P13.1: sizes that may not be have no record, not even one with such digests.
func TestSizes(t *testing.T) {
	source := rand.New(rand.NewSource(3))
	for size := 1; size <= 32; size++ {
		takes(t, "size", size, drawn(source, size, 8), true)
		for _, other := range []int{math.MinInt, -size, -1, 0, size - 1, size + 1, 33, math.MaxInt} {
			takes(t, "another size", other, drawn(source, size, 8), false)
		}
	}
	takes(t, "no bytes", 0, drawn(source, 0, 8), false)
	takes(t, "no bytes, no links", 0, api.Record{}, false)
	takes(t, "nothing", 1, api.Record{}, false)
	for _, size := range []int{33, 64, 300} {
		takes(t, "too great", size, drawn(source, size, 8), false)
	}
}

// P13.1: each digest has size bytes, wherever it stands.
func TestDigests(t *testing.T) {
	source := rand.New(rand.NewSource(4))
	for _, wrong := range [][]byte{nil, {}, {1}, {1, 2}, {1, 2, 3, 4}, make([]byte, 32), make([]byte, 70000)} {
		r := drawn(source, 3, 128)
		r.Tree = wrong
		takes(t, "tree", 3, r, false)
		r = drawn(source, 3, 128)
		r.List = wrong
		takes(t, "list", 3, r, false)
		for i := range 8 {
			r = drawn(source, 3, 128)
			r.Links[i] = wrong
			takes(t, "link", 3, r, false)
		}
	}
}

// P13.1: the bytes and the hash.
func TestEncode(t *testing.T) {
	r := api.Record{Epoch: 6, Time: 258, Tree: []byte{1, 2}, Count: 0, List: []byte{3, 4}, Links: [][]byte{{5, 6}, {7, 8}}}
	want := []byte{1, 6, 2, 1, 2, 1, 2, 1, 2, 0, 1, 2, 3, 4, 1, 2, 5, 6, 1, 2, 7, 8}
	if b, errno := Encode(2, r); errno != api.OK || !bytes.Equal(b, want) {
		t.Error(b, errno)
	}
	text := append([]byte{5, 0, byte(len(want))}, want...)
	if sum := sha256.Sum256(text); !bytes.Equal(Hash(2, r), sum[:2]) {
		t.Errorf("%x", Hash(2, r))
	}
	none := api.Record{Tree: []byte{1}, List: []byte{2}}
	if b, errno := Encode(1, none); errno != api.OK || !bytes.Equal(b, []byte{0, 0, 1, 1, 1, 0, 1, 1, 2}) {
		t.Error(b, errno)
	}
}

// P13.1: the hash of each size, of the longest record too.
func TestHash(t *testing.T) {
	source := rand.New(rand.NewSource(5))
	for size := 1; size <= 32; size++ {
		for _, epoch := range []int{0, 1, 6, 128, 255} {
			r := drawn(source, size, epoch)
			b := spelled(r)
			sum := sha256.Sum256(append(binary.BigEndian.AppendUint16([]byte{5}, uint16(len(b))), b...))
			if got := Hash(size, r); !bytes.Equal(got, sum[:size]) {
				t.Fatalf("size %d, epoch %d: %x", size, epoch, got)
			}
		}
	}
}

// P13.1: the bytes, and so what is hashed, hang on each field.
func TestEncodeHangsOnAll(t *testing.T) {
	r := api.Record{Epoch: 6, Time: 7, Tree: []byte{1, 1}, Count: 8, List: []byte{2, 2}, Links: [][]byte{{3, 3}, {4, 4}}}
	others := []func(*api.Record){
		func(r *api.Record) { r.Epoch = 10 }, func(r *api.Record) { r.Time++ }, func(r *api.Record) { r.Count++ },
		func(r *api.Record) { r.Tree, r.List = r.List, r.Tree }, func(r *api.Record) { r.Links[0], r.Links[1] = r.Links[1], r.Links[0] },
		func(r *api.Record) { r.Tree[0]++ }, func(r *api.Record) { r.List[1]++ }, func(r *api.Record) { r.Links[0][0]++ }, func(r *api.Record) { r.Links[1][1]++ },
	}
	for i, change := range others {
		other := copied(r)
		change(&other)
		a, _ := Encode(2, r)
		b, _ := Encode(2, other)
		if bytes.Equal(a, b) || len(b) == 0 {
			t.Errorf("%d: %x", i, b)
		}
	}
}

// P13.1, P13.3
func TestDecodeOfEncode(t *testing.T) {
	source := rand.New(rand.NewSource(6))
	for epoch := range 256 {
		for _, size := range []int{1, 2, 31, 32, 1 + source.Intn(32)} {
			r := drawn(source, size, epoch)
			b, _ := Encode(size, r)
			if got, errno := Decode(size, b); errno != api.OK || !same(got, r) {
				t.Fatalf("%v: %v, %v", r, got, errno)
			}
		}
	}
}

// refused: these bytes are no record's.
func refused(t *testing.T, what string, size int, b []byte) {
	t.Helper()
	if r, errno := Decode(size, b); errno != api.ErrForm || !same(r, api.Record{}) {
		t.Errorf("%s: Decode(%d, %v): %v, %v", what, size, b, r, errno)
	}
}

// P13.1: bytes that Encode makes of none.
func TestDecodeErrors(t *testing.T) {
	refused(t, "nil", 2, nil)
	refused(t, "empty", 2, []byte{})
	for _, c := range []struct {
		what string
		b    []byte
	}{
		{"a nought ahead of the epoch", []byte{2, 0, 1, 0, 1, 1, 7, 0, 1, 1, 8, 1, 1, 9}},
		{"a nought for the epoch", []byte{1, 0, 0, 1, 1, 7, 0, 1, 1, 8}},
		{"an epoch of nine bytes", []byte{9, 1, 1, 1, 1, 1, 1, 1, 1, 1, 0, 1, 1, 7, 0, 1, 1, 8}},
		{"an epoch too great", append([]byte{2, 1, 0, 0, 1, 1, 7, 0, 1, 1, 8}, bytes.Repeat([]byte{1, 1, 9}, 9)...)},
		{"a time too great", []byte{0, 7, 4, 0, 0, 0, 0, 0, 1, 1, 1, 7, 0, 1, 1, 8}},
		{"a nought ahead of the time", []byte{0, 2, 0, 5, 1, 1, 7, 0, 1, 1, 8}},
		{"a count too great", []byte{0, 0, 1, 1, 7, 1, 33, 1, 1, 8}},
		{"no tree", []byte{0, 0, 0, 0, 1, 1, 8}},
		{"no list", []byte{0, 0, 1, 1, 7, 0, 0}},
		{"a tree too long", []byte{0, 0, 1, 2, 7, 7, 0, 1, 1, 8}},
		{"a list too long", []byte{0, 0, 1, 1, 7, 0, 1, 2, 8, 8}},
		{"a nought ahead of a length", []byte{0, 0, 2, 0, 1, 7, 0, 1, 1, 8}},
		{"a link of epoch 0", []byte{0, 0, 1, 1, 7, 0, 1, 1, 8, 1, 1, 9}},
		{"no link of epoch 1", []byte{1, 1, 0, 1, 1, 7, 0, 1, 1, 8}},
		{"two links of epoch 1", []byte{1, 1, 0, 1, 1, 7, 0, 1, 1, 8, 1, 1, 9, 1, 1, 9}},
		{"a link without bytes", []byte{1, 1, 0, 1, 1, 7, 0, 1, 1, 8, 0}},
		{"a link too long", []byte{1, 1, 0, 1, 1, 7, 0, 1, 1, 8, 1, 2, 9, 9}},
		{"something behind", []byte{0, 0, 1, 1, 7, 0, 1, 1, 8, 0}},
	} {
		refused(t, c.what, 1, c.b)
	}
	if _, errno := Decode(1, []byte{1, 1, 7, 4, 0, 0, 0, 0, 0, 0, 1, 1, 7, 1, 32, 1, 1, 8, 1, 1, 9}); errno != api.OK {
		t.Error("the greatest numbers:", errno)
	}
}

// P13.1: sizes that may not be have no record, whatever the bytes are.
func TestDecodeOfSizes(t *testing.T) {
	source := rand.New(rand.NewSource(7))
	for _, size := range []int{0, 1, 31, 32, 33, 34, 200} {
		r := drawn(source, size, 6)
		b := spelled(r)
		for _, other := range []int{math.MinInt, -1, 0, 1, 31, 32, 33, 34, 200, math.MaxInt} {
			got, errno := Decode(other, b)
			if size == other && size >= 1 && size <= 32 {
				if errno != api.OK || !same(got, r) {
					t.Errorf("size %d: %v, %v", size, got, errno)
				}
				continue
			}
			refused(t, "another size", other, b)
		}
	}
}

// P13.1: each beginning is too short, each byte behind the end is one too many.
func TestDecodeOfEachBeginning(t *testing.T) {
	source := rand.New(rand.NewSource(8))
	for _, epoch := range []int{0, 1, 6, 128} {
		b := spelled(drawn(source, 3, epoch))
		for n := range b {
			refused(t, "a beginning", 3, b[:n])
			refused(t, "an end", 3, b[n+1:])
		}
		refused(t, "a nought behind", 3, append(bytes.Clone(b), 0))
		refused(t, "twice", 3, append(bytes.Clone(b), b...))
	}
}

// P13.1: of all bytes whatever Decode ends, and takes only what Encode makes.
func TestDecodeOfWhatever(t *testing.T) {
	source := rand.New(rand.NewSource(9))
	taken := 0
	for range 20000 {
		size := 1 + source.Intn(3)
		b := spelled(drawn(source, size, source.Intn(256)))
		for range 1 + source.Intn(2) {
			b[source.Intn(len(b))] = byte(source.Intn(12))
		}
		r, errno := Decode(size, b)
		if errno != api.OK {
			refused(t, "changed", size, b)
			continue
		}
		taken++
		if again, errno := Encode(size, r); errno != api.OK || !bytes.Equal(again, b) {
			t.Fatalf("%v: %v, %v, %v", b, r, again, errno)
		}
	}
	if taken < 1000 || taken > 19000 {
		t.Error("taken:", taken)
	}
}

// signed is a record with a signature of its form, that is no right one.
func signed(source *rand.Rand, size, height, epoch int) api.Signed {
	s := api.Signature{Index: source.Intn(1 << height), Chains: digests(source, 4*size+5, size), Path: digests(source, height, size)}
	return api.Signed{Record: drawn(source, size, epoch), Signature: s}
}

// P13.2, P13.3: of each size and height.
func TestOpenOfSeal(t *testing.T) {
	source := rand.New(rand.NewSource(10))
	for size := 1; size <= 32; size++ {
		for height := range 9 {
			s := signed(source, size, height, source.Intn(256))
			if height%2 == 0 {
				s.Signature.Index = 1<<height - 1
			}
			b, errno := Seal(size, s)
			if errno != api.OK || !bytes.Equal(b, sealed(s)) {
				t.Fatalf("size %d, height %d: %x, %v", size, height, b, errno)
			}
			if got, errno := Open(size, height, b); errno != api.OK || !sameSigned(got, s) {
				t.Fatalf("size %d, height %d: %v, %v", size, height, got, errno)
			}
		}
	}
}

// P13.2: an Index that its Path is too short for is sealed, and not opened.
func TestSealOfAnyIndex(t *testing.T) {
	source := rand.New(rand.NewSource(11))
	for height := range 9 {
		for index := range 256 {
			s := signed(source, 1, height, 4)
			s.Signature.Index = index
			b, errno := Seal(1, s)
			if errno != api.OK || !bytes.Equal(b, sealed(s)) {
				t.Fatalf("height %d, index %d: %v", height, index, errno)
			}
			if index < 1<<height {
				if got, errno := Open(1, height, b); errno != api.OK || !sameSigned(got, s) {
					t.Fatalf("height %d, index %d: %v", height, index, errno)
				}
				continue
			}
			unopened(t, "an index too great", 1, height, b)
		}
	}
}

// P13.2: what may not be sealed.
func TestSealErrors(t *testing.T) {
	source := rand.New(rand.NewSource(12))
	wrong := map[string]func(*api.Signed){
		"an index below 0": func(s *api.Signed) { s.Signature.Index = -1 }, "an index too great": func(s *api.Signed) { s.Signature.Index = 256 },
		"the least index": func(s *api.Signed) { s.Signature.Index = math.MinInt }, "the greatest index": func(s *api.Signed) { s.Signature.Index = math.MaxInt },
		"no chains": func(s *api.Signed) { s.Signature.Chains = nil }, "a chain too few": func(s *api.Signed) { s.Signature.Chains = s.Signature.Chains[:16] },
		"a chain too many":        func(s *api.Signed) { s.Signature.Chains = append(s.Signature.Chains, []byte{1, 2, 3}) },
		"a path too long":         func(s *api.Signed) { s.Signature.Path = digests(source, 9, 3) },
		"a path far too long":     func(s *api.Signed) { s.Signature.Path = digests(source, 5000, 3) },
		"a first chain too short": func(s *api.Signed) { s.Signature.Chains[0] = []byte{1, 2} }, "a last chain too long": func(s *api.Signed) { s.Signature.Chains[16] = make([]byte, 4) },
		"a chain of none": func(s *api.Signed) { s.Signature.Chains[8] = nil }, "a first hash too long": func(s *api.Signed) { s.Signature.Path[0] = make([]byte, 4) },
		"a last hash too short": func(s *api.Signed) { s.Signature.Path[7] = []byte{1, 2} }, "a hash of none": func(s *api.Signed) { s.Signature.Path[3] = nil },
		"bytes moved on":      func(s *api.Signed) { s.Signature.Chains[0], s.Signature.Chains[1] = []byte{1, 2}, []byte{3, 4, 5, 6} },
		"a record of no time": func(s *api.Signed) { s.Record.Time = -1 }, "a record with a link too many": func(s *api.Signed) { s.Record.Links = digests(source, 4, 3) },
		"no record": func(s *api.Signed) { s.Record = api.Record{} }, "no signature": func(s *api.Signed) { s.Signature = api.Signature{} },
		"nothing": func(s *api.Signed) { *s = api.Signed{} },
	}
	for what, change := range wrong {
		s := signed(source, 3, 8, 12)
		if _, errno := Seal(3, s); errno != api.OK {
			t.Fatal(errno)
		}
		change(&s)
		if b, errno := Seal(3, s); errno != api.ErrArg || len(b) != 0 {
			t.Errorf("%s: %x, %v", what, b, errno)
		}
	}
	for _, size := range []int{math.MinInt, -1, 0, 1, 2, 4, 33, math.MaxInt} {
		if b, errno := Seal(size, signed(source, 3, 8, 12)); errno != api.ErrArg || len(b) != 0 {
			t.Errorf("size %d: %x, %v", size, b, errno)
		}
	}
	for _, size := range []int{0, 33} {
		if b, errno := Seal(size, signed(source, size, 8, 12)); errno != api.ErrArg || len(b) != 0 {
			t.Errorf("size %d, of such digests: %x, %v", size, b, errno)
		}
	}
}

// unopened: these bytes are no signed record's.
func unopened(t *testing.T, what string, size, height int, b []byte) {
	t.Helper()
	if s, errno := Open(size, height, b); errno != api.ErrForm || !sameSigned(s, api.Signed{}) {
		t.Errorf("%s: Open(%d, %d, %v): %v, %v", what, size, height, b, s, errno)
	}
}

// P13.2: bytes that Seal makes of none.
func TestOpenErrors(t *testing.T) {
	source := rand.New(rand.NewSource(13))
	s := signed(source, 2, 3, 6)
	s.Signature.Index = 5
	b := sealed(s)
	text := len(spelled(s.Record))
	unopened(t, "nil", 2, 3, nil)
	unopened(t, "empty", 2, 3, []byte{})
	for n := range b {
		unopened(t, "a beginning", 2, 3, b[:n])
		unopened(t, "an end", 2, 3, b[n+1:])
	}
	unopened(t, "something behind", 2, 3, append(bytes.Clone(b), 0))
	unopened(t, "a nought ahead of the length", 2, 3, append([]byte{2, 0, byte(text)}, b[2:]...))
	unopened(t, "a text that ends early", 2, 3, append([]byte{1, byte(text - 1)}, b[2:]...))
	unopened(t, "a text that ends late", 2, 3, append([]byte{1, byte(text + 1)}, b[2:]...))
	unopened(t, "no text", 2, 3, append([]byte{0}, b[2+text:]...))
	unopened(t, "a text without its length", 2, 3, b[2:])
	unopened(t, "a text far too long", 2, 3, append([]byte{8, 0x40, 0, 0, 0, 0, 0, 0, 0}, b[2:]...))
	nought := append(bytes.Clone(b[:2+text]), 2, 0, 5)
	unopened(t, "a nought ahead of the index", 2, 3, append(nought, b[2+text+2:]...))
	great := bytes.Clone(b)
	great[2+text+1] = 8
	unopened(t, "an index too great", 2, 3, great)
	record := bytes.Clone(b)
	record[3] = 5
	unopened(t, "a record that may not be", 2, 3, record)
	for _, other := range []int{math.MinInt, -1, 0, 2, 4, 8, 9, math.MaxInt} {
		unopened(t, "another height", 2, other, b)
	}
	for _, other := range []int{math.MinInt, -1, 0, 1, 3, 32, 33, math.MaxInt} {
		unopened(t, "another size", other, 3, b)
	}
	high := signed(source, 2, 8, 6)
	high.Signature.Path = digests(source, 9, 2)
	unopened(t, "a height that may not be", 2, 9, sealed(high))
	unopened(t, "a size that may not be", 33, 3, sealed(signed(source, 33, 3, 6)))
	unopened(t, "a size of none", 0, 3, sealed(signed(source, 0, 3, 6)))
}

// P13.2: of all bytes whatever Open ends, and takes only what Seal makes.
func TestOpenOfWhatever(t *testing.T) {
	source := rand.New(rand.NewSource(14))
	taken := 0
	for range 20000 {
		height := source.Intn(4)
		b := sealed(signed(source, 1, height, source.Intn(256)))
		for range 1 + source.Intn(2) {
			b[source.Intn(len(b))] = byte(source.Intn(12))
		}
		s, errno := Open(1, height, b)
		if errno != api.OK {
			unopened(t, "changed", 1, height, b)
			continue
		}
		taken++
		if again, errno := Seal(1, s); errno != api.OK || !bytes.Equal(again, b) || len(s.Signature.Path) != height {
			t.Fatalf("%v: %v, %v, %v", b, s, again, errno)
		}
	}
	if taken < 1000 || taken > 19000 {
		t.Error("taken:", taken)
	}
}

// right is a record that is signed as it must be, and the public key.
func right(t *testing.T, size, height, epoch int) (api.Signed, []byte) {
	t.Helper()
	keys, errno := mts.New(size, []byte("seed"), height)
	if errno != api.OK {
		t.Fatal(errno)
	}
	r := drawn(rand.New(rand.NewSource(15)), size, epoch)
	s, errno := keys.Sign(epoch, Hash(size, r))
	if errno != api.OK {
		t.Fatal(errno)
	}
	return api.Signed{Record: r, Signature: s}, keys.Public()
}

// P13.2: what is signed by its own epoch's key is taken, opened of its seal too.
func TestCheck(t *testing.T) {
	for _, size := range []int{1, 2, 16, 32} {
		for _, height := range []int{0, 1, 3, 8} {
			if size > 2 && height == 8 {
				continue
			}
			for _, epoch := range []int{0, 1<<height - 1, 1 << height / 2} {
				s, public := right(t, size, height, epoch)
				b, _ := Seal(size, s)
				opened, _ := Open(size, height, b)
				if !Check(size, height, public, s) || !Check(size, height, public, opened) {
					t.Errorf("size %d, height %d, epoch %d", size, height, epoch)
				}
			}
		}
	}
}

// P13.2: nothing else is.
func TestCheckRefuses(t *testing.T) {
	good, public := right(t, 16, 3, 6)
	wrong := map[string]func(*api.Signed){
		"another time": func(s *api.Signed) { s.Record.Time ^= 1 }, "another tree": func(s *api.Signed) { s.Record.Tree[15] ^= 1 },
		"another count": func(s *api.Signed) { s.Record.Count ^= 1 }, "another list": func(s *api.Signed) { s.Record.List[0] ^= 1 },
		"another link": func(s *api.Signed) { s.Record.Links[1][3] ^= 1 }, "another epoch": func(s *api.Signed) { s.Record.Epoch = 2 },
		"another index": func(s *api.Signed) { s.Signature.Index = 2 }, "both others": func(s *api.Signed) { s.Record.Epoch, s.Signature.Index = 2, 2 },
		"an index below 0": func(s *api.Signed) { s.Signature.Index = -1 }, "an epoch below 0": func(s *api.Signed) { s.Record.Epoch, s.Signature.Index = -2, -2 },
		"another chain": func(s *api.Signed) { s.Signature.Chains[0][0] ^= 1 }, "another hash": func(s *api.Signed) { s.Signature.Path[2][0] ^= 1 },
		"a chain too few": func(s *api.Signed) { s.Signature.Chains = s.Signature.Chains[1:] }, "a hash too few": func(s *api.Signed) { s.Signature.Path = s.Signature.Path[:2] },
		"a hash too many": func(s *api.Signed) { s.Signature.Path = append(s.Signature.Path, make([]byte, 16)) },
		"a link too few":  func(s *api.Signed) { s.Record.Links = s.Record.Links[:1] }, "no record": func(s *api.Signed) { s.Record = api.Record{} },
		"no signature": func(s *api.Signed) { s.Signature = api.Signature{} }, "nothing": func(s *api.Signed) { *s = api.Signed{} },
	}
	for what, change := range wrong {
		s := copiedSigned(good)
		change(&s)
		if Check(16, 3, public, s) {
			t.Error(what)
		}
	}
	for _, other := range [][]byte{nil, {}, public[:15], append(bytes.Clone(public), 0), make([]byte, 16)} {
		if Check(16, 3, other, good) {
			t.Errorf("public key %x", other)
		}
	}
	for _, n := range []int{math.MinInt, -1, 0, 1, 2, 4, 8, 9, 15, 17, 32, 33, math.MaxInt} {
		if Check(16, n, public, good) || Check(n, 3, public, good) {
			t.Error("size or height", n)
		}
	}
}

// P13.2: another epoch's key under the same public one signs nothing.
func TestCheckOfAnotherKey(t *testing.T) {
	keys, _ := mts.New(4, nil, 3)
	r := drawn(rand.New(rand.NewSource(16)), 4, 6)
	for index := range 8 {
		s, _ := keys.Sign(index, Hash(4, r))
		if Check(4, 3, keys.Public(), api.Signed{Record: r, Signature: s}) != (index == 6) {
			t.Error("index", index)
		}
	}
}

// P13.2: a record that may not be is not taken, even where its empty hash, or one made by hand, is signed.
func TestCheckOfNoRecord(t *testing.T) {
	keys, _ := mts.New(2, nil, 3)
	r := drawn(rand.New(rand.NewSource(17)), 2, 6)
	r.Time = -1
	b := spelled(r)
	sum := sha256.Sum256(append(binary.BigEndian.AppendUint16([]byte{5}, uint16(len(b))), b...))
	s, errno := keys.Sign(6, sum[:2])
	if errno != api.OK || Check(2, 3, keys.Public(), api.Signed{Record: r, Signature: s}) {
		t.Error(errno)
	}
}

// scribble writes over all of a list, its spare room too.
func scribble(b []byte) {
	b = b[:cap(b)]
	for i := range b {
		b[i] ^= 0xee
	}
}

// Rule 'Memory': what is handed in stays, the room behind it too.
func TestArgumentsStay(t *testing.T) {
	room := digest(rand.New(rand.NewSource(18)), 400)
	was := bytes.Clone(room)
	next := 0
	cut := func() []byte { next += 3; return room[next-3 : next-1] }
	s := api.Signed{Record: api.Record{Epoch: 6, Tree: cut(), List: cut()}}
	for range 4 {
		s.Record.Links = append(s.Record.Links, cut())
		s.Signature.Path = append(s.Signature.Path, cut())
	}
	for range 13 {
		s.Signature.Chains = append(s.Signature.Chains, cut())
	}
	kept := copiedSigned(s)
	part := s
	part.Record.Links = s.Record.Links[:2]
	part.Signature.Path = s.Signature.Path[:3]
	b, errno := Encode(2, part.Record)
	if errno != api.OK {
		t.Fatal(errno)
	}
	scribble(b)
	scribble(Hash(2, part.Record))
	b, errno = Seal(2, part)
	if errno != api.OK {
		t.Fatal(errno)
	}
	scribble(b)
	Check(2, 3, room[:2], part)
	if !bytes.Equal(room, was) || !sameSigned(s, kept) {
		t.Error("what was handed in has changed")
	}
}

// Rule 'Memory': what is read shares nothing, with the bytes or among itself.
func TestMemoryOfWhatIsRead(t *testing.T) {
	want := signed(rand.New(rand.NewSource(19)), 3, 3, 4)
	b := sealed(want)
	was := bytes.Clone(b)
	got, _ := Open(3, 3, b)
	lists := append([][]byte{got.Record.Tree, got.Record.List}, got.Record.Links...)
	lists = append(append(lists, got.Signature.Chains...), got.Signature.Path...)
	for i := range lists {
		before := own(lists)
		scribble(lists[i])
		for j := range lists {
			if j != i && !bytes.Equal(lists[j], before[j]) {
				t.Fatalf("lists %d and %d share memory", i, j)
			}
		}
	}
	if !bytes.Equal(b, was) {
		t.Error("the bytes have changed")
	}
	got, _ = Open(3, 3, b)
	scribble(b)
	if !sameSigned(got, want) {
		t.Error("what was opened changes with the bytes")
	}
	b = spelled(want.Record)
	r, _ := Decode(3, b)
	scribble(b)
	if !same(r, want.Record) {
		t.Error("what was decoded changes with the bytes")
	}
}
