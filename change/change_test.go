package change

import (
	"bytes"
	"crypto/sha256"
	"encoding/binary"
	"math"
	"math/rand"
	"slices"
	"strconv"
	"strings"
	"testing"

	"annals/api"
	"annals/codec"
	"annals/merkle"
)

// limits are parameters that count here: no others do.
func limits(id, key int) api.Params {
	return api.Params{MaxID: id, MaxKey: key}
}

// bound is a binding.
func bound(id, key string) api.Binding {
	return api.Binding{ID: []byte(id), Key: []byte(key)}
}

// many is n bindings of unlike identities.
func many(n int) []api.Binding {
	l := make([]api.Binding, n)
	for i := range l {
		l[i] = bound("id"+strconv.Itoa(i), "key")
	}
	return l
}

// same: as many bindings, and each with the same bytes (none and nil are the same).
func same(a, b []api.Binding) bool {
	return slices.EqualFunc(a, b, func(x, y api.Binding) bool {
		return bytes.Equal(x.ID, y.ID) && bytes.Equal(x.Key, y.Key)
	})
}

// byHand is the document's hash of a text, spelled out.
func byHand(size int, tag byte, parts ...[]byte) []byte {
	text := []byte{tag}
	for _, p := range parts {
		text = append(binary.BigEndian.AppendUint16(text, uint16(len(p))), p...)
	}
	sum := sha256.Sum256(text)
	return sum[:size]
}

// P12.1
func TestCheck(t *testing.T) {
	a, b, c := bound("a", "k"), bound("b", ""), bound("cc", "kkk")
	none := api.Binding{}
	cases := []struct {
		what string
		p    api.Params
		l    []api.Binding
		want api.Errno
	}{
		{"one", limits(2, 3), []api.Binding{a}, api.OK},
		{"just as long as may be", limits(2, 3), []api.Binding{a, b, c}, api.OK},
		{"no identity's bytes", limits(0, 0), []api.Binding{none}, api.OK},
		{"one key of two", limits(2, 3), []api.Binding{a, bound("b", "k")}, api.OK},
		{"an identity that begins another", limits(2, 3), []api.Binding{bound("c", ""), c, none}, api.OK},
		{"an identity that is a key", limits(2, 3), []api.Binding{bound("x", "y"), bound("y", "x")}, api.OK},
		{"identities that end in noughts", limits(3, 3), []api.Binding{bound("a", ""), bound("a\x00", ""), bound("a\x00\x00", "")}, api.OK},
		{"bytes that are no runes", limits(2, 3), []api.Binding{bound("\xff", ""), bound("\xfe", ""), bound("\xff\xff", ""), bound("\xef\xbf", "")}, api.OK},
		{"as many as may be", limits(9, 9), many(32), api.OK},
		{"nil", limits(2, 3), nil, api.ErrEmpty},
		{"empty", limits(2, 3), []api.Binding{}, api.ErrEmpty},
		{"one too many", limits(9, 9), many(33), api.ErrFull},
		{"far too many", limits(9, 9), many(5000), api.ErrFull},
		{"an identity too long", limits(2, 3), []api.Binding{a, bound("abc", "")}, api.ErrArg},
		{"a key too long", limits(2, 3), []api.Binding{bound("ab", "kkkk"), a}, api.ErrArg},
		{"no byte may be", limits(0, 0), []api.Binding{bound("", "k")}, api.ErrArg},
		{"not even none", limits(-1, 3), []api.Binding{none}, api.ErrArg},
		{"no key, not even none", limits(2, -1), []api.Binding{none}, api.ErrArg},
		{"far below", limits(math.MinInt, math.MinInt), []api.Binding{none}, api.ErrArg},
		{"twice", limits(2, 3), []api.Binding{a, a}, api.ErrTwice},
		{"twice, other keys", limits(2, 3), []api.Binding{a, b, bound("a", "kk")}, api.ErrTwice},
		{"twice at the end", limits(9, 9), append(many(31), bound("id30", "")), api.ErrTwice},
		{"nil and empty", limits(2, 3), []api.Binding{{}, {ID: []byte{}}}, api.ErrTwice},
	}
	for _, c := range cases {
		if got := Check(c.p, c.l); got != c.want {
			t.Errorf("%s: %v, not %v", c.what, got, c.want)
		}
	}
}

// P12.1: the limits of the document themselves, and beyond them what the parameters say.
func TestCheckAtTheLimits(t *testing.T) {
	id, key := strings.Repeat("i", 24), strings.Repeat("k", 48)
	p := limits(api.MaxID, api.MaxKey)
	if got := Check(p, []api.Binding{bound(id, key)}); got != api.OK {
		t.Error(got)
	}
	if got := Check(p, []api.Binding{bound(id+"i", key)}); got != api.ErrArg {
		t.Error(got)
	}
	if got := Check(p, []api.Binding{bound(id, key+"k")}); got != api.ErrArg {
		t.Error(got)
	}
	if got := Check(limits(math.MaxInt, math.MaxInt), []api.Binding{bound(strings.Repeat(id, 4000), strings.Repeat(key, 4000))}); got != api.OK {
		t.Error(got)
	}
}

// P12.1: of several errors the first one.
func TestCheckTellsTheFirstError(t *testing.T) {
	full := append(many(32), bound("id0", "too long a key"))
	if got := Check(limits(9, 9), full); got != api.ErrFull {
		t.Errorf("too many, too long, twice: %v", got)
	}
	if got := Check(limits(-1, -1), nil); got != api.ErrEmpty {
		t.Errorf("none, and none may be: %v", got)
	}
	l := []api.Binding{bound("a", ""), bound("a", ""), bound("abc", "")}
	if got := Check(limits(2, 3), l); got != api.ErrArg {
		t.Errorf("twice, and then too long: %v", got)
	}
	if got := Check(limits(2, 3), []api.Binding{bound("abc", ""), bound("abc", "")}); got != api.ErrArg {
		t.Errorf("too long, twice: %v", got)
	}
}

// P12.1: two of one identity are found wherever they stand.
func TestCheckFindsEachTwo(t *testing.T) {
	for i := range 32 {
		for j := range i {
			l := many(32)
			l[i].ID = bytes.Clone(l[j].ID)
			if got := Check(limits(9, 9), l); got != api.ErrTwice {
				t.Fatalf("%d and %d: %v", j, i, got)
			}
		}
	}
}

// P12.2
func TestLeaf(t *testing.T) {
	cases := []api.Binding{bound("a", "k"), {}, bound("ab", ""), bound("", "ab"), bound("a", "b"), bound(strings.Repeat("i", 24), strings.Repeat("k", 48)), bound(strings.Repeat("i", 65535), "")}
	for _, b := range cases {
		for size := 1; size <= 32; size++ {
			if got := Leaf(size, b); !bytes.Equal(got, byHand(size, 3, b.ID, b.Key)) {
				t.Errorf("size %d, %d and %d bytes: %x", size, len(b.ID), len(b.Key), got)
			}
		}
	}
}

// P12.2: sizes far out, and what has no text, are texts.Hash's.
func TestLeafOfWhatever(t *testing.T) {
	b := bound("a", "k")
	for _, size := range []int{math.MinInt, -1, 0} {
		if got := Leaf(size, b); len(got) != 0 {
			t.Errorf("size %d: %x", size, got)
		}
	}
	for _, size := range []int{33, math.MaxInt} {
		if got := Leaf(size, b); !bytes.Equal(got, byHand(32, 3, b.ID, b.Key)) {
			t.Errorf("size %d: %x", size, got)
		}
	}
	long := strings.Repeat("x", 65536)
	if len(Leaf(4, bound(long, ""))) != 0 || len(Leaf(4, bound("", long))) != 0 {
		t.Error("of no text")
	}
	if got := Leaves(4, []api.Binding{b, bound(long, ""), b}); len(got) != 3 || len(got[1]) != 0 || !bytes.Equal(got[2], Leaf(4, b)) {
		t.Errorf("of no text, among others: %x", got)
	}
}

// P12.2: in order, as many as there are, taken by Check or not.
func TestLeaves(t *testing.T) {
	l := append(many(40), bound("id7", "key"), bound("id7", ""), api.Binding{})
	for n := range len(l) + 1 {
		got := Leaves(5, l[:n])
		if len(got) != n {
			t.Fatalf("%d of %d", len(got), n)
		}
		for i := range got {
			if !bytes.Equal(got[i], byHand(5, 3, l[i].ID, l[i].Key)) {
				t.Fatalf("leaf %d: %x", i, got[i])
			}
		}
	}
}

// P12.2, example 1
func TestList(t *testing.T) {
	l := many(40)
	leaf := func(i int) []byte { return byHand(6, 3, l[i].ID, l[i].Key) }
	if !bytes.Equal(List(6, nil), byHand(6, 0)) || !bytes.Equal(List(6, []api.Binding{}), byHand(6, 0)) {
		t.Error("of none")
	}
	if !bytes.Equal(List(6, l[:1]), leaf(0)) {
		t.Error("of one")
	}
	if !bytes.Equal(List(6, l[:2]), byHand(6, 4, leaf(0), leaf(1))) {
		t.Error("of two")
	}
	if !bytes.Equal(List(6, l[:3]), byHand(6, 4, byHand(6, 4, leaf(0), leaf(1)), leaf(2))) {
		t.Error("of three")
	}
	for n := range len(l) + 1 {
		for _, size := range []int{-1, 0, 1, 6, 32, 33} {
			if !bytes.Equal(List(size, l[:n]), merkle.Root(size, Leaves(size, l[:n]))) {
				t.Errorf("size %d, of %d", size, n)
			}
		}
	}
}

// P12.2: another order, or a byte that stands elsewhere, is another list.
func TestListHangsOnAll(t *testing.T) {
	lists := [][]api.Binding{
		nil, {{}}, {bound("a", "k")}, {bound("ak", "")}, {bound("", "ak")}, {bound("a", "k"), {}}, {{}, bound("a", "k")},
		{bound("a", ""), bound("k", "")}, {bound("k", ""), bound("a", "")}, {bound("a", "k"), bound("a", "k")},
	}
	seen := map[string]int{}
	for i, l := range lists {
		if j, ok := seen[string(List(32, l))]; ok {
			t.Errorf("%d and %d have one list", j, i)
		}
		seen[string(List(32, l))] = i
	}
}

// written is a batch's bytes, spelled out; no length is above 255.
func written(l []api.Binding) []byte {
	number := func(n int) []byte {
		if n == 0 {
			return []byte{0}
		}
		return []byte{1, byte(n)}
	}
	out := number(len(l))
	for _, b := range l {
		out = append(append(out, number(len(b.ID))...), b.ID...)
		out = append(append(out, number(len(b.Key))...), b.Key...)
	}
	return out
}

// P12.3
func TestWrite(t *testing.T) {
	two := []api.Binding{bound("a", "k"), bound("b", "")}
	cases := []struct {
		b    []byte
		l    []api.Binding
		want []byte
	}{
		{nil, nil, []byte{0}},
		{[]byte{9}, []api.Binding{}, []byte{9, 0}},
		{nil, []api.Binding{{}}, []byte{1, 1, 0, 0}},
		{[]byte{9}, two, []byte{9, 1, 2, 1, 1, 'a', 1, 1, 'k', 1, 1, 'b', 0}},
		{[]byte{}, two[:1], []byte{1, 1, 1, 1, 'a', 1, 1, 'k'}},
		{[]byte("ahead"), many(32), append([]byte("ahead"), written(many(32))...)},
	}
	for _, c := range cases {
		if got := Write(c.b, c.l); !bytes.Equal(got, c.want) {
			t.Errorf("Write(%v, %v): %v, not %v", c.b, c.l, got, c.want)
		}
	}
}

// P12.3: whatever batch it is, Check or no Check.
func TestWriteOfWhatever(t *testing.T) {
	if got := Write(nil, []api.Binding{bound("a", ""), bound("a", "")}); !bytes.Equal(got, []byte{1, 2, 1, 1, 'a', 0, 1, 1, 'a', 0}) {
		t.Error("one identity twice", got)
	}
	if got := Write(nil, make([]api.Binding, 300)); !bytes.Equal(got, append([]byte{2, 1, 44}, make([]byte, 600)...)) {
		t.Error("more than may be", len(got))
	}
	long := strings.Repeat("x", 70000)
	if got := Write(nil, []api.Binding{bound(long, long)}); !bytes.Equal(got, codec.Bytes(codec.Bytes([]byte{1, 1}, []byte(long)), []byte(long))) {
		t.Error("longer than may be", len(got))
	}
}

// A long list is written in time that grows with it.
func TestWriteOfMany(t *testing.T) {
	l := make([]api.Binding, 1<<19)
	for i := range l {
		l[i] = bound("ab", "c")
	}
	if got := Write(nil, l); len(got) != 4+7*len(l) {
		t.Error(len(got))
	}
}

// P12.3: the batch, and what is left.
func TestRead(t *testing.T) {
	p := limits(2, 3)
	two := []api.Binding{bound("a", "k"), bound("b", "")}
	cases := []struct {
		p    api.Params
		b    []byte
		want []api.Binding
		rest []byte
	}{
		{p, []byte{0}, nil, nil},
		{p, []byte{0, 5, 6}, nil, []byte{5, 6}},
		{limits(-1, -1), []byte{0, 1}, nil, []byte{1}},
		{limits(0, 0), []byte{1, 1, 0, 0, 0}, []api.Binding{{}}, []byte{0}},
		{p, []byte{1, 2, 1, 1, 'a', 1, 1, 'k', 1, 1, 'b', 0}, two, nil},
		{p, []byte{1, 2, 1, 1, 'a', 1, 1, 'k', 1, 1, 'b', 0, 7}, two, []byte{7}},
		{p, []byte{1, 1, 1, 2, 'a', 'b', 1, 3, 'k', 'l', 'm', 9, 9}, []api.Binding{bound("ab", "klm")}, []byte{9, 9}},
		{p, []byte{1, 2, 1, 1, 'a', 0, 1, 1, 'a', 0}, []api.Binding{bound("a", ""), bound("a", "")}, nil},
		{limits(math.MaxInt, math.MaxInt), append(written(many(32)), 4), many(32), []byte{4}},
	}
	for _, c := range cases {
		got, rest, errno := Read(c.p, c.b)
		if errno != api.OK || !same(got, c.want) || !bytes.Equal(rest, c.rest) {
			t.Errorf("Read(%v, %v): %v, %v, %v", c.p, c.b, got, rest, errno)
		}
	}
}

// P12.3: each error of the codec, the first one in the order of the bytes, and nothing beside it.
func TestReadErrors(t *testing.T) {
	p := limits(2, 3)
	cases := []struct {
		p    api.Params
		b    []byte
		want api.Errno
	}{
		{p, nil, api.ErrShort}, {p, []byte{}, api.ErrShort}, {p, []byte{1}, api.ErrShort}, {p, []byte{2, 1}, api.ErrShort},
		{p, []byte{9}, api.ErrForm}, {p, []byte{1, 0}, api.ErrForm}, {p, []byte{2, 0, 1}, api.ErrForm}, {p, []byte{8, 255, 0, 0, 0, 0, 0, 0, 0}, api.ErrForm},
		{p, []byte{1, 33}, api.ErrFull}, {p, append([]byte{1, 33}, make([]byte, 66)...), api.ErrFull}, {p, []byte{8, 0x40, 0, 0, 0, 0, 0, 0, 0}, api.ErrFull},
		{p, append([]byte{1, 32}, make([]byte, 64)...), api.OK}, {p, append([]byte{1, 32}, make([]byte, 63)...), api.ErrShort},
		{p, []byte{1, 1}, api.ErrShort}, {p, []byte{1, 1, 0}, api.ErrShort}, {p, []byte{1, 1, 1, 2, 'a'}, api.ErrShort}, {p, []byte{1, 1, 0, 1, 3, 'k', 'k'}, api.ErrShort},
		{p, []byte{1, 1, 1, 3, 'a', 'b', 'c', 0}, api.ErrFull}, {p, []byte{1, 1, 1, 3}, api.ErrFull}, {p, []byte{1, 1, 0, 1, 4, 'k', 'k', 'k', 'k'}, api.ErrFull},
		{p, []byte{1, 1, 1, 0, 0}, api.ErrForm}, {p, []byte{1, 1, 0, 9}, api.ErrForm},
		{p, []byte{1, 2, 0, 0, 1, 3, 'a', 'b', 'c', 9}, api.ErrFull}, {p, []byte{1, 2, 0, 9, 1, 3}, api.ErrForm}, {p, []byte{1, 2, 0, 0}, api.ErrShort},
		{limits(0, 0), []byte{1, 1, 1, 1, 'a', 0}, api.ErrFull}, {limits(0, 0), []byte{1, 1, 0, 1, 1, 'k'}, api.ErrFull},
		{limits(-1, 3), []byte{1, 1, 0, 0}, api.ErrFull}, {limits(2, -1), []byte{1, 1, 0, 0}, api.ErrFull}, {limits(math.MinInt, math.MinInt), []byte{1, 1, 0, 0}, api.ErrFull},
		{limits(math.MaxInt, math.MaxInt), []byte{1, 1, 8, 0x40, 0, 0, 0, 0, 0, 0, 0}, api.ErrShort}, {limits(math.MaxInt, math.MaxInt), []byte{1, 1, 8, 0x40, 0, 0, 0, 0, 0, 0, 1}, api.ErrForm},
	}
	for _, c := range cases {
		l, rest, errno := Read(c.p, c.b)
		if errno != c.want || errno != api.OK && (len(l) != 0 || len(rest) != 0) {
			t.Errorf("Read(%v, %v): %v, %v, %v, not %v", c.p, c.b, l, rest, errno, c.want)
		}
	}
}

// P12.3: each beginning of a batch's bytes is short; the room behind its end is none of it.
func TestReadOfEachBeginning(t *testing.T) {
	b := written([]api.Binding{bound("ab", "klm"), {}, bound("c", ""), bound("", "k")})
	for n := range b {
		if l, rest, errno := Read(limits(2, 3), b[:n]); errno != api.ErrShort || len(l) != 0 || len(rest) != 0 {
			t.Errorf("the first %d bytes: %v, %v, %v", n, l, rest, errno)
		}
	}
}

// drawn is a batch that Check may take or not, with identities and keys up to such lengths.
func drawn(source *rand.Rand, n, id, key int) []api.Binding {
	l := make([]api.Binding, n)
	for i := range l {
		l[i] = api.Binding{ID: make([]byte, source.Intn(id+1)), Key: make([]byte, source.Intn(key+1))}
		source.Read(l[i].ID)
		source.Read(l[i].Key)
	}
	return l
}

// P12.4
func TestReadOfWrite(t *testing.T) {
	source := rand.New(rand.NewSource(1))
	taken := 0
	for range 3000 {
		p := limits(source.Intn(25), source.Intn(49))
		l := drawn(source, source.Intn(33), p.MaxID, p.MaxKey)
		if Check(p, l) != api.OK {
			continue
		}
		taken++
		b := Write([]byte("ahead"), l)
		if !bytes.Equal(b, append([]byte("ahead"), written(l)...)) {
			t.Fatalf("%v is written as %v", l, b)
		}
		got, rest, errno := Read(p, append(b[5:], "behind"...))
		if errno != api.OK || !same(got, l) || string(rest) != "behind" {
			t.Fatalf("%v: %v, %q, %v", l, got, rest, errno)
		}
	}
	if taken < 1000 {
		t.Error("too few are taken:", taken)
	}
}

// Of all bytes whatever Read ends, and what it takes is written as it stood there.
func TestReadOfWhatever(t *testing.T) {
	source := rand.New(rand.NewSource(2))
	for range 20000 {
		b := make([]byte, source.Intn(30))
		for i := range b {
			b[i] = byte(source.Intn(4))
		}
		l, rest, errno := Read(limits(2, 3), b)
		if errno == api.OK && !bytes.Equal(append(Write(nil, l), rest...), b) {
			t.Fatalf("%v: %v, %v", b, l, rest)
		}
	}
}

// scribble writes over all of a list, its spare room too.
func scribble(b []byte) {
	b = b[:cap(b)]
	for i := range b {
		b[i] = 0xee
	}
}

// Rule 'Memory': what is handed in stays, the room behind it too.
func TestArgumentsStay(t *testing.T) {
	room := []byte("abcdefghijklmnopqrstuvwxyz")
	l := []api.Binding{{ID: room[:3], Key: room[3:5]}, {ID: room[5:5], Key: room[6:8]}, {ID: room[9:10]}, bound("behind", "the end")}
	was := bytes.Clone(room)
	short := l[:3]
	Check(limits(3, 3), short)
	scribble(Leaf(4, short[0]))
	for _, leaf := range Leaves(4, short) {
		scribble(leaf)
	}
	scribble(List(4, short))
	scribble(List(4, short[:1]))
	scribble(Write(room[:4], short))
	if !bytes.Equal(room, was) || string(l[3].ID) != "behind" || len(l[1].ID) != 0 || cap(l[1].ID) != 21 || l[2].Key != nil {
		t.Error("what was handed in has changed", string(room), l)
	}
}

// Rule 'Memory': what is read shares nothing, with the bytes or among itself.
func TestReadMemory(t *testing.T) {
	want := []api.Binding{bound("ab", "klm"), {}, bound("c", "n")}
	b := append(written(want), "behind"...)
	was := bytes.Clone(b)
	l, rest, _ := Read(limits(2, 3), b)
	lists := [][]byte{rest}
	for _, x := range l {
		lists = append(lists, x.ID, x.Key)
	}
	for i := range lists {
		var kept [][]byte
		for _, x := range lists {
			kept = append(kept, bytes.Clone(x))
		}
		scribble(lists[i])
		for j := range lists {
			if j != i && !bytes.Equal(lists[j], kept[j]) {
				t.Fatalf("lists %d and %d share memory", i, j)
			}
		}
	}
	if !bytes.Equal(b, was) {
		t.Error("the bytes have changed")
	}
	l, rest, _ = Read(limits(2, 3), b)
	scribble(b)
	if !same(l, want) || string(rest) != "behind" {
		t.Error("what was read changes with the bytes")
	}
}

// Rule 'Memory': of one binding twice the leaves are two.
func TestLeavesMemory(t *testing.T) {
	l := []api.Binding{bound("a", "k"), bound("a", "k")}
	leaves := Leaves(32, l)
	scribble(leaves[0])
	if !bytes.Equal(leaves[1], byHand(32, 3, []byte("a"), []byte("k"))) {
		t.Error("two leaves share memory")
	}
}
