package texts

import (
	"bytes"
	"math"
	"math/rand"
	"strconv"
	"testing"

	"annals/api"
	"annals/sha"
)

// same: as many parts, and each with the same bytes (none and nil are the same).
func same(a, b [][]byte) bool {
	if len(a) != len(b) {
		return false
	}
	for i := range a {
		if !bytes.Equal(a[i], b[i]) {
			return false
		}
	}
	return true
}

// byHand spells a text as the document says it, a byte at a time.
func byHand(tag int, parts [][]byte) []byte {
	out := []byte{byte(tag)}
	for _, p := range parts {
		out = append(out, byte(len(p)/256), byte(len(p)%256))
		out = append(out, p...)
	}
	return out
}

// P2.1
func TestText(t *testing.T) {
	cases := []struct {
		tag   int
		parts [][]byte
		want  []byte
	}{
		{1, [][]byte{[]byte("ab"), nil}, []byte{1, 0, 2, 0x61, 0x62, 0, 0}},
		{0, nil, []byte{0}},
		{255, [][]byte{}, []byte{255}},
		{api.TagTree, [][]byte{{}}, []byte{9, 0, 0}},
		{2, [][]byte{{0, 0}, {3}}, []byte{2, 0, 2, 0, 0, 0, 1, 3}},
	}
	for _, c := range cases {
		if got, errno := Text(c.tag, c.parts...); errno != api.OK || !bytes.Equal(got, c.want) {
			t.Errorf("Text(%d, %v): %v, %v, not %v", c.tag, c.parts, got, errno, c.want)
		}
	}
}

// P2.1: lengths around a byte's end, and the greatest one.
func TestTextOfLongParts(t *testing.T) {
	for _, n := range []int{255, 256, 257, 65534, 65535} {
		part := bytes.Repeat([]byte{7}, n)
		got, errno := Text(5, part, []byte{1})
		if errno != api.OK || !bytes.Equal(got, byHand(5, [][]byte{part, {1}})) {
			t.Errorf("a part of %d bytes: %v", n, errno)
		}
	}
}

// P2.1: each error, the first one where both apply, and no text beside it.
func TestTextErrors(t *testing.T) {
	long := make([]byte, 65536)
	cases := []struct {
		tag   int
		parts [][]byte
		want  api.Errno
	}{
		{-1, nil, api.ErrArg},
		{256, nil, api.ErrArg},
		{math.MinInt, nil, api.ErrArg},
		{math.MaxInt, nil, api.ErrArg},
		{256, [][]byte{long}, api.ErrArg},
		{0, [][]byte{long}, api.ErrFull},
		{255, [][]byte{nil, {1}, long}, api.ErrFull},
		{1, [][]byte{long, nil}, api.ErrFull},
		{1, [][]byte{make([]byte, 1<<20)}, api.ErrFull},
	}
	for _, c := range cases {
		if got, errno := Text(c.tag, c.parts...); errno != c.want || len(got) != 0 {
			t.Errorf("Text(%d, %d parts): %d bytes, %v, not %v", c.tag, len(c.parts), len(got), errno, c.want)
		}
	}
}

// P2.1: each beginning of a text is one of fewer parts, or is short.
func TestSplitOfEachBeginning(t *testing.T) {
	parts := [][]byte{[]byte("ab"), nil, []byte("c"), bytes.Repeat([]byte{9}, 300)}
	text := byHand(77, parts)
	ends := map[int]int{1: 0, 5: 1, 7: 2, 10: 3, 312: 4}
	for n := range len(text) + 1 {
		tag, got, errno := Split(text[:n:n])
		if k, ok := ends[n]; ok {
			if errno != api.OK || tag != 77 || !same(got, parts[:k]) {
				t.Errorf("the first %d bytes: %d, %v, %v", n, tag, got, errno)
			}
		} else if errno != api.ErrShort || tag != 0 || len(got) != 0 {
			t.Errorf("the first %d bytes: %d, %v, %v", n, tag, got, errno)
		}
	}
}

// P2.1
func TestSplitErrors(t *testing.T) {
	cases := [][]byte{nil, {}, {1, 0}, {1, 255}, {1, 0, 3, 5}, {1, 0, 1}, {1, 1, 0, 5}, {1, 255, 255, 0}, {1, 0, 0, 0}, {1, 0, 1, 8, 0, 2, 9}}
	for _, text := range cases {
		tag, parts, errno := Split(text)
		if errno != api.ErrShort || tag != 0 || len(parts) != 0 {
			t.Errorf("Split(%v): %d, %v, %v", text, tag, parts, errno)
		}
	}
}

// P2.1: the room behind a text's end is none of it.
func TestSplitStopsAtTheEnd(t *testing.T) {
	room := []byte{1, 0, 2, 8, 9}
	if _, _, errno := Split(room[:4]); errno != api.ErrShort {
		t.Error("bytes behind the end are taken", errno)
	}
}

// P2.1
func TestHash(t *testing.T) {
	parts := [][]byte{[]byte("ab"), nil}
	text := []byte{1, 0, 2, 0x61, 0x62, 0, 0}
	for size := -2; size <= 35; size++ {
		if got := Hash(size, 1, parts...); !bytes.Equal(got, sha.Cut(size, text)) {
			t.Errorf("Hash(%d): %x", size, got)
		}
	}
	if !bytes.Equal(Hash(32, 0), sha.Sum([]byte{0})) {
		t.Error("a text without parts")
	}
	long := make([]byte, 65536)
	if len(Hash(32, 256)) != 0 || len(Hash(32, -1, nil)) != 0 || len(Hash(32, 1, nil, long)) != 0 {
		t.Error("a hash of no text")
	}
	if len(Hash(math.MinInt, 1)) != 0 || len(Hash(math.MaxInt, 1)) != 32 {
		t.Error("sizes far out")
	}
	if !bytes.Equal(Hash(32, 1, long[:65535]), sha.Sum(byHand(1, [][]byte{long[:65535]}))) {
		t.Error("the longest part")
	}
}

// P2.1
func TestNumber(t *testing.T) {
	cases := []struct {
		n    int
		want []byte
	}{
		{0, []byte{0, 0, 0, 0, 0, 0, 0, 0}},
		{1, []byte{0, 0, 0, 0, 0, 0, 0, 1}},
		{255, []byte{0, 0, 0, 0, 0, 0, 0, 255}},
		{256, []byte{0, 0, 0, 0, 0, 0, 1, 0}},
		{0x0102030405060708, []byte{1, 2, 3, 4, 5, 6, 7, 8}},
		{api.MaxTime, []byte{0, 4, 0, 0, 0, 0, 0, 0}},
		{math.MaxInt64, []byte{127, 255, 255, 255, 255, 255, 255, 255}},
		{-1, []byte{255, 255, 255, 255, 255, 255, 255, 255}},
		{-256, []byte{255, 255, 255, 255, 255, 255, 255, 0}},
		{math.MinInt64, []byte{128, 0, 0, 0, 0, 0, 0, 0}},
	}
	for _, c := range cases {
		if got := Number(c.n); !bytes.Equal(got, c.want) {
			t.Errorf("Number(%d): %v, not %v", c.n, got, c.want)
		}
	}
}

// P2.2: there and back, at every tag, with parts of all sorts.
func TestSplitOfText(t *testing.T) {
	source := rand.New(rand.NewSource(1))
	for tag := range 256 {
		for range 20 {
			parts := make([][]byte, source.Intn(6))
			for i := range parts {
				parts[i] = make([]byte, source.Intn(4)*source.Intn(200))
				source.Read(parts[i])
			}
			text, errno := Text(tag, parts...)
			if errno != api.OK || !bytes.Equal(text, byHand(tag, parts)) {
				t.Fatalf("Text(%d, %v): %v", tag, parts, errno)
			}
			if gotTag, got, errno := Split(text); errno != api.OK || gotTag != tag || !same(got, parts) {
				t.Fatalf("Split of Text(%d, %v): %d, %v, %v", tag, parts, gotTag, got, errno)
			}
		}
	}
}

// P2.2: the longest parts, many of them.
func TestSplitOfLongText(t *testing.T) {
	parts := make([][]byte, 40)
	for i := range parts {
		parts[i] = bytes.Repeat([]byte{byte(i)}, 65535-i%2)
	}
	text, errno := Text(3, parts...)
	if errno != api.OK {
		t.Fatal(errno)
	}
	if tag, got, errno := Split(text); errno != api.OK || tag != 3 || !same(got, parts) {
		t.Fatal("not the parts", errno)
	}
}

// P2.2: unlike tags or parts, unlike texts; small parts that look like lengths are tried in all ways.
func TestUnlikeTexts(t *testing.T) {
	small := [][]byte{nil, {0}, {1}, {0, 0}, {0, 1}, {1, 0}, {0, 0, 0}, {0, 1, 0}}
	rows := [][][]byte{nil}
	for from, length := 0, 0; length < 3; length++ {
		to := len(rows)
		for _, r := range rows[from:to] {
			for _, p := range small {
				rows = append(rows, append(append([][]byte{}, r...), p))
			}
		}
		from = to
	}
	seen := map[string]string{}
	for tag := range 3 {
		for i, parts := range rows {
			text, errno := Text(tag, parts...)
			if errno != api.OK {
				t.Fatal(errno)
			}
			name := strconv.Itoa(tag) + "/" + strconv.Itoa(i)
			if other, ok := seen[string(text)]; ok {
				t.Fatalf("%s and %s have one text: %v", other, name, text)
			}
			seen[string(text)] = name
		}
	}
	if len(seen) != 3*(1+8+64+512) {
		t.Fatal(len(seen), "texts")
	}
}

// Rule 'Memory': what is handed in stays, the room behind its end too.
func TestArgumentsStay(t *testing.T) {
	room := []byte{1, 0, 2, 5, 6, 0, 0, 8, 8, 8}
	want := bytes.Clone(room)
	parts := [][]byte{room[:3], room[3:5], nil, room[9:]}
	Text(1, parts[:3]...)
	Hash(32, 1, parts[:3]...)
	Split(room[:7])
	if !bytes.Equal(room, want) || !bytes.Equal(parts[3], []byte{8}) || parts[2] != nil || len(parts[1]) != 2 {
		t.Error("an argument has changed")
	}
}

// Rule 'Memory': no part shares memory, spare room too, with the text or with another part.
func TestAnswersAreNewMemory(t *testing.T) {
	parts := [][]byte{[]byte("ab"), nil, []byte("cde"), {1}}
	text, _ := Text(4, parts...)
	again, _ := Text(4, parts...)
	clear(again[:cap(again)])
	if !bytes.Equal(text, byHand(4, parts)) || string(parts[0]) != "ab" {
		t.Error("two texts share memory")
	}
	_, got, _ := Split(text)
	for i := range got {
		kept := append([]byte{}, got[i]...)
		whole := got[i][:cap(got[i])]
		for j := range whole {
			whole[j] ^= 0xff
		}
		for k := range got {
			if k != i && !bytes.Equal(got[k], parts[k]) {
				t.Errorf("parts %d and %d share memory", i, k)
			}
		}
		copy(got[i], kept)
	}
	if !bytes.Equal(text, byHand(4, parts)) {
		t.Error("a part shares memory with the text")
	}
	a, b := Number(5), Number(5)
	clear(a[:cap(a)])
	if !bytes.Equal(b, []byte{0, 0, 0, 0, 0, 0, 0, 5}) {
		t.Error("two numbers share memory")
	}
}
