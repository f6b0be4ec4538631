package tell

import (
	"bytes"
	"math"
	"math/rand"
	"slices"
	"strings"
	"testing"

	"annals/api"
)

// spelledEnd is a part's bytes, by hand.
func spelledEnd(p api.Part) []byte {
	b := number(p.Kind)
	switch p.Kind {
	case 1:
		return slices.Concat(b, text(p.ID), text(p.Key), number(p.Since))
	case 2:
		return slices.Concat(b, number(p.Depth), text(p.Prefix), number(p.Newest), p.Left, p.Right)
	case 3:
		return slices.Concat(b, number(p.Depth), text(p.Prefix), number(p.Newest), spelledEnd(p.Kids[0]), spelledEnd(p.Kids[1]))
	}
	return b
}

// spelledWay is a way's bytes, by hand.
func spelledWay(p api.Path) []byte {
	b := number(len(p.Hops))
	for _, h := range p.Hops {
		b = slices.Concat(b, number(h.Depth), number(h.Newest), h.Sibling)
	}
	return append(b, spelledEnd(p.End)...)
}

// spelledRecord is a record's bytes, by hand.
func spelledRecord(r api.Record) []byte {
	b := slices.Concat(number(r.Epoch), number(r.Time), text(r.Tree), number(r.Count), text(r.List))
	for _, link := range r.Links {
		b = append(b, text(link)...)
	}
	return b
}

// spelledSeen is the bytes of looks at records that may be, by hand.
func spelledSeen(seen [][]api.Record) []byte {
	b := number(len(seen))
	for _, records := range seen {
		b = append(b, number(len(records))...)
		for _, r := range records {
			b = append(b, text(spelledRecord(r))...)
		}
	}
	return b
}

// spelledReply is a reply's bytes, by hand, of records that may be.
func spelledReply(kind int, r api.Reply) []byte {
	b := text(spelledAnswer(kind, r.Answer))
	if r.Answer.Code != 0 {
		return b
	}
	switch kind {
	case 3, 5:
		return append(b, spelledWay(r.Proof.Way)...)
	case 4:
		return slices.Concat(b, spelledWay(r.Proof.Way), spelledSeen(r.Proof.Seen))
	case 6:
		return append(b, spelledEnd(r.Proof.Tree)...)
	case 7:
		b = append(b, number(len(r.Proof.Lists))...)
		for _, l := range r.Proof.Lists {
			b = append(b, number(len(l))...)
			for _, digest := range l {
				b = append(b, text(digest)...)
			}
		}
		return append(b, spelledSeen(r.Proof.Seen)...)
	case 10:
		b = append(b, number(len(r.Proof.Ways))...)
		for _, w := range r.Proof.Ways {
			b = append(b, spelledWay(w)...)
		}
		return append(b, spelledSeen(r.Proof.Seen)...)
	}
	return b
}

// size is that of most digests here.
const size = 2

func leaf(id string) api.Part {
	return api.Part{Kind: api.EndLeaf, ID: []byte(id), Key: []byte("k"), Since: 3}
}

// someWay is a way with that many hops.
func someWay(hops int) api.Path {
	p := api.Path{End: leaf("a")}
	for i := range hops {
		p.Hops = append(p.Hops, api.Hop{Depth: i, Newest: 5, Sibling: []byte{8, 9}})
	}
	return p
}

// someTree is an open fork of a closed one and a leaf.
func someTree() api.Part {
	closed := api.Part{Kind: api.EndClosed, Depth: 9, Prefix: []byte{0, 128}, Newest: 4, Left: []byte{1, 2}, Right: []byte{3, 4}}
	return api.Part{Kind: api.EndOpen, Newest: 4, Kids: []api.Part{closed, leaf("b")}}
}

// someRecord is the record of an epoch, that may be.
func someRecord(epoch int) api.Record {
	r := api.Record{Epoch: epoch, Time: 258, Tree: []byte{1, 2}, Count: 7, List: []byte{3, 4}}
	for power := 1; power <= epoch; power *= 2 {
		if epoch%power == 0 {
			r.Links = append(r.Links, []byte{byte(power), 6})
		}
	}
	return r
}

// someSeen is looks at so many records each.
func someSeen(counts ...int) [][]api.Record {
	var seen [][]api.Record
	for _, n := range counts {
		var records []api.Record
		for i := range n {
			records = append(records, someRecord((7*i+6)%256))
		}
		seen = append(seen, records)
	}
	return seen
}

// someLists is lists of so many digests of a length each.
func someLists(lists, digests, length int) [][][]byte {
	l := make([][][]byte, lists)
	for i := range l {
		for range digests {
			l[i] = append(l[i], bytes.Repeat([]byte{7}, length))
		}
	}
	return l
}

// someWays is so many ways.
func someWays(n int) []api.Path {
	var l []api.Path
	for i := range n {
		l = append(l, someWay(i%4))
	}
	return l
}

// some is a reply to each kind of requests.
func some(kind int) api.Reply {
	var r api.Reply
	r.Answer = samples()[0].a
	for _, s := range samples() {
		if s.kind == kind && s.a.Code == 0 {
			r.Answer = s.a
			if s.a.Present || len(s.a.Items) == 2 || len(s.a.Events) == 1 || len(s.b) == 1 {
				break
			}
		}
	}
	switch kind {
	case 3, 5:
		r.Proof.Way = someWay(2)
	case 4:
		r.Proof.Way, r.Proof.Seen = someWay(1), someSeen(0, 1, 3)
	case 6:
		r.Proof.Tree = someTree()
	case 7:
		r.Proof.Lists, r.Proof.Seen = [][][]byte{{{1, 2}, {3, 4}}, nil, {{5, 6}}}, someSeen(2, 0, 1)
	case 10:
		r.Proof.Ways, r.Proof.Seen = someWays(3), someSeen(0, 2)
	}
	return r
}

// P26.2: the bytes of each kind, spelled out.
func TestEncodeByHand(t *testing.T) {
	record := "\x0e\x00\x02\x01\x02\x01\x02\x01\x02\x01\x07\x01\x02\x03\x04"[1:]
	zero := api.Record{Time: 258, Tree: []byte{1, 2}, Count: 7, List: []byte{3, 4}}
	way := api.Path{Hops: []api.Hop{{Depth: 1, Newest: 5, Sibling: []byte{8, 9}}}, End: leaf("a")}
	wayBytes := "\x01\x01" + "\x01\x01\x01\x05\x08\x09" + "\x01\x01\x01\x01a\x01\x01k\x01\x03"
	for _, c := range []struct {
		kind int
		r    api.Reply
		b    string
	}{
		{0, api.Reply{Answer: api.Answer{Code: api.ErrShort}}, "\x01\x02\x01\x03"},
		{8, api.Reply{}, "\x01\x01\x00"}, {9, api.Reply{}, "\x01\x01\x00"}, {2, api.Reply{}, "\x01\x01\x00"}, {0, api.Reply{}, "\x01\x01\x00"}, {99, api.Reply{}, "\x01\x01\x00"},
		{1, api.Reply{Answer: api.Answer{Epoch: 3}}, "\x01\x03\x00\x01\x03"},
		{3, api.Reply{}, "\x01\x02\x00\x00" + "\x00\x00"},
		{3, api.Reply{Answer: api.Answer{Present: true, Since: 1}, Proof: api.Proof{Way: way}}, "\x01\x05\x00\x01\x00\x01\x01" + wayBytes},
		{5, api.Reply{Proof: api.Proof{Way: way}}, "\x01\x03\x00\x00\x00" + wayBytes},
		{4, api.Reply{Proof: api.Proof{Way: way, Seen: [][]api.Record{nil, {zero, zero}}}}, "\x01\x03\x00\x00\x00" + wayBytes + "\x01\x02\x00\x01\x02\x01\x0e" + record + "\x01\x0e" + record},
		{6, api.Reply{Proof: api.Proof{Tree: someTree()}}, "\x01\x03\x00\x00\x00" + "\x01\x03\x00\x00\x01\x04" + "\x01\x02\x01\x09\x01\x02\x00\x80\x01\x04\x01\x02\x03\x04" + "\x01\x01\x01\x01b\x01\x01k\x01\x03"},
		{6, api.Reply{}, "\x01\x03\x00\x00\x00\x00"},
		{10, api.Reply{}, "\x01\x03\x00\x00\x00\x00\x00"},
		{10, api.Reply{Proof: api.Proof{Ways: []api.Path{way, {}}, Seen: [][]api.Record{{zero}}}}, "\x01\x03\x00\x00\x00" + "\x01\x02" + wayBytes + "\x00\x00" + "\x01\x01\x01\x01\x01\x0e" + record},
		{7, api.Reply{}, "\x01\x03\x00\x00\x00\x00\x00"},
		{7, api.Reply{Proof: api.Proof{Lists: [][][]byte{{{1, 2}, nil}, nil}, Seen: [][]api.Record{{zero}}}}, "\x01\x03\x00\x00\x00" + "\x01\x02\x01\x02\x01\x02\x01\x02\x00\x00" + "\x01\x01\x01\x01\x01\x0e" + record},
	} {
		if len(record) != 14 {
			t.Fatal(len(record))
		}
		if b := Encode(size, c.kind, c.r); string(b) != c.b || string(spelledReply(c.kind, c.r)) != c.b {
			t.Errorf("%d: %q, not %q", c.kind, b, c.b)
		}
		taken(t, size, c.kind, []byte(c.b), c.r)
	}
}

// taken has Decode take bytes as a reply.
func taken(t *testing.T, size, kind int, b []byte, want api.Reply) {
	t.Helper()
	if r, errno := Decode(size, kind, b); errno != api.OK || told(r) != told(want) {
		t.Fatalf("%d: %+v, %v, not %+v", kind, r, errno, want)
	}
}

// refused has Decode take no reply of bytes.
func refused(t *testing.T, what string, size, kind int, b []byte) {
	t.Helper()
	if r, errno := Decode(size, kind, b); errno != api.ErrForm || told(r) != told(api.Reply{}) {
		t.Fatalf("%s: %d, %q: %+v, %v", what, kind, b, r, errno)
	}
}

// P26.2, P26.3: a reply is read as it was written; no beginning of it, and nothing with more behind it.
func TestDecodeOfEncode(t *testing.T) {
	for _, kind := range kinds {
		r := some(kind)
		if kind < 1 || kind > 10 {
			r = api.Reply{}
		}
		b := Encode(size, kind, r)
		if !bytes.Equal(b, spelledReply(kind, r)) {
			t.Fatalf("%d: %q, not %q", kind, b, spelledReply(kind, r))
		}
		taken(t, size, kind, b, r)
		for n := range b {
			refused(t, "a beginning", size, kind, b[:n])
		}
		for _, left := range []string{"\x00", "\x01\x00", "\xff", string(b)} {
			refused(t, "left", size, kind, append(bytes.Clone(b), left...))
		}
	}
}

// P26.2: an error has no proof, of any kind and size.
func TestErrorsAlone(t *testing.T) {
	for _, kind := range kinds {
		for _, n := range []int{size, 0, -1, 33, math.MaxInt} {
			for _, code := range []api.Errno{1, 83, 300} {
				r := some(min(max(kind, 1), 10))
				r.Answer = api.Answer{Code: code, Present: true, Key: []byte("k"), More: true}
				b := Encode(n, kind, r)
				if !bytes.Equal(b, text(number(int(code)))) {
					t.Fatalf("%d: %q", kind, b)
				}
				taken(t, n, kind, b, api.Reply{Answer: api.Answer{Code: code}})
				refused(t, "a proof behind an error", n, kind, append(b, 0))
			}
		}
	}
}

// P26.2: what the kind's proof has not is not written.
func TestEncodeOfOtherFields(t *testing.T) {
	full := api.Proof{Way: someWay(1), Ways: someWays(2), Tree: someTree(), Lists: someLists(2, 1, 2), Seen: someSeen(1)}
	for _, kind := range kinds {
		r := api.Reply{Answer: some(3).Answer, Proof: full}
		if b := Encode(size, kind, r); !bytes.Equal(b, spelledReply(kind, r)) {
			t.Errorf("%d: %q", kind, b)
		}
	}
}

// P26.2: a record that may not be is an empty text; no reply has one.
func TestRecordsThatMayNotBe(t *testing.T) {
	good := someRecord(6)
	edits := []func(r *api.Record){
		func(r *api.Record) { r.Epoch = -1 }, func(r *api.Record) { r.Epoch = 256 }, func(r *api.Record) { r.Time = api.MaxTime + 1 },
		func(r *api.Record) { r.Count = 33 }, func(r *api.Record) { r.Tree = []byte{1} }, func(r *api.Record) { r.List = nil },
		func(r *api.Record) { r.Links = r.Links[:1] }, func(r *api.Record) { r.Links = [][]byte{{1, 2}, {3}} },
	}
	for i, edit := range edits {
		bad := good
		edit(&bad)
		r := api.Reply{Proof: api.Proof{Seen: [][]api.Record{{good, bad, good}}}}
		want := slices.Concat([]byte("\x01\x03\x00\x00\x00\x00\x01\x01\x01\x03"), text(spelledRecord(good)), []byte{0}, text(spelledRecord(good)))
		b := Encode(size, 7, r)
		if !bytes.Equal(b, want) {
			t.Errorf("edit %d: %q, not %q", i, b, want)
		}
		refused(t, "an empty record", size, 7, b)
		whole := slices.Concat([]byte("\x01\x03\x00\x00\x00\x00\x01\x01\x01\x01"), text(spelledRecord(bad)))
		refused(t, "a record that may not be", size, 7, whole)
	}
	// Of another size all records may not be.
	for _, n := range []int{math.MinInt, -1, 0, 1, 3, 33, math.MaxInt} {
		if b := Encode(n, 7, api.Reply{Proof: api.Proof{Seen: someSeen(2, 1)}}); string(b) != "\x01\x03\x00\x00\x00\x00\x01\x02\x01\x02\x00\x00\x01\x01\x00" {
			t.Errorf("%d: %q", n, b)
		}
	}
	long := append(spelledRecord(good), 0)
	refused(t, "more behind a record", size, 7, slices.Concat([]byte("\x01\x03\x00\x00\x00\x00\x01\x01\x01\x01"), text(long)))
	refused(t, "a long record", size, 7, slices.Concat([]byte("\x01\x03\x00\x00\x00\x00\x01\x01\x01\x01"), text(make([]byte, 100000))))
}

// P26.2: so many lists, digests, bytes, looks, records and ways, and no more.
func TestDecodeBounds(t *testing.T) {
	for _, c := range []struct {
		kind       int
		most, over api.Proof
	}{
		{7, api.Proof{Lists: someLists(32, 1, 2)}, api.Proof{Lists: someLists(33, 1, 2)}},
		{7, api.Proof{Lists: someLists(32, 32, 32)}, api.Proof{Lists: someLists(32, 33, 32)}},
		{7, api.Proof{Lists: someLists(1, 32, 1)}, api.Proof{Lists: someLists(1, 33, 1)}},
		{7, api.Proof{Lists: someLists(1, 1, 32)}, api.Proof{Lists: someLists(1, 1, 33)}},
		{7, api.Proof{Lists: someLists(2, 2, 0)}, api.Proof{Lists: someLists(2, 2, 1000)}},
		{7, api.Proof{Seen: someSeen(make([]int, 64)...)}, api.Proof{Seen: someSeen(make([]int, 65)...)}},
		{7, api.Proof{Seen: someSeen(64)}, api.Proof{Seen: someSeen(65)}},
		{7, api.Proof{Seen: someSeen(0, 64)}, api.Proof{Seen: someSeen(0, 65)}},
		{4, api.Proof{Seen: someSeen(slices.Repeat([]int{64}, 64)...)}, api.Proof{Seen: someSeen(slices.Repeat([]int{64}, 65)...)}},
		{4, api.Proof{Seen: someSeen(64)}, api.Proof{Seen: someSeen(65)}},
		{10, api.Proof{Seen: someSeen(make([]int, 64)...)}, api.Proof{Seen: someSeen(make([]int, 65)...)}},
		{10, api.Proof{Ways: someWays(64)}, api.Proof{Ways: someWays(65)}},
		{10, api.Proof{Ways: make([]api.Path, 64)}, api.Proof{Ways: make([]api.Path, 65)}},
		{3, api.Proof{Way: someWay(4096)}, api.Proof{Way: someWay(4097)}},
		{10, api.Proof{Ways: []api.Path{someWay(4096), {}}}, api.Proof{Ways: []api.Path{{}, someWay(4097)}}},
	} {
		most, over := api.Reply{Proof: c.most}, api.Reply{Proof: c.over}
		for _, r := range []api.Reply{most, over} {
			if !bytes.Equal(Encode(size, c.kind, r), spelledReply(c.kind, r)) {
				t.Fatalf("%d: Encode", c.kind)
			}
		}
		taken(t, size, c.kind, Encode(size, c.kind, most), most)
		refused(t, "over", size, c.kind, Encode(size, c.kind, over))
	}
	for _, kind := range []int{6, 10} {
		r := api.Reply{Answer: api.Answer{Items: make([]api.Item, 33)}}
		refused(t, "33 items", size, kind, Encode(size, kind, r))
		r.Answer.Items = r.Answer.Items[:32]
		taken(t, size, kind, Encode(size, kind, r), r)
	}
	r := api.Reply{Answer: api.Answer{Events: make([]api.Event, 33)}}
	refused(t, "33 events", size, 7, Encode(size, 7, r))
}

// P26.2: an answer's text that ReadAnswer does not take, or not to its end, or that is too long.
func TestDecodeAnswers(t *testing.T) {
	for _, kind := range kinds {
		r := some(min(max(kind, 1), 10))
		if kind < 1 || kind > 10 {
			r = api.Reply{}
		}
		answer := spelledAnswer(kind, r.Answer)
		proof := spelledReply(kind, r)[len(text(answer)):]
		for _, left := range [][]byte{{0}, {1}, make([]byte, 1000), make([]byte, 1<<16-len(answer)), make([]byte, 1<<16), make([]byte, 1<<17)} {
			refused(t, "left in the answer", size, kind, slices.Concat(text(append(bytes.Clone(answer), left...)), proof))
		}
		for n := range answer {
			refused(t, "a beginning of the answer", size, kind, slices.Concat(text(answer[:n]), proof))
		}
		for _, wrong := range []string{"", "\x09", "\x01\x00", "\x04\x80\x00\x00\x01", "\x00\x02"} {
			refused(t, "no answer", size, kind, slices.Concat(text([]byte(wrong)), proof))
		}
		for _, wrong := range []string{"", "\x09", "\x01\x00", "\x04\xff\xff\xff\xff", "\x08\x40\x00\x00\x00\x00\x00\x00\x00"} {
			refused(t, "no text", size, kind, []byte(wrong))
		}
	}
}

// P26.2: a proof that path.Read, span.Read or the codec does not take.
func TestDecodeProofs(t *testing.T) {
	answers := map[int]string{3: "\x01\x02\x00\x00", 4: "\x01\x03\x00\x00\x00", 5: "\x01\x03\x00\x00\x00", 6: "\x01\x03\x00\x00\x00", 7: "\x01\x03\x00\x00\x00", 10: "\x01\x03\x00\x00\x00"}
	open := "\x01\x03\x00\x00\x00"
	z := strings.Repeat("\x00", 400)
	for kind, wrongs := range map[int][]string{
		3:  {"\x00\x01\x03", "\x00\x01\x04", "\x09", "\x00\x03\x01\x00\x01", "\x01\x01\x00\x00\x08", "\x00\x01\x01\x02\x01\x2d" + z},
		5:  {"\x00\x01\x03", "\x00\x01\x03\x00\x00\x00\x00\x00", "\x00\x01\x00"},
		4:  {"\x00\x01\x03\x00", "\x00\x00\x01\x41" + z, "\x00\x00\x01\x01\x01\x41" + z, "\x00\x00\x01\x00", "\x00\x00\x01\x01\x09", "\x00\x00\x01\x01\x01\x01\x09"},
		6:  {"\x01\x04", "\x01\x03", open + "\x00", "\x01\x00", "\x01\x02\x00\x00\x00\x01\x02\x03", strings.Repeat(open, 2047) + strings.Repeat("\x00", 2050)},
		7:  {"\x01\x21" + z, "\x01\x01\x01\x21" + z, "\x01\x01\x01\x01\x01\x21" + z, "\x01\x01\x09", "\x01\x01\x01\x01\x09", "\x00\x01\x41" + z, "\x00\x09", "\x00\x01\x01\x09"},
		10: {"\x01\x41" + z + z, "\x01\x01\x00\x01\x03\x00", "\x09", "\x00\x01\x41" + z, "\x01\x02\x00\x00\x09\x00", "\x01\x01\x00\x00\x09"},
	} {
		for _, wrong := range wrongs {
			refused(t, "wrong", size, kind, []byte(answers[kind]+wrong))
		}
	}
	for count, right := range map[string]bool{
		strings.Repeat(open, 2047) + strings.Repeat("\x00", 2048):                     true, // 4095 parts
		strings.Repeat(open, 2048) + strings.Repeat("\x00", 2049):                     false,
		strings.Repeat(open, 2047) + strings.Repeat("\x00", 2047) + open + "\x00\x00": false,
	} {
		if r, errno := Decode(size, 6, []byte(answers[6]+count)); (errno == api.OK) != right || errno == api.OK && r.Proof.Tree.Kind != api.EndOpen {
			t.Error(errno, right)
		}
	}
}

// P26.2: of a size that is none there are no ways, trees and records; what has none of these is taken.
func TestDecodeSizes(t *testing.T) {
	for _, n := range []int{math.MinInt, -1, 0, 33, math.MaxInt} {
		for _, kind := range []int{3, 4, 5, 6} {
			refused(t, "size", n, kind, Encode(n, kind, api.Reply{}))
			refused(t, "size", n, kind, Encode(size, kind, some(kind)))
		}
		refused(t, "size", n, 10, Encode(n, 10, api.Reply{Proof: api.Proof{Ways: make([]api.Path, 1)}}))
		for _, kind := range []int{7, 10} {
			refused(t, "size", n, kind, Encode(size, kind, api.Reply{Proof: api.Proof{Seen: someSeen(1)}}))
			taken(t, n, kind, Encode(n, kind, api.Reply{}), api.Reply{})
		}
		for _, kind := range []int{1, 2, 8, 9, 0, 11} {
			taken(t, n, kind, Encode(n, kind, api.Reply{}), api.Reply{})
		}
	}
	for _, n := range []int{1, 3, 32} {
		for _, kind := range []int{3, 4, 5, 6, 7, 10} {
			refused(t, "another size", n, kind, Encode(size, kind, some(kind)))
		}
	}
}

// P26.2: of all bytes whatever Decode ends, and Encode of what it tells is the bytes.
func TestDecodeOfWhatever(t *testing.T) {
	r := rand.New(rand.NewSource(1))
	right := 0
	var ordinary [12]api.Reply
	for kind := range ordinary {
		ordinary[kind] = some(min(max(kind, 1), 10))
	}
	for range 60000 {
		kind := r.Intn(12)
		reply := ordinary[kind]
		if r.Intn(3) > 0 {
			reply.Answer = drawnAnswer(r, kind)
		}
		b := Encode(size, kind, reply)
		for range 1 + r.Intn(3) {
			b[r.Intn(len(b))] = byte(r.Intn(6))
		}
		got, errno := Decode(size, kind, b)
		if errno != api.OK {
			refused(t, "whatever", size, kind, b)
			continue
		}
		right++
		if again := Encode(size, kind, got); !bytes.Equal(again, b) {
			t.Fatalf("%d, %q: %+v, %q", kind, b, got, again)
		}
	}
	if right < 1000 {
		t.Error("few were taken:", right)
	}
}

// The rule 'Ends': things made by hand, and bytes that say more than there is.
func TestEnds(t *testing.T) {
	deep := leaf("a")
	for range 10000 {
		deep = api.Part{Kind: api.EndOpen, Kids: []api.Part{{}, deep}}
	}
	odd := []api.Part{deep, {Kind: api.EndOpen}, {Kind: api.EndOpen, Kids: make([]api.Part, 3)}, {Kind: -5}, {Kind: math.MaxInt, Kids: []api.Part{deep}}, {Kind: api.EndClosed, Depth: -9, Newest: math.MinInt}}
	for _, part := range odd {
		for _, kind := range kinds {
			for _, n := range []int{size, 0, math.MaxInt} {
				p := api.Proof{Way: api.Path{End: part, Hops: make([]api.Hop, 3)}, Ways: []api.Path{{End: part}}, Tree: part, Lists: someLists(40, 40, 40), Seen: make([][]api.Record, 100)}
				b := Encode(n, kind, api.Reply{Proof: p})
				Decode(n, kind, b)
			}
		}
	}
	for _, kind := range kinds {
		for _, b := range [][]byte{make([]byte, 1<<20), bytes.Repeat([]byte{1}, 1<<20), bytes.Repeat([]byte{255}, 1<<20), append([]byte{1, 3, 0, 0, 0, 1, 64}, make([]byte, 1<<22)...)} {
			Decode(size, kind, b)
			ReadAnswer(kind, b)
		}
	}
}

// scribble writes over bytes, and over the room behind them.
func scribble(b []byte) {
	b = b[:cap(b)]
	for i := range b {
		b[i] ^= 0xa5
	}
}

// partLists is all lists of bytes of a part.
func partLists(p api.Part) [][]byte {
	out := [][]byte{p.ID, p.Key, p.Prefix, p.Left, p.Right}
	for _, kid := range p.Kids {
		out = append(out, partLists(kid)...)
	}
	return out
}

// lists is all lists of bytes of a reply.
func lists(r api.Reply) [][]byte {
	out := [][]byte{r.Answer.Key}
	for _, x := range r.Answer.Items {
		out = append(out, x.ID, x.Key)
	}
	for _, x := range r.Answer.Events {
		out = append(out, x.ID, x.Key)
	}
	out = append(out, partLists(r.Proof.Tree)...)
	for _, p := range append([]api.Path{r.Proof.Way}, r.Proof.Ways...) {
		for _, h := range p.Hops {
			out = append(out, h.Sibling)
		}
		out = append(out, partLists(p.End)...)
	}
	out = append(out, slices.Concat(r.Proof.Lists...)...)
	for _, x := range slices.Concat(r.Proof.Seen...) {
		out = append(append(out, x.Tree, x.List), x.Links...)
	}
	return out
}

// apart: writing over one list, and the room behind it, changes no other one.
func apart(t *testing.T, list [][]byte) {
	t.Helper()
	for i, b := range list {
		was := told(list[:i]) + told(list[i+1:])
		scribble(b)
		if told(list[:i])+told(list[i+1:]) != was {
			t.Fatal("two lists of one answer share memory")
		}
		scribble(b)
	}
}

// The rule 'Memory': nothing that is handed in is changed or kept, and each list is its own.
func TestMemory(t *testing.T) {
	for kind := range 11 {
		r := some(max(kind, 1))
		want := told(r)
		room := make([]byte, 3, 5000)
		a := Answer(room, kind, r.Answer)
		b := Encode(size, kind, r)
		were := told(a) + told(b)
		if told(r) != want || !bytes.Equal(room[:5000], make([]byte, 5000)) {
			t.Fatalf("%d: an argument is changed", kind)
		}
		for _, l := range lists(r) {
			scribble(l)
		}
		if told(a)+told(b) != were {
			t.Fatalf("%d: the reply is kept", kind)
		}
		scribble(a)
		scribble(b)
		if !bytes.Equal(room[:5000], make([]byte, 5000)) {
			t.Fatalf("%d: the bytes ahead are shared", kind)
		}
		r = some(max(kind, 1))
		readApart(t, kind, Encode(size, kind, r))
	}
}

// readApart has the reply of bytes, and its answer, share nothing with them.
func readApart(t *testing.T, kind int, b []byte) {
	t.Helper()
	whole := append(bytes.Clone(b), "behind"...)
	r, errno := Decode(size, kind, whole[:len(b)])
	if errno != api.OK || !bytes.Equal(whole, append(bytes.Clone(b), "behind"...)) {
		t.Fatalf("%d: an argument is changed", kind)
	}
	want := told(r)
	scribble(whole)
	if told(r) != want {
		t.Fatalf("%d: the bytes are kept", kind)
	}
	apart(t, lists(r))
	answer := append(Answer(nil, kind, r.Answer), "behind"...)
	was := bytes.Clone(answer)
	a, left, errno := ReadAnswer(kind, answer)
	if errno != api.OK || !bytes.Equal(answer, was) {
		t.Fatalf("%d: an argument is changed", kind)
	}
	scribble(answer)
	if told(a) != told(r.Answer) || string(left) != "behind" {
		t.Fatalf("%d: the answer's bytes are kept", kind)
	}
	apart(t, append(lists(api.Reply{Answer: a}), left))
}
