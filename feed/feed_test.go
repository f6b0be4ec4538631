package feed

import (
	"bytes"
	"fmt"
	"math"
	"math/rand"
	"slices"
	"testing"

	"annals/api"
	"annals/change"
	"annals/merkle"
	"annals/texts"
)

// cutsByHand takes a page change by change.
func cutsByHand(counts []int, index, limit int) []api.Cut {
	if limit < 1 || len(counts) == 0 || index < 0 || index > counts[0]-1 {
		return nil
	}
	var out []api.Cut
	taken, from := 0, index
	for epoch := 0; epoch < len(counts) && (epoch == 0 || counts[epoch] >= 1); epoch++ {
		for i := from; i < counts[epoch] && taken < limit; i++ {
			if i == from {
				out = append(out, api.Cut{From: from, To: from})
			}
			out[len(out)-1].To++
			taken++
		}
		from = 0
	}
	return out
}

// P19.1, example 1: the edges that are named, and numbers that would wrap round.
func TestCuts(t *testing.T) {
	cases := []struct {
		counts       []int
		index, limit int
		want         []api.Cut
	}{
		{[]int{2, 3}, 1, 3, []api.Cut{{From: 1, To: 2}, {From: 0, To: 2}}},
		{[]int{2, 3}, 0, 1, []api.Cut{{From: 0, To: 1}}},
		{[]int{2, 3}, 0, 2, []api.Cut{{From: 0, To: 2}}},
		{[]int{2, 3}, 0, 3, []api.Cut{{From: 0, To: 2}, {From: 0, To: 1}}},
		{[]int{2, 3}, 0, 5, []api.Cut{{From: 0, To: 2}, {From: 0, To: 3}}},
		{[]int{2, 3}, 0, 6, []api.Cut{{From: 0, To: 2}, {From: 0, To: 3}}},
		{[]int{5}, 2, 2, []api.Cut{{From: 2, To: 4}}},
		{[]int{5}, 4, 9, []api.Cut{{From: 4, To: 5}}},
		{[]int{1, 1, 1, 1}, 0, 3, []api.Cut{{From: 0, To: 1}, {From: 0, To: 1}, {From: 0, To: 1}}},
		{[]int{2, 3}, 1, 0, nil}, {[]int{2, 3}, 1, -1, nil}, {[]int{2, 3}, 1, math.MinInt, nil},
		{nil, 0, 1, nil}, {[]int{}, 0, 1, nil}, {nil, -1, 0, nil},
		{[]int{2, 3}, -1, 3, nil}, {[]int{2, 3}, 2, 3, nil}, {[]int{2, 3}, 3, 3, nil}, {[]int{2, 3}, math.MinInt, 3, nil}, {[]int{2, 3}, math.MaxInt, math.MaxInt, nil},
		{[]int{0, 3}, 0, 3, nil}, {[]int{-1, 3}, 0, 3, nil}, {[]int{-1, 3}, -1, 3, nil}, {[]int{-1, 3}, -2, 3, nil}, {[]int{math.MinInt}, 0, 1, nil}, {[]int{math.MinInt}, math.MinInt, 1, nil},
		{[]int{2, 0, 2}, 0, 9, []api.Cut{{From: 0, To: 2}}},
		{[]int{2, -1, 2}, 1, 9, []api.Cut{{From: 1, To: 2}}},
		{[]int{2, 1, math.MinInt, 2}, 1, 9, []api.Cut{{From: 1, To: 2}, {From: 0, To: 1}}},
		{[]int{2, 3}, 1, math.MaxInt, []api.Cut{{From: 1, To: 2}, {From: 0, To: 3}}},
		{[]int{math.MaxInt}, 0, math.MaxInt, []api.Cut{{From: 0, To: math.MaxInt}}},
		{[]int{math.MaxInt}, math.MaxInt - 1, math.MaxInt, []api.Cut{{From: math.MaxInt - 1, To: math.MaxInt}}},
		{[]int{math.MaxInt, math.MaxInt}, 5, math.MaxInt, []api.Cut{{From: 5, To: math.MaxInt}, {From: 0, To: 5}}},
		{[]int{math.MaxInt, 7}, math.MaxInt - 2, 4, []api.Cut{{From: math.MaxInt - 2, To: math.MaxInt}, {From: 0, To: 2}}},
		{[]int{math.MaxInt}, math.MaxInt, 1, nil},
	}
	for _, c := range cases {
		if got := Cuts(c.counts, c.index, c.limit); !slices.Equal(got, c.want) {
			t.Errorf("Cuts(%v, %d, %d): %v, not %v", c.counts, c.index, c.limit, got, c.want)
		}
	}
}

// P19.1: all short rows of small counts, at all small indexes and limits.
func TestCutsOfAll(t *testing.T) {
	for n := range 5 {
		for number := range power(5, n) {
			counts := make([]int, n)
			for i := range counts {
				counts[i] = number%5 - 1
				number /= 5
			}
			for index := -2; index < 5; index++ {
				for limit := -1; limit < 15; limit++ {
					if got, want := Cuts(counts, index, limit), cutsByHand(counts, index, limit); !slices.Equal(got, want) {
						t.Fatalf("Cuts(%v, %d, %d): %v, not %v", counts, index, limit, got, want)
					}
				}
			}
		}
	}
}

func power(x, n int) int {
	out := 1
	for range n {
		out *= x
	}
	return out
}

// Rule 'Memory': the counts are not changed, and each answer is a list of its own.
func TestCutsMemory(t *testing.T) {
	counts := []int{2, 3, 4}
	for range 2 {
		got := Cuts(counts[:2], 1, 9)
		if !slices.Equal(got, []api.Cut{{From: 1, To: 2}, {From: 0, To: 3}}) || !slices.Equal(counts, []int{2, 3, 4}) {
			t.Fatal(got, counts)
		}
		clear(got[:cap(got)])
	}
}

// batches are as many as counts, their changes all unlike.
func batches(counts ...int) [][]api.Binding {
	out := make([][]api.Binding, len(counts))
	for epoch, count := range counts {
		for i := range count {
			out[epoch] = append(out[epoch], api.Binding{ID: fmt.Appendf(nil, "id %d %d", epoch, i), Key: fmt.Appendf(nil, "key %d", epoch*i)})
		}
	}
	return out
}

// rootByHand is the root over changes, by the document's words.
func rootByHand(size int, l []api.Binding) []byte {
	if len(l) == 0 {
		return texts.Hash(size, api.TagEmpty)
	}
	if len(l) == 1 {
		return texts.Hash(size, api.TagChange, l[0].ID, l[0].Key)
	}
	k := 1
	for 2*k < len(l) {
		k *= 2
	}
	return texts.Hash(size, api.TagPair, rootByHand(size, l[:k]), rootByHand(size, l[k:]))
}

// outsideByHand is the roots of the greatest parts of l, which begins at begin, that have no change of the cut.
func outsideByHand(size int, l []api.Binding, begin int, cut api.Cut) [][]byte {
	if begin+len(l) <= cut.From || cut.To <= begin {
		return [][]byte{rootByHand(size, l)}
	}
	if len(l) == 1 {
		return nil
	}
	k := 1
	for 2*k < len(l) {
		k *= 2
	}
	return append(outsideByHand(size, l[:k], begin, cut), outsideByHand(size, l[k:], begin+k, cut)...)
}

// equalLists: the same lists of digests.
func equalLists(a, b [][][]byte) bool {
	return slices.EqualFunc(a, b, func(x, y [][]byte) bool { return slices.EqualFunc(x, y, bytes.Equal) })
}

// P19.1: Prove is of each cut the roots beside it.
func TestProve(t *testing.T) {
	for _, size := range []int{1, 4, 32} {
		for _, counts := range [][]int{{1}, {5}, {32}, {2, 3}, {3, 1, 7, 2}, {7, 0, 7}, {4, 32, 1}} {
			l := batches(counts...)
			for index := range counts[0] {
				for limit := 1; limit < 40; limit++ {
					var want [][][]byte
					for i, cut := range cutsByHand(counts, index, limit) {
						want = append(want, outsideByHand(size, l[i], 0, cut))
					}
					if got := Prove(size, l, index, limit); !equalLists(got, want) {
						t.Fatalf("Prove(%d, %v, %d, %d): %v, not %v", size, counts, index, limit, got, want)
					}
				}
			}
		}
	}
}

// P19.1: where there is no cut, nothing is told.
func TestProveOfNothing(t *testing.T) {
	l := batches(2, 3)
	cases := []struct {
		batches      [][]api.Binding
		index, limit int
	}{
		{l, 0, 0}, {l, 0, -1}, {l, 0, math.MinInt}, {l, -1, 1}, {l, 2, 1}, {l, math.MaxInt, math.MaxInt}, {l, math.MinInt, 5},
		{nil, 0, 1}, {[][]api.Binding{}, 0, 1}, {[][]api.Binding{nil, l[0]}, 0, 1}, {[][]api.Binding{{}}, 0, 1},
	}
	for _, c := range cases {
		if got := Prove(4, c.batches, c.index, c.limit); len(got) != 0 {
			t.Errorf("Prove(4, %v, %d, %d): %v", c.batches, c.index, c.limit, got)
		}
	}
	if got := Prove(4, [][]api.Binding{l[0], nil, l[1]}, 0, 9); len(got) != 1 || len(got[0]) != 0 {
		t.Error("a batch without bindings does not end the page:", got)
	}
	if got := Prove(4, l, 0, math.MaxInt); len(got) != 2 || len(got[0]) != 0 || len(got[1]) != 0 {
		t.Error("all changes:", got)
	}
}

// P19.1: of a size that may not be, or a text that is too long, Prove is merkle's answer too, and ends.
func TestProveOfWhatMayNotBe(t *testing.T) {
	l := batches(3, 4)
	l[0][2].Key = make([]byte, 65536)
	for _, size := range []int{math.MinInt, -1, 0, 1, 4, 33, math.MaxInt} {
		want := [][][]byte{merkle.Range(size, change.Leaves(size, l[0]), 1, 3), merkle.Range(size, change.Leaves(size, l[1]), 0, 1)}
		if got := Prove(size, l, 1, 3); !equalLists(got, want) {
			t.Errorf("size %d: %v, not %v", size, got, want)
		}
	}
}

// scribble writes over all of a list, its spare room too.
func scribble(b []byte) {
	b = b[:cap(b)]
	for i := range b {
		b[i] ^= 0xee
	}
}

// Rule 'Memory': what is told shares nothing with the batches, with another answer, or among itself.
func TestProveMemory(t *testing.T) {
	l := batches(7, 9)
	l[0] = append(l[0], api.Binding{ID: []byte("behind")})[:7]
	handed := func() string { return fmt.Sprint(l, l[0][:8], cap(l[0])) }
	before := handed()
	want := Prove(16, l, 3, 9)
	var digests int
	for i, list := range want {
		digests += len(list)
		for j := range list {
			got := Prove(16, l, 3, 9)
			scribble(got[i][j])
			got[i][j] = want[i][j]
			if !equalLists(got, want) {
				t.Fatalf("digest %d of list %d shares memory with another one", j, i)
			}
			spare := got[i][:cap(got[i])]
			clear(spare)
			got[i] = want[i]
			if !equalLists(got, want) {
				t.Fatalf("list %d shares memory with another one", i)
			}
		}
	}
	if digests < 4 || handed() != before {
		t.Error("what was handed in has changed, or too few digests are told", digests)
	}
}

// page is all that Check is handed.
type page struct {
	size         int
	records      []api.Record
	index, limit int
	events       []api.Event
	lists        [][][]byte
}

// pageOf is what shows the page of batches: the first one is that of epoch first.
func pageOf(size, first int, l [][]api.Binding, index, limit int) page {
	p := page{size: size, index: index, limit: limit}
	counts := make([]int, len(l))
	for i := range l {
		counts[i] = len(l[i])
	}
	for i, cut := range cutsByHand(counts, index, limit) {
		p.records = append(p.records, api.Record{Epoch: first + i, Count: counts[i], List: rootByHand(size, l[i])})
		for k := cut.From; k < cut.To; k++ {
			p.events = append(p.events, api.Event{Epoch: first + i, Index: k, ID: bytes.Clone(l[i][k].ID), Key: bytes.Clone(l[i][k].Key)})
		}
		p.lists = append(p.lists, outsideByHand(size, l[i], 0, cut))
	}
	return p
}

func (p page) check() api.Errno {
	return Check(p.size, p.records, p.index, p.limit, p.events, p.lists)
}

// refused: the page is not shown.
func refused(t *testing.T, what string, p page) {
	t.Helper()
	if errno := p.check(); errno != api.ErrProof {
		t.Errorf("%s: %d", what, errno)
	}
}

// P19.2, P19.3: each page is taken with what Prove tells.
func TestCheck(t *testing.T) {
	for _, size := range []int{1, 4, 32} {
		for _, counts := range [][]int{{1}, {5}, {32}, {2, 3}, {3, 1, 7, 2}, {4, 32, 1}, {3, 4, 0, 2}} {
			l := batches(counts...)
			for index := range counts[0] {
				for limit := 1; limit < 45; limit++ {
					p := pageOf(size, 4, l, index, limit)
					if errno := p.check(); errno != api.OK {
						t.Fatalf("size %d, counts %v, index %d, limit %d: %d", size, counts, index, limit, errno)
					}
					p.lists = Prove(size, l, index, limit)
					if errno := p.check(); errno != api.OK {
						t.Fatalf("size %d, counts %v, index %d, limit %d, by Prove: %d", size, counts, index, limit, errno)
					}
				}
			}
		}
	}
}

// P19.3: so are batches of whatever bindings, at whatever limits.
func TestCheckOfWhatever(t *testing.T) {
	source := rand.New(rand.NewSource(1))
	for range 3000 {
		size := 1 + source.Intn(32)
		var l [][]api.Binding
		for range 1 + source.Intn(6) {
			var batch []api.Binding
			for range 1 + source.Intn(32) {
				b := api.Binding{ID: make([]byte, source.Intn(25)), Key: make([]byte, source.Intn(49))}
				source.Read(b.ID)
				source.Read(b.Key)
				batch = append(batch, b)
			}
			l = append(l, batch)
		}
		index, limit := source.Intn(len(l[0])), 1+source.Intn(100)
		p := pageOf(size, 1, l, index, limit)
		p.lists = Prove(size, l, index, limit)
		for i := range p.records {
			p.records[i].List = change.List(size, l[i])
		}
		if errno := p.check(); errno != api.OK {
			t.Fatalf("size %d, index %d, limit %d: %d", size, index, limit, errno)
		}
	}
}

// P19.2: there is no cut of the records' counts.
func TestCheckWithoutCuts(t *testing.T) {
	l := batches(3, 4)
	refused(t, "nothing at all", page{})
	refused(t, "no records", page{size: 4, limit: 1})
	refused(t, "no records, but an event", page{size: 4, limit: 1, events: []api.Event{{}}})
	for _, limit := range []int{0, -1, math.MinInt} {
		p := pageOf(4, 1, l, 1, 5)
		p.limit = limit
		refused(t, "a limit below 1", p)
		p.events = nil
		refused(t, "a limit below 1, no events", p)
		p.records, p.lists = nil, nil
		refused(t, "a limit below 1, nothing else", p)
	}
	for _, index := range []int{-1, 3, 4, math.MinInt, math.MaxInt} {
		p := pageOf(4, 1, l, 1, 5)
		p.index = index
		refused(t, "an index of no change", p)
		p.events = nil
		refused(t, "an index of no change, no events", p)
	}
	for _, count := range []int{0, -1, math.MinInt} {
		p := pageOf(4, 1, l, 0, 5)
		p.records[0].Count = count
		refused(t, "a first epoch without changes", p)
		p.events = nil
		refused(t, "a first epoch without changes, no events", p)
		p = pageOf(4, 1, l, 0, 9)
		p.records[1].Count = count
		refused(t, "a second epoch without changes", p)
		p.events = p.events[:3]
		refused(t, "a second epoch without changes, none of its events", p)
	}
	empty := page{size: 4, limit: 1, records: []api.Record{{Epoch: 1, List: rootByHand(4, nil)}}, lists: [][][]byte{nil}}
	refused(t, "an epoch without changes", empty)
}

// P19.2: there are as many records and lists as cuts.
func TestCheckOfOtherNumbers(t *testing.T) {
	l := batches(3, 4, 2)
	for _, limit := range []int{1, 2, 3, 6, 8, 9, math.MaxInt} {
		p := pageOf(4, 1, l, 1, limit)
		if p.check() != api.OK {
			t.Fatal(limit)
		}
		other := p
		other.lists = p.lists[:len(p.lists)-1]
		refused(t, "a list too few", other)
		other.lists = append(slices.Clone(p.lists), nil)
		refused(t, "a list too many", other)
		other.lists = nil
		refused(t, "no lists", other)
		other = p
		other.records = p.records[:len(p.records)-1]
		refused(t, "a record too few", other)
		other.lists = p.lists[:len(p.lists)-1]
		refused(t, "a record and a list too few", other)
		other = p
		other.records = append(slices.Clone(p.records), api.Record{Epoch: 9, Count: 1, List: rootByHand(4, l[2][:1])})
		if limit < math.MaxInt && len(p.events) == limit {
			refused(t, "a record too many", other)
			other.lists = append(slices.Clone(p.lists), nil)
			refused(t, "a record and a list too many", other)
		}
		other.records[len(p.records)] = api.Record{}
		refused(t, "an empty record too many", other)
		other.lists = append(slices.Clone(p.lists), nil)
		refused(t, "an empty record and a list too many", other)
	}
}

// P19.2: a page that the limit does not fill is one of all records' changes.
func TestCheckOfAll(t *testing.T) {
	l := batches(3, 4, 2)
	for _, limit := range []int{8, 9, 32, math.MaxInt} {
		p := pageOf(4, 1, l, 1, limit)
		if len(p.events) != 8 || p.check() != api.OK {
			t.Error("all", limit, len(p.events))
		}
	}
	p := pageOf(4, 1, l[:2], 1, 6)
	p.limit = 7
	if p.check() != api.OK {
		t.Error("all of two epochs")
	}
}

// P19.2: at another index or limit the cuts are others.
func TestCheckOfOtherPages(t *testing.T) {
	l := batches(5, 4, 6)
	for index := range 5 {
		for limit := 1; limit < 16; limit++ {
			p := pageOf(4, 1, l, index, limit)
			for other := -1; other < 7; other++ {
				q := p
				q.index = other
				if other != index {
					refused(t, "another index", q)
				}
			}
			for other := -1; other < len(p.events); other++ {
				q := p
				q.limit = other
				refused(t, "a smaller limit", q)
			}
			for other := limit + 1; other < 18; other++ {
				q := p
				q.limit = other
				counts := make([]int, len(q.records))
				for i, r := range q.records {
					counts[i] = r.Count
				}
				same := slices.Equal(cutsByHand(counts, index, limit), cutsByHand(counts, index, other))
				if errno := q.check(); (errno == api.OK) != same || errno != api.OK && errno != api.ErrProof {
					t.Errorf("index %d, limit %d, then %d: %d", index, limit, other, errno)
				}
			}
		}
	}
}

// P19.2: there is one event of each change, in order, each with its epoch's number and its own.
func TestCheckOfOtherEvents(t *testing.T) {
	p := pageOf(4, 3, batches(5, 4, 6), 2, 10)
	if p.check() != api.OK || len(p.events) != 10 || len(p.records) != 3 {
		t.Fatal("a right page")
	}
	changes := []func(*api.Event){
		func(e *api.Event) { e.Epoch++ }, func(e *api.Event) { e.Epoch-- }, func(e *api.Event) { e.Epoch = math.MinInt },
		func(e *api.Event) { e.Index++ }, func(e *api.Event) { e.Index-- }, func(e *api.Event) { e.Index = math.MaxInt },
		func(e *api.Event) { e.ID = nil }, func(e *api.Event) { e.ID[0]++ }, func(e *api.Event) { e.ID = append(e.ID, 0) }, func(e *api.Event) { e.ID = make([]byte, 65536) },
		func(e *api.Event) { e.Key = nil }, func(e *api.Event) { e.Key[0]++ }, func(e *api.Event) { e.Key = append(e.Key, 0) }, func(e *api.Event) { e.Key = make([]byte, 65536) },
		func(e *api.Event) { e.ID, e.Key = e.Key, e.ID }, func(e *api.Event) { e.ID, e.Key = append(e.ID, e.Key[0]), e.Key[1:] },
	}
	for i := range p.events {
		for k, change := range changes {
			other := pageOf(4, 3, batches(5, 4, 6), 2, 10)
			change(&other.events[i])
			refused(t, fmt.Sprintf("event %d, change %d", i, k), other)
		}
		other := p
		other.events = p.events[:i]
		refused(t, "the end is not there", other)
		other.events = p.events[i+1:]
		refused(t, "the beginning is not there", other)
		other.events = slices.Delete(slices.Clone(p.events), i, i+1)
		refused(t, "one is not there", other)
		other.events = slices.Insert(slices.Clone(p.events), i, p.events[i])
		refused(t, "one is there twice", other)
		if i > 0 {
			other.events = slices.Clone(p.events)
			other.events[i], other.events[i-1] = other.events[i-1], other.events[i]
			refused(t, "two have changed places", other)
		}
	}
	other := p
	other.events = append(slices.Clone(p.events), api.Event{Epoch: 5, Index: 3})
	refused(t, "one behind the end", other)
	other.events = append(slices.Clone(p.events), make([]api.Event, 1<<16)...)
	refused(t, "far too many", other)
	other.events = nil
	refused(t, "none", other)
}

// P19.2: what the list's root is folded of.
func TestCheckOfOtherLists(t *testing.T) {
	right := func() page { return pageOf(4, 3, batches(7, 4, 9), 2, 12) }
	digests := 0
	for i := range right().lists {
		for j := range right().lists[i] {
			digests++
			other := right()
			other.lists[i][j][3] ^= 1
			refused(t, "another digest", other)
			other = right()
			other.lists[i][j] = other.lists[i][j][:3]
			refused(t, "a short digest", other)
			other.lists[i][j] = append(right().lists[i][j], 0)
			refused(t, "a long digest", other)
			other.lists[i][j] = nil
			refused(t, "no digest", other)
			other = right()
			other.lists[i] = slices.Delete(other.lists[i], j, j+1)
			refused(t, "a digest too few", other)
			other = right()
			other.lists[i] = slices.Insert(other.lists[i], j, other.lists[i][j])
			refused(t, "a digest too many", other)
		}
		other := right()
		other.lists[i] = append(other.lists[i], other.records[i].List)
		refused(t, "a digest behind the end", other)
		other = right()
		slices.Reverse(other.lists[i])
		if len(other.lists[i]) > 1 {
			refused(t, "the other way round", other)
		}
	}
	if digests < 4 {
		t.Error("too few digests", digests)
	}
	other := right()
	other.lists[0], other.lists[2] = other.lists[2], other.lists[0]
	refused(t, "another epoch's list", other)
}

// P19.2: the record's Epoch, Count and List count, and nothing beside them.
func TestCheckOfOtherRecords(t *testing.T) {
	right := func() page { return pageOf(4, 3, batches(7, 4, 9), 2, 12) }
	faults := []func(*api.Record){
		func(r *api.Record) { r.Epoch++ }, func(r *api.Record) { r.Epoch = -1 },
		func(r *api.Record) { r.Count-- }, func(r *api.Record) { r.Count = 17 }, func(r *api.Record) { r.Count = 1 << 20 }, func(r *api.Record) { r.Count = 1<<20 + 1 }, func(r *api.Record) { r.Count = math.MaxInt },
		func(r *api.Record) { r.List[0] ^= 1 }, func(r *api.Record) { r.List[3] ^= 128 }, func(r *api.Record) { r.List = nil }, func(r *api.Record) { r.List = r.List[:3] }, func(r *api.Record) { r.List = append(r.List, 0) },
		func(r *api.Record) { *r = api.Record{} },
	}
	others := []func(*api.Record){
		func(r *api.Record) { r.Time = -7 }, func(r *api.Record) { r.Tree = []byte("no tree") }, func(r *api.Record) { r.Links = [][]byte{nil, []byte("no link")} },
	}
	for i := range right().records {
		for k, fault := range faults {
			p := right()
			fault(&p.records[i])
			refused(t, fmt.Sprintf("record %d, fault %d", i, k), p)
		}
		for k, change := range others {
			p := right()
			change(&p.records[i])
			if errno := p.check(); errno != api.OK {
				t.Errorf("record %d, change %d: %d", i, k, errno)
			}
		}
	}
	p := right()
	p.records[0], p.records[1] = p.records[1], p.records[0]
	refused(t, "two records have changed places", p)
	for i := range 2 {
		p := right()
		p.records[i].Count++
		refused(t, "one more change ahead of the page's end", p)
	}
	// One root stands for the ninth change, and might as well stand for two: that is what Fold tells.
	p = right()
	p.records[2].Count++
	if errno := p.check(); errno != api.OK {
		t.Error("one more change behind the page's end:", errno)
	}
	// Which epochs the records are of is the asker's: here only the events are held against them.
	for _, epoch := range []int{math.MinInt, -1, 0, 3, 300, math.MaxInt} {
		p := right()
		p.records[1].Epoch = epoch
		for i := range p.events {
			if p.events[i].Epoch == 4 {
				p.events[i].Epoch = epoch
			}
		}
		if errno := p.check(); errno != api.OK {
			t.Errorf("the second record is of epoch %d: %d", epoch, errno)
		}
	}
}

// P19.2: other sizes, and those that may not be.
func TestCheckOfOtherSizes(t *testing.T) {
	for _, size := range []int{math.MinInt, -1, 0, 1, 3, 5, 32, 33, math.MaxInt} {
		p := pageOf(4, 3, batches(7, 4, 9), 2, 12)
		p.size = size
		refused(t, "another size", p)
		p = pageOf(4, 3, batches(7), 0, 7)
		p.size = size
		refused(t, "another size, a whole epoch", p)
	}
	for _, size := range []int{math.MinInt, -1, 0, 33, math.MaxInt} {
		refused(t, "a size that may not be", pageOf(size, 3, batches(7, 4, 9), 2, 12))
		refused(t, "a size that may not be, one change", pageOf(size, 3, batches(1), 0, 1))
	}
}

// P19.2: a text that is too long has no hash, and so is not shown, whatever List is.
func TestCheckOfLongTexts(t *testing.T) {
	l := batches(1)
	l[0][0].Key = make([]byte, 65535)
	if errno := pageOf(4, 1, l, 0, 1).check(); errno != api.OK {
		t.Error("the longest text:", errno)
	}
	l[0][0].Key = make([]byte, 65536)
	refused(t, "a text that is too long", pageOf(4, 1, l, 0, 1))
}

// P19.2: greatest lists: up to 2^20 changes of an epoch.
func TestCheckOfGreatLists(t *testing.T) {
	l := make([][]byte, 1<<20)
	for i := range l {
		l[i] = []byte{byte(i), byte(i >> 8), byte(i >> 16)}
	}
	b := api.Binding{ID: []byte("one of many")}
	l[700000] = change.Leaf(3, b)
	p := page{size: 3, index: 700000, limit: 1, events: []api.Event{{Epoch: 1, Index: 700000, ID: b.ID}}}
	p.lists = [][][]byte{merkle.Range(3, l, 700000, 700001)}
	p.records = []api.Record{{Epoch: 1, Count: 1 << 20, List: merkle.Root(3, l)}}
	if errno := p.check(); errno != api.OK {
		t.Error("2^20 changes:", errno)
	}
	p.records[0].Count++
	refused(t, "more than 2^20", p)
}

// P19.2: with digests of one byte another change of the same hash is there, and taken: the hash is all that counts.
func TestCheckOfTwins(t *testing.T) {
	p := pageOf(1, 3, batches(7, 4), 2, 7)
	e := &p.events[5]
	was, hash := e.ID, change.Leaf(1, api.Binding{ID: e.ID, Key: e.Key})
	for n := 0; bytes.Equal(e.ID, was) || !bytes.Equal(change.Leaf(1, api.Binding{ID: e.ID, Key: e.Key}), hash); n++ {
		e.ID = fmt.Appendf(nil, "twin %d", n)
	}
	if errno := p.check(); errno != api.OK {
		t.Error("a twin:", errno)
	}
}

// Rule 'Memory': what is handed in is not changed, the room behind a list's end included.
func TestCheckMemory(t *testing.T) {
	p := pageOf(4, 3, batches(7, 4, 9), 2, 12)
	p.records = append(p.records, api.Record{Epoch: 99})[:3]
	p.events = append(p.events, api.Event{Epoch: 99})[:12]
	p.lists = append(p.lists, [][]byte{{9}})[:3]
	p.lists[0] = append(p.lists[0], []byte{9})[:len(p.lists[0])]
	told := func() string {
		return fmt.Sprint(p, p.records[:4], p.events[:13], p.lists[:4], p.lists[0][:len(p.lists[0])+1])
	}
	before := told()
	if errno := p.check(); errno != api.OK || told() != before {
		t.Error("what was handed in has changed", errno)
	}
	p.events[11].Index++
	before = told()
	if errno := p.check(); errno != api.ErrProof || told() != before {
		t.Error("what was handed in has changed", errno)
	}
}
