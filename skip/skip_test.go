package skip

import (
	"bytes"
	"math"
	"math/rand"
	"slices"
	"testing"

	"annals/api"
	"annals/record"
)

// linksByHand is an epoch's links, counted power by power.
func linksByHand(epoch int) []int {
	var out []int
	for power := 1; power > 0 && power <= epoch; power *= 2 {
		if epoch%power == 0 {
			out = append(out, epoch-power)
		}
	}
	return out
}

// nextByHand is the least linked epoch that is not below to.
func nextByHand(from, to int) int {
	least := from
	for _, link := range linksByHand(from) {
		if link >= to {
			least = min(least, link)
		}
	}
	return least
}

// wayByHand is the way from from to to, step by step.
func wayByHand(from, to int) []int {
	var out []int
	for from != to {
		from = nextByHand(from, to)
		out = append(out, from)
	}
	return out
}

// P14.1
func TestLinks(t *testing.T) {
	cases := []struct {
		epoch int
		want  []int
	}{
		{0, nil}, {1, []int{0}}, {2, []int{1, 0}}, {3, []int{2}}, {4, []int{3, 2, 0}}, {6, []int{5, 4}}, {8, []int{7, 6, 4, 0}}, {12, []int{11, 10, 8}},
		{255, []int{254}}, {-1, nil}, {-8, nil}, {math.MinInt, nil}, {math.MaxInt, []int{math.MaxInt - 1}}, {math.MaxInt - 1, []int{math.MaxInt - 2, math.MaxInt - 3}},
	}
	for _, c := range cases {
		if got := Links(c.epoch); !slices.Equal(got, c.want) {
			t.Errorf("Links(%d): %v", c.epoch, got)
		}
	}
	for epoch := range 5000 {
		if got := Links(epoch); !slices.Equal(got, linksByHand(epoch)) {
			t.Errorf("Links(%d): %v", epoch, got)
		}
	}
	for k := range 63 {
		for _, epoch := range []int{1 << k, 1<<k - 1, 1<<k + 1, 3 << k} {
			if got := Links(epoch); epoch > 0 && !slices.Equal(got, linksByHand(epoch)) {
				t.Errorf("Links(%d): %v", epoch, got)
			}
		}
	}
}

// P14.1: a record has as many links as there are epochs that it links to.
func TestLinksAreTheRecords(t *testing.T) {
	for epoch := range 256 {
		r := api.Record{Epoch: epoch, Tree: []byte{1}, List: []byte{2}}
		for range Links(epoch) {
			r.Links = append(r.Links, []byte{3})
		}
		if !record.Can(1, r) {
			t.Errorf("epoch %d: %d links", epoch, len(r.Links))
		}
	}
}

// P14.1
func TestNext(t *testing.T) {
	cases := [][3]int{
		{7, 0, 6}, {6, 0, 4}, {4, 0, 0}, {8, 3, 4}, {8, 5, 6}, {8, 7, 7}, {8, 4, 4}, {1, 0, 0},
		{5, 5, 5}, {5, 9, 5}, {0, 0, 0}, {0, 1, 0}, {5, -1, 5}, {0, -1, 0}, {-1, 0, -1}, {-1, -5, -1}, {-5, -1, -5}, {-5, 7, -5},
		{8, math.MinInt, 8}, {8, math.MaxInt, 8}, {math.MinInt, math.MaxInt, math.MinInt}, {math.MaxInt, math.MinInt, math.MaxInt}, {math.MinInt, math.MinInt, math.MinInt},
		{math.MaxInt, 0, math.MaxInt - 1}, {1 << 62, 0, 0}, {1 << 62, 1, 1 << 61}, {1 << 62, 1<<62 - 1, 1<<62 - 1}, {math.MaxInt, math.MaxInt - 1, math.MaxInt - 1}, {1 << 21, 5, 1 << 20},
	}
	for _, c := range cases {
		if got := Next(c[0], c[1]); got != c[2] {
			t.Errorf("Next(%d, %d): %d, not %d", c[0], c[1], got, c[2])
		}
	}
	for from := range 300 {
		for to := range from {
			if got := Next(from, to); got != nextByHand(from, to) {
				t.Errorf("Next(%d, %d): %d", from, to, got)
			}
		}
	}
}

// P14.1, example 1
func TestWay(t *testing.T) {
	cases := []struct {
		from, to int
		want     []int
	}{
		{7, 0, []int{6, 4, 0}}, {8, 3, []int{4, 3}}, {8, 0, []int{0}}, {3, 2, []int{2}}, {5, 0, []int{4, 0}}, {255, 1, []int{254, 252, 248, 240, 224, 192, 128, 64, 32, 16, 8, 4, 2, 1}},
		{3, 3, nil}, {0, 0, nil}, {3, 4, nil}, {3, -1, nil}, {0, -1, nil}, {-1, -1, nil}, {-1, 0, nil}, {-1, -2, nil}, {-3, 5, nil},
		{1 << 20, 0, []int{0}}, {1 << 20, 1<<20 - 1, []int{1<<20 - 1}}, {1<<20 + 1, 0, nil}, {1<<20 + 1, 1 << 20, nil}, {1 << 21, 0, nil},
		{math.MaxInt, 0, nil}, {math.MaxInt, math.MaxInt - 1, nil}, {math.MaxInt, math.MinInt, nil}, {math.MinInt, math.MaxInt, nil}, {math.MinInt, math.MinInt, nil},
	}
	for _, c := range cases {
		if got := Way(c.from, c.to); !slices.Equal(got, c.want) {
			t.Errorf("Way(%d, %d): %v", c.from, c.to, got)
		}
	}
}

// shown holds a way against its steps, and P14.3: its length.
func shown(t *testing.T, from, to int) {
	t.Helper()
	way := Way(from, to)
	if !slices.Equal(way, wayByHand(from, to)) || way[len(way)-1] != to {
		t.Fatalf("Way(%d, %d): %v", from, to, way)
	}
	if len(way) > Most(from-to) {
		t.Fatalf("Way(%d, %d) has %d, and Most says %d", from, to, len(way), Most(from-to))
	}
}

// P14.1, P14.3
func TestEachWay(t *testing.T) {
	for from := range 600 {
		for to := range from {
			shown(t, from, to)
		}
	}
	source := rand.New(rand.NewSource(1))
	for range 20000 {
		from := 1 + source.Intn(1<<20)
		shown(t, from, source.Intn(from))
	}
	for to := range 2000 {
		shown(t, 1<<20, to)
		shown(t, 1<<20-1, to)
		shown(t, 1<<20, 1<<20-1-to)
	}
}

// P14.1
func TestMost(t *testing.T) {
	cases := [][2]int{
		{math.MinInt, 0}, {-1, 0}, {0, 0}, {1, 2}, {2, 4}, {3, 4}, {4, 6}, {7, 6}, {8, 8}, {255, 16}, {256, 18}, {1 << 20, 42},
		{1<<62 - 1, 124}, {1 << 62, 126}, {math.MaxInt, 126},
	}
	for _, c := range cases {
		if got := Most(c[0]); got != c[1] {
			t.Errorf("Most(%d): %d, not %d", c[0], got, c[1])
		}
	}
	for distance := 1; distance < 5000; distance++ {
		k := 0
		for 2<<k <= distance {
			k++
		}
		if got := Most(distance); got != 2*k+2 {
			t.Errorf("Most(%d): %d", distance, got)
		}
	}
}

// chain is the records of n epochs, each with its links.
func chain(size, n int) []api.Record {
	source := rand.New(rand.NewSource(2))
	digest := func() []byte { b := make([]byte, size); source.Read(b); return b }
	var out []api.Record
	for epoch := range n {
		r := api.Record{Epoch: epoch, Time: 10 * epoch, Tree: digest(), Count: epoch % 33, List: digest()}
		for _, to := range linksByHand(epoch) {
			r.Links = append(r.Links, record.Hash(size, out[to]))
		}
		out = append(out, r)
	}
	return out
}

// records is those of a way, each in memory of its own.
func records(chain []api.Record, way []int) []api.Record {
	var out []api.Record
	for _, epoch := range way {
		out = append(out, own(chain[epoch]))
	}
	return out
}

// own is a record in memory of its own.
func own(r api.Record) api.Record {
	links := r.Links
	r.Tree, r.List, r.Links = bytes.Clone(r.Tree), bytes.Clone(r.List), nil
	for _, link := range links {
		r.Links = append(r.Links, bytes.Clone(link))
	}
	return r
}

// same: the same record.
func same(a, b api.Record) bool {
	return a.Epoch == b.Epoch && a.Time == b.Time && a.Count == b.Count && bytes.Equal(a.Tree, b.Tree) && bytes.Equal(a.List, b.List) && slices.EqualFunc(a.Links, b.Links, bytes.Equal)
}

// P14.2: each way is followed.
func TestFollow(t *testing.T) {
	for _, size := range []int{1, 3, 32} {
		l := chain(size, 256)
		for from := range l {
			for to := range from + 1 {
				if size != 3 && (from+to)%7 != 0 {
					continue
				}
				r, ok := Follow(size, l[from], records(l, wayByHand(from, to)), to)
				if !ok || !same(r, l[to]) {
					t.Fatalf("size %d, from %d to %d: %v, %v", size, from, to, r, ok)
				}
			}
		}
	}
}

// lost: there is no such way.
func lost(t *testing.T, what string, size int, head api.Record, way []api.Record, to int) {
	t.Helper()
	if r, ok := Follow(size, head, way, to); ok || !same(r, api.Record{}) {
		t.Errorf("%s: %v, %v", what, r, ok)
	}
}

// P14.2: other records than those of the way, other ends, other sizes.
func TestFollowRefusesOtherWays(t *testing.T) {
	l := chain(4, 256)
	way := wayByHand(215, 3)
	good := records(l, way)
	for n := range good {
		lost(t, "the end is not there", 4, l[215], good[:n], 3)
		lost(t, "the beginning is not there", 4, l[215], good[n+1:], 3)
		lost(t, "one is not there", 4, l[215], slices.Delete(slices.Clone(good), n, n+1), 3)
		lost(t, "one is there twice", 4, l[215], slices.Insert(slices.Clone(good), n, good[n]), 3)
		other := slices.Clone(good)
		other[n] = l[way[n]+1]
		lost(t, "another record", 4, l[215], other, 3)
		other[n] = api.Record{}
		lost(t, "an empty record", 4, l[215], other, 3)
	}
	lost(t, "the head too", 4, l[215], append([]api.Record{l[215]}, good...), 3)
	lost(t, "one behind the end", 4, l[215], append(slices.Clone(good), l[2]), 3)
	lost(t, "a longer way of right links", 4, l[8], records(l, []int{6, 4}), 4)
	lost(t, "another longer way", 4, l[8], records(l, []int{7, 6, 4}), 4)
	lost(t, "beyond the end", 4, l[8], records(l, []int{4, 0}), 3)
	lost(t, "a way to itself", 4, l[8], records(l, []int{8}), 8)
	lost(t, "no way, but another end", 4, l[8], nil, 7)
	for _, to := range []int{math.MinInt, -1, 2, 4, 214, 216, 256, math.MaxInt} {
		lost(t, "another end", 4, l[215], good, to)
		lost(t, "another end, no way", 4, l[215], nil, to)
	}
	for _, size := range []int{math.MinInt, -1, 0, 1, 3, 5, 33, math.MaxInt} {
		lost(t, "another size", size, l[215], good, 3)
		lost(t, "another size, no way", size, l[215], nil, 215)
	}
	for _, head := range []int{0, 3, 214, 216, 255} {
		lost(t, "another head", 4, l[head], good, 3)
	}
	lost(t, "far too many", 4, l[215], make([]api.Record, 1<<16), 3)
}

// changes are what makes of a record another one, that may be.
func changes() []func(*api.Record) {
	return []func(*api.Record){
		func(r *api.Record) { r.Time++ }, func(r *api.Record) { r.Count = (r.Count + 1) % 33 }, func(r *api.Record) { r.Tree[3] ^= 1 }, func(r *api.Record) { r.List[0] ^= 128 },
	}
}

// faults are what makes of a record of an epoch above 0 one that may not be.
func faults() []func(*api.Record) {
	return []func(*api.Record){
		func(r *api.Record) { r.Time = -1 }, func(r *api.Record) { r.Time = api.MaxTime + 1 }, func(r *api.Record) { r.Count = 33 }, func(r *api.Record) { r.Tree = nil },
		func(r *api.Record) { r.List = r.List[:3] }, func(r *api.Record) { r.Links = r.Links[1:] }, func(r *api.Record) { r.Links = append(r.Links, r.Tree) },
		func(r *api.Record) { r.Links[0] = nil }, func(r *api.Record) { r.Links = nil },
	}
}

// P14.2: each record's hash stands in the one ahead.
func TestFollowRefusesOtherRecords(t *testing.T) {
	l := chain(4, 256)
	for _, ends := range [][2]int{{215, 3}, {128, 0}, {7, 0}, {255, 1}, {9, 8}} {
		way := wayByHand(ends[0], ends[1])
		for i := range way {
			for k, change := range slices.Concat(changes(), faults()) {
				if way[i] == 0 && k >= len(changes()) {
					continue
				}
				other := records(l, way)
				change(&other[i])
				lost(t, "a record that was changed", 4, l[ends[0]], other, ends[1])
			}
			for k := range l[way[i]].Links {
				other := records(l, way)
				other[i].Links[k][2] ^= 1
				lost(t, "a link that was changed", 4, l[ends[0]], other, ends[1])
			}
		}
	}
}

// P14.2: of the head the link that the way goes on counts, and none beside it; but it may be.
func TestFollowOfOtherHeads(t *testing.T) {
	l := chain(4, 129)
	for k, to := range linksByHand(128) {
		for i := range 8 {
			head := own(l[128])
			head.Links[i][1] ^= 1
			r, ok := Follow(4, head, []api.Record{l[to]}, to)
			if ok != (i != k) || ok && !same(r, l[to]) {
				t.Errorf("link %d has changed, to %d: %v, %v", i, to, r, ok)
			}
		}
	}
	for _, fault := range faults() {
		head := own(l[128])
		fault(&head)
		lost(t, "a head that may not be", 4, head, []api.Record{l[127]}, 127)
		lost(t, "a head that may not be, no way", 4, head, nil, 128)
	}
	for _, change := range changes() {
		head := own(l[128])
		change(&head)
		if r, ok := Follow(4, head, nil, 128); !ok || !same(r, head) {
			t.Error("to the head itself:", r, ok)
		}
		if r, ok := Follow(4, head, []api.Record{l[0]}, 0); !ok || !same(r, l[0]) {
			t.Error("from another head with these links:", r, ok)
		}
	}
	lost(t, "no head", 4, api.Record{}, nil, 0)
	for _, epoch := range []int{math.MinInt, -1, 256, 1 << 20, math.MaxInt} {
		head := own(l[1])
		head.Epoch = epoch
		lost(t, "a head of no epoch", 4, head, nil, epoch)
		lost(t, "a head of no epoch, to 0", 4, head, []api.Record{l[0]}, 0)
	}
}

// P14.2: a hash that stands at another link is none; nor is that of a record with another epoch's number.
func TestFollowOfOtherLinks(t *testing.T) {
	l := chain(4, 9)
	head := own(l[8])
	slices.Reverse(head.Links)
	for _, to := range []int{7, 6, 4, 0} {
		lost(t, "links the other way round", 4, head, []api.Record{l[to]}, to)
	}
	head = own(l[8])
	head.Links[3] = record.Hash(4, l[4])
	lost(t, "another epoch's record at the link", 4, head, []api.Record{l[4]}, 0)
	head = own(l[6])
	head.Links[1] = record.Hash(4, l[2])
	lost(t, "another epoch's record on the way", 4, head, []api.Record{l[2], l[0]}, 0)
}

// twin is another record of the same hash.
func twin(size int, r api.Record) api.Record {
	other := own(r)
	for !bytes.Equal(record.Hash(size, other), record.Hash(size, r)) || same(other, r) {
		other.Time++
	}
	return other
}

// P14.4: with digests of one byte two records of one hash are there: both are taken, and found on the way.
func TestFollowIsBound(t *testing.T) {
	l := chain(1, 256)
	for _, ends := range [][2]int{{215, 3}, {7, 0}, {128, 127}, {255, 1}} {
		way := wayByHand(ends[0], ends[1])
		for i := range way {
			other := records(l, way)
			other[i] = twin(1, other[i])
			r, ok := Follow(1, l[ends[0]], other, ends[1])
			if !ok || !same(r, other[len(other)-1]) {
				t.Fatalf("from %d to %d, another record at %d: %v, %v", ends[0], ends[1], i, r, ok)
			}
		}
	}
}

// P14.4: whatever is taken of one head is one record, or on the two ways the first two unlike records have one hash.
func TestFollowOfWhatever(t *testing.T) {
	source := rand.New(rand.NewSource(3))
	l := chain(1, 64)
	parted := 0
	for range 60000 {
		from := 1 + source.Intn(63)
		to := source.Intn(from)
		one := records(l, wayByHand(from, to))
		other := records(l, wayByHand(from, to))
		i := source.Intn(len(other))
		changes := []*byte{&other[i].Tree[0], &other[i].List[0]}
		for _, link := range other[i].Links {
			changes = append(changes, &link[0])
		}
		*changes[source.Intn(len(changes))] = byte(source.Intn(256))
		a, ok := Follow(1, l[from], one, to)
		b, also := Follow(1, l[from], other, to)
		if !ok {
			t.Fatal("a right way")
		}
		if !also || same(a, b) {
			continue
		}
		parted++
		first := 0
		for same(one[first], other[first]) {
			first++
		}
		if !bytes.Equal(record.Hash(1, one[first]), record.Hash(1, other[first])) {
			t.Fatalf("from %d to %d: %v and %v", from, to, a, b)
		}
	}
	if parted == 0 {
		t.Error("none parted")
	}
}

// scribble writes over all of a list, its spare room too.
func scribble(b []byte) {
	b = b[:cap(b)]
	for i := range b {
		b[i] ^= 0xee
	}
}

// scribbleAll writes over all that a record has, the spare room of its lists too.
func scribbleAll(r api.Record) {
	scribble(r.Tree)
	scribble(r.List)
	for _, link := range r.Links {
		scribble(link)
	}
	spare := r.Links[:cap(r.Links)]
	for i := range spare {
		spare[i] = []byte("scribbled")
	}
}

// Rule 'Memory': what is answered shares nothing with what was handed in, or among itself.
func TestFollowMemory(t *testing.T) {
	l := chain(4, 9)
	head, way := own(l[8]), records(l, []int{4})
	head.Links = append(head.Links, []byte("behind"))[:4]
	for _, to := range []int{8, 4} {
		handed := way
		if to == 8 {
			handed = nil
		}
		r, ok := Follow(4, head, handed, to)
		if !ok {
			t.Fatal("not followed")
		}
		scribbleAll(r)
		if !same(head, l[8]) || !same(way[0], l[4]) || string(head.Links[:5][4]) != "behind" {
			t.Fatalf("to %d: what was handed in has changed", to)
		}
		r, _ = Follow(4, head, handed, to)
		lists := append([][]byte{r.Tree, r.List}, r.Links...)
		for i := range lists {
			before := own(r)
			scribble(lists[i])
			kept := append([][]byte{before.Tree, before.List}, before.Links...)
			for j := range lists {
				if j != i && !bytes.Equal(lists[j], kept[j]) {
					t.Fatalf("to %d: lists %d and %d share memory", to, i, j)
				}
			}
		}
	}
	r, _ := Follow(4, head, way, 4)
	scribbleAll(way[0])
	scribbleAll(head)
	if !same(r, l[4]) {
		t.Error("what was answered changes with what was handed in")
	}
}

// Rule 'Memory': each answer is a list of its own.
func TestListsMemory(t *testing.T) {
	for range 2 {
		links, way := Links(8), Way(7, 0)
		if !slices.Equal(links, []int{7, 6, 4, 0}) || !slices.Equal(way, []int{6, 4, 0}) {
			t.Fatal(links, way)
		}
		clear(links[:cap(links)])
		clear(way[:cap(way)])
	}
}
