package seek

import (
	"bytes"
	"fmt"
	"math"
	"math/rand"
	"slices"
	"testing"

	"annals/api"
	"annals/record"
)

// looksByHand is the epochs that are looked at, and the one that is found, by the document's words.
func looksByHand(times []int, t int) ([]int, int) {
	if len(times) == 0 {
		return nil, -1
	}
	looks := []int{0}
	if times[0] > t {
		return looks, -1
	}
	low, high := 0, len(times)-1
	for low < high {
		at := (low + high + 1) / 2
		looks = append(looks, at)
		if times[at] <= t {
			low = at
		} else {
			high = at - 1
		}
	}
	return looks, low
}

// P20.1, example 1
func TestProbes(t *testing.T) {
	five := []int{0, 5, 5, 9, 9}
	cases := []struct {
		times []int
		t     int
		looks []int
		found int
	}{
		{five, -1, []int{0}, -1}, {five, math.MinInt, []int{0}, -1},
		{five, 0, []int{0, 2, 1}, 0}, {five, 4, []int{0, 2, 1}, 0},
		{five, 5, []int{0, 2, 3}, 2}, {five, 8, []int{0, 2, 3}, 2},
		{five, 9, []int{0, 2, 3, 4}, 4}, {five, 99, []int{0, 2, 3, 4}, 4}, {five, math.MaxInt, []int{0, 2, 3, 4}, 4},
		{nil, 0, nil, -1}, {[]int{}, 0, nil, -1}, {nil, math.MaxInt, nil, -1}, {nil, math.MinInt, nil, -1},
		{[]int{7}, 6, []int{0}, -1}, {[]int{7}, 7, []int{0}, 0}, {[]int{7}, 8, []int{0}, 0},
		{[]int{7, 9}, 6, []int{0}, -1}, {[]int{7, 9}, 8, []int{0, 1}, 0}, {[]int{7, 9}, 9, []int{0, 1}, 1},
		{[]int{3, 3, 3}, 3, []int{0, 1, 2}, 2}, {[]int{3, 3, 3}, 2, []int{0}, -1},
		{[]int{math.MinInt, 0, math.MaxInt}, math.MinInt, []int{0, 1}, 0}, {[]int{math.MinInt, 0, math.MaxInt}, math.MaxInt, []int{0, 1, 2}, 2}, {[]int{math.MinInt, 0, math.MaxInt}, math.MaxInt - 1, []int{0, 1, 2}, 1},
		{[]int{5, 9, 4, 3}, 4, []int{0}, -1}, {[]int{1, 9, 2, 9, 2}, 3, []int{0, 2, 3}, 2}, {[]int{1, 2, 9, 2, 2}, 3, []int{0, 2, 1}, 1},
	}
	for _, c := range cases {
		if got := Probes(c.times, c.t); !slices.Equal(got, c.looks) {
			t.Errorf("Probes(%v, %d): %v, not %v", c.times, c.t, got, c.looks)
		}
		if got := Find(c.times, c.t); got != c.found {
			t.Errorf("Find(%v, %d): %d, not %d", c.times, c.t, got, c.found)
		}
	}
}

// P20.1: whatever times, falling ones too.
func TestProbesOfWhatever(t *testing.T) {
	source := rand.New(rand.NewSource(1))
	for range 50000 {
		times := make([]int, source.Intn(40))
		for i := range times {
			times[i] = source.Intn(12)
		}
		at := source.Intn(14) - 1
		looks, found := looksByHand(times, at)
		if got := Probes(times, at); !slices.Equal(got, looks) {
			t.Fatalf("Probes(%v, %d): %v, not %v", times, at, got, looks)
		}
		if got := Find(times, at); got != found {
			t.Fatalf("Find(%v, %d): %d, not %d", times, at, got, found)
		}
	}
}

// rising is n times that do not fall, from a first one on.
func rising(source *rand.Rand, n, first int) []int {
	times := make([]int, n)
	for i := range times {
		times[i] = first
		first += max(0, source.Intn(5)-2)
	}
	return times
}

// P20.3: of times that do not fall it is the last one that is not above t, found by few looks.
func TestFindOfRisingTimes(t *testing.T) {
	source := rand.New(rand.NewSource(2))
	for n := range 300 {
		times := rising(source, n, source.Intn(3))
		for at := -1; at < 2*n+5; at++ {
			want := -1
			for epoch := range times {
				if times[epoch] <= at {
					want = epoch
				}
			}
			if got := Find(times, at); got != want {
				t.Fatalf("Find(%v, %d): %d, not %d", times, at, got, want)
			}
			looks := Probes(times, at)
			if len(looks) > 10 {
				t.Fatalf("%d looks among %d", len(looks), n)
			}
			if want >= 0 && !slices.Contains(looks, want) {
				t.Fatalf("Probes(%v, %d) has not %d", times, at, want)
			}
		}
	}
}

// Rule 'Memory': the times are not changed, and each answer is a list of its own.
func TestProbesMemory(t *testing.T) {
	times := []int{0, 5, 5, 9, 9, 77}
	for range 2 {
		looks := Probes(times[:5], 5)
		if !slices.Equal(looks, []int{0, 2, 3}) || Find(times[:5], 5) != 2 || !slices.Equal(times, []int{0, 5, 5, 9, 9, 77}) {
			t.Fatal(looks, times)
		}
		clear(looks[:cap(looks)])
	}
}

// wayByHand is the epochs on the way from one to an earlier one.
func wayByHand(from, to int) []int {
	var way []int
	for from > to {
		next := from
		for step := 1; from%step == 0 && from-step >= to; step *= 2 {
			next = from - step
		}
		from = next
		way = append(way, from)
	}
	return way
}

// chain is the records of epochs with these times, each with its links.
func chain(size int, times []int) []api.Record {
	source := rand.New(rand.NewSource(3))
	digest := func() []byte { b := make([]byte, size); source.Read(b); return b }
	var out []api.Record
	for epoch, time := range times {
		r := api.Record{Epoch: epoch, Time: time, Tree: digest(), Count: epoch % 33, List: digest()}
		for step := 1; epoch > 0 && epoch%step == 0; step *= 2 {
			r.Links = append(r.Links, record.Hash(size, out[epoch-step]))
		}
		out = append(out, r)
	}
	return out
}

// own is a record in memory of its own.
func own(r api.Record) api.Record {
	links := r.Links
	r.Tree, r.List, r.Links = bytes.Clone(r.Tree), bytes.Clone(r.List), nil
	for _, link := range links {
		r.Links = append(r.Links, bytes.Clone(link))
	}
	return r
}

// same: the same record.
func same(a, b api.Record) bool {
	return a.Epoch == b.Epoch && a.Time == b.Time && a.Count == b.Count && bytes.Equal(a.Tree, b.Tree) && bytes.Equal(a.List, b.List) && slices.EqualFunc(a.Links, b.Links, bytes.Equal)
}

// times is those of a chain's records.
func times(l []api.Record) []int {
	var out []int
	for _, r := range l {
		out = append(out, r.Time)
	}
	return out
}

// seenOf is the ways from the chain's epoch head to each one that is looked at for time t, in memory of their own.
func seenOf(l []api.Record, head, t int) [][]api.Record {
	looks, _ := looksByHand(times(l[:head+1]), t)
	return waysTo(l, head, looks...)
}

// waysTo is the ways from the chain's epoch head to some.
func waysTo(l []api.Record, head int, epochs ...int) [][]api.Record {
	var seen [][]api.Record
	for _, to := range epochs {
		var way []api.Record
		for _, epoch := range wayByHand(head, to) {
			way = append(way, own(l[epoch]))
		}
		seen = append(seen, way)
	}
	return seen
}

// refused: nothing is found.
func refused(t *testing.T, what string, size int, head api.Record, seen [][]api.Record, at int) {
	t.Helper()
	if r, errno := Check(size, head, seen, at); errno != api.ErrProof || !same(r, api.Record{}) || r.Tree != nil || r.List != nil || r.Links != nil {
		t.Errorf("%s: %v, %d", what, r, errno)
	}
}

// P20.2: the record is found from each head, at each time.
func TestCheck(t *testing.T) {
	source := rand.New(rand.NewSource(4))
	for _, size := range []int{1, 5, 32} {
		l := chain(size, rising(source, 256, 3))
		for head := range l {
			if size != 5 && head%9 != 0 && head != 255 {
				continue
			}
			for _, at := range []int{3, 4, 5, head, head / 2, l[head].Time - 1, l[head].Time, l[head].Time + 1, math.MaxInt, source.Intn(300)} {
				seen := seenOf(l, head, at)
				_, found := looksByHand(times(l[:head+1]), at)
				if found < 0 {
					refused(t, "ahead of epoch 0", size, l[head], seen, at)
					continue
				}
				if r, errno := Check(size, l[head], seen, at); errno != api.OK || !same(r, l[found]) {
					t.Fatalf("size %d, head %d, time %d: %v, %d, not %v", size, head, at, r, errno, l[found])
				}
			}
		}
	}
}

// P20.2: so it is of times that fall: the looks go by what the records say.
func TestCheckOfFallingTimes(t *testing.T) {
	source := rand.New(rand.NewSource(5))
	for range 200 {
		falling := make([]int, 1+source.Intn(60))
		for i := range falling {
			falling[i] = source.Intn(12)
		}
		l := chain(4, falling)
		for at := -1; at < 13; at++ {
			head := len(l) - 1
			seen := seenOf(l, head, at)
			_, found := looksByHand(falling, at)
			r, errno := Check(4, l[head], seen, at)
			if found < 0 && errno != api.ErrProof || found >= 0 && (errno != api.OK || !same(r, l[found])) {
				t.Fatalf("times %v, time %d: %v, %d, not %d", falling, at, r, errno, found)
			}
		}
	}
}

// P20.2: epoch 0 alone.
func TestCheckOfEpochZero(t *testing.T) {
	l := chain(4, []int{7})
	for _, seen := range [][][]api.Record{{nil}, {{}}} {
		for _, at := range []int{7, 8, math.MaxInt} {
			if r, errno := Check(4, l[0], seen, at); errno != api.OK || !same(r, l[0]) {
				t.Error(at, r, errno)
			}
		}
		for _, at := range []int{6, 0, -1, math.MinInt} {
			refused(t, "epoch 0's time is above it", 4, l[0], seen, at)
		}
	}
	refused(t, "no look", 4, l[0], nil, 7)
	refused(t, "a look too many", 4, l[0], [][]api.Record{nil, nil}, 7)
	refused(t, "epoch 0 on a way from it", 4, l[0], [][]api.Record{{l[0]}}, 7)
}

// P20.2: epoch 0's time is above t.
func TestCheckOfEarlyTimes(t *testing.T) {
	l := chain(4, []int{3, 5, 5, 9, 9})
	for _, at := range []int{2, 0, -1, math.MinInt} {
		refused(t, "by the look at epoch 0", 4, l[4], waysTo(l, 4, 0), at)
		refused(t, "by no look", 4, l[4], nil, at)
		refused(t, "by the looks for a later time", 4, l[4], waysTo(l, 4, 0, 2, 1), at)
	}
}

// P20.2: a way for each look, in their order, and no further one.
func TestCheckOfOtherLooks(t *testing.T) {
	l := chain(4, rising(rand.New(rand.NewSource(6)), 200, 0))
	for _, at := range []int{0, 20, 50, l[199].Time, math.MaxInt} {
		looks, _ := looksByHand(times(l), at)
		seen := waysTo(l, 199, looks...)
		if _, errno := Check(4, l[199], seen, at); errno != api.OK {
			t.Fatal(errno)
		}
		for i := range seen {
			refused(t, "the end is not there", 4, l[199], seen[:i], at)
			refused(t, "the beginning is not there", 4, l[199], seen[i+1:], at)
			refused(t, "one is not there", 4, l[199], slices.Delete(slices.Clone(seen), i, i+1), at)
			refused(t, "one is there twice", 4, l[199], slices.Insert(slices.Clone(seen), i, seen[i]), at)
			other := slices.Clone(seen)
			other[i] = nil
			if looks[i] != 199 {
				refused(t, "no way", 4, l[199], other, at)
			}
			for _, to := range []int{looks[i] - 1, looks[i] + 1} {
				if to >= 0 && to < 200 {
					other[i] = waysTo(l, 199, to)[0]
					refused(t, "a way to another epoch", 4, l[199], other, at)
				}
			}
			if i > 0 {
				other = slices.Clone(seen)
				other[i], other[i-1] = other[i-1], other[i]
				refused(t, "two have changed places", 4, l[199], other, at)
			}
		}
		refused(t, "none", 4, l[199], nil, at)
		refused(t, "one behind the end", 4, l[199], append(slices.Clone(seen), nil), at)
		refused(t, "the last one twice", 4, l[199], append(slices.Clone(seen), seen[len(seen)-1]), at)
		refused(t, "far too many", 4, l[199], append(slices.Clone(seen), make([][]api.Record, 1<<16)...), at)
	}
}

// P20.2: the looks for another time are others, where another record is found.
func TestCheckOfOtherTimes(t *testing.T) {
	l := chain(4, []int{0, 5, 5, 9, 9, 12, 12, 12, 20})
	for at := range 22 {
		seen := seenOf(l, 8, at)
		for other := -1; other < 24; other++ {
			looks, found := looksByHand(times(l), other)
			theirs, _ := looksByHand(times(l), at)
			if found < 0 || !slices.Equal(looks, theirs) {
				refused(t, "another time", 4, l[8], seen, other)
			} else if r, errno := Check(4, l[8], seen, other); errno != api.OK || !same(r, l[found]) {
				t.Errorf("time %d, then %d: %v, %d", at, other, r, errno)
			}
		}
	}
}

// faults are what makes of a record of an epoch above 0 one that may not be.
func faults() []func(*api.Record) {
	return []func(*api.Record){
		func(r *api.Record) { r.Time = -1 }, func(r *api.Record) { r.Time = api.MaxTime + 1 }, func(r *api.Record) { r.Count = 33 }, func(r *api.Record) { r.Count = -1 }, func(r *api.Record) { r.Tree = nil },
		func(r *api.Record) { r.List = r.List[:3] }, func(r *api.Record) { r.Links = r.Links[1:] }, func(r *api.Record) { r.Links = append(r.Links, r.Tree) }, func(r *api.Record) { r.Links[0] = nil },
		func(r *api.Record) { r.Links = nil }, func(r *api.Record) { r.Epoch = -1 }, func(r *api.Record) { r.Epoch = 256 }, func(r *api.Record) { r.Epoch = math.MaxInt }, func(r *api.Record) { r.Epoch = math.MinInt },
		func(r *api.Record) { *r = api.Record{} },
	}
}

// P20.2: a head that may not be.
func TestCheckOfOtherHeads(t *testing.T) {
	l := chain(4, rising(rand.New(rand.NewSource(7)), 129, 0))
	seen := seenOf(l, 128, 60)
	for i, fault := range faults() {
		head := own(l[128])
		fault(&head)
		refused(t, fmt.Sprint("a head that may not be: ", i), 4, head, seen, 60)
		refused(t, fmt.Sprint("a head that may not be, no looks: ", i), 4, head, nil, 60)
		refused(t, fmt.Sprint("a head that may not be, a look without records: ", i), 4, head, [][]api.Record{nil}, 60)
	}
	for _, size := range []int{math.MinInt, -1, 0, 1, 3, 5, 33, math.MaxInt} {
		refused(t, "another size", size, l[128], seen, 60)
	}
	for _, head := range []int{0, 1, 64, 127} {
		refused(t, "another head", 4, l[head], seen, 60)
	}
	refused(t, "no head", 4, api.Record{}, seen, 60)
	zero := own(l[0])
	zero.Tree = nil
	refused(t, "epoch 0, that may not be", 4, zero, [][]api.Record{nil}, 60)
}

// P20.2: each record of each way counts: its hash stands in the one ahead.
func TestCheckOfOtherRecords(t *testing.T) {
	l := chain(4, rising(rand.New(rand.NewSource(8)), 104, 0))
	changes := append(faults(), func(r *api.Record) { r.Time++ }, func(r *api.Record) { r.Count = (r.Count + 1) % 33 }, func(r *api.Record) { r.Tree[3] ^= 1 }, func(r *api.Record) { r.List[0] ^= 128 })
	for i, way := range seenOf(l, 103, 40) {
		for j, r := range way {
			for k, change := range changes {
				if r.Epoch == 0 && (k == 6 || k == 8 || k == 9) {
					continue
				}
				seen := seenOf(l, 103, 40)
				change(&seen[i][j])
				refused(t, fmt.Sprintf("look %d, record %d, change %d", i, j, k), 4, l[103], seen, 40)
			}
			seen := seenOf(l, 103, 40)
			seen[i] = slices.Delete(seen[i], j, j+1)
			refused(t, "a record is not there", 4, l[103], seen, 40)
			seen = seenOf(l, 103, 40)
			seen[i] = slices.Insert(seen[i], j, seen[i][j])
			refused(t, "a record is there twice", 4, l[103], seen, 40)
		}
	}
}

// unlike is the first two unlike records of two that were seen, if there are any.
func unlike(one, other [][]api.Record) (api.Record, api.Record, bool) {
	for i := range min(len(one), len(other)) {
		for j := range min(len(one[i]), len(other[i])) {
			if !same(one[i][j], other[i][j]) {
				return one[i][j], other[i][j], true
			}
		}
	}
	return api.Record{}, api.Record{}, false
}

// twin is another record of the same hash, at another time.
func twin(size int, r api.Record, time int) api.Record {
	other := own(r)
	other.Time = time
	for n := 0; !bytes.Equal(record.Hash(size, other), record.Hash(size, r)); n++ {
		other.Tree[0], other.List[0] = byte(n), byte(n>>8)
	}
	return other
}

// P20.4: with digests of one byte two records of one hash are there: the looks follow the one that is shown, and both answers are taken.
func TestCheckIsBound(t *testing.T) {
	l := chain(1, rising(rand.New(rand.NewSource(9)), 100, 0))
	parted := 0
	for at := 0; at < l[99].Time; at++ {
		looks, found := looksByHand(times(l), at)
		for i := 1; i < len(looks); i++ {
			// The head is who asks' own.
			if looks[i] == 99 {
				continue
			}
			// Another time in a record that is looked at sends the looks elsewhere.
			forged := slices.Clone(l)
			time := 0
			if l[looks[i]].Time <= at {
				time = at + 1
			}
			forged[looks[i]] = twin(1, l[looks[i]], time)
			one, other := seenOf(l, 99, at), seenOf(forged, 99, at)
			a, errno := Check(1, l[99], one, at)
			if errno != api.OK || !same(a, l[found]) {
				t.Fatal(a, errno)
			}
			_, elsewhere := looksByHand(times(forged), at)
			b, errno := Check(1, l[99], other, at)
			if errno != api.OK || !same(b, forged[elsewhere]) || same(a, b) {
				t.Fatalf("time %d, look %d: %v, %d", at, i, b, errno)
			}
			parted++
			x, y, ok := unlike(one, other)
			if !ok || !bytes.Equal(record.Hash(1, x), record.Hash(1, y)) {
				t.Fatalf("time %d, look %d: %v and %v, without two records of one hash", at, i, a, b)
			}
		}
	}
	if parted < 100 {
		t.Error("too few parted", parted)
	}
}

// P20.4: whatever is taken of one head and time is one record, or of what was seen the first two unlike records have one hash.
func TestCheckOfWhatever(t *testing.T) {
	source := rand.New(rand.NewSource(10))
	l := chain(1, rising(source, 40, 0))
	taken, parted := 0, 0
	for range 4000 {
		head, at := 1+source.Intn(39), source.Intn(40)
		forged := slices.Clone(l)
		for range 1 + source.Intn(3) {
			i := source.Intn(head)
			forged[i] = own(l[i])
			forged[i].Time = source.Intn(60)
			if source.Intn(2) == 0 {
				forged[i] = twin(1, l[i], forged[i].Time)
			}
		}
		one, other := seenOf(l, head, at), seenOf(forged, head, at)
		a, errno := Check(1, l[head], one, at)
		if errno != api.OK {
			t.Fatal(errno)
		}
		b, errno := Check(1, l[head], other, at)
		if errno != api.OK {
			continue
		}
		taken++
		if same(a, b) {
			continue
		}
		parted++
		x, y, ok := unlike(one, other)
		if !ok || !bytes.Equal(record.Hash(1, x), record.Hash(1, y)) {
			t.Fatalf("head %d, time %d: %v and %v, without two records of one hash", head, at, a, b)
		}
	}
	if taken < 1000 || parted < 200 {
		t.Error("too few are taken, or part:", taken, parted)
	}
}

// scribble writes over all of a list, its spare room too.
func scribble(b []byte) {
	b = b[:cap(b)]
	for i := range b {
		b[i] ^= 0xee
	}
}

// scribbleAll writes over all that a record has, the spare room of its lists too.
func scribbleAll(r api.Record) {
	scribble(r.Tree)
	scribble(r.List)
	for _, link := range r.Links {
		scribble(link)
	}
	spare := r.Links[:cap(r.Links)]
	for i := range spare {
		spare[i] = []byte("scribbled")
	}
}

// Rule 'Memory': what is answered shares nothing with what was handed in, or among itself.
func TestCheckMemory(t *testing.T) {
	l := chain(4, []int{0, 5, 5, 9, 9})
	for at, found := range map[int]int{0: 0, 6: 2, 9: 4} {
		head, seen := own(l[4]), seenOf(l, 4, at)
		seen = append(seen, []api.Record{{Epoch: 99}})[:len(seen)]
		told := func() string { return fmt.Sprint(head, seen, seen[:len(seen)+1]) }
		before := told()
		r, errno := Check(4, head, seen, at)
		if errno != api.OK || !same(r, l[found]) {
			t.Fatal(r, errno)
		}
		scribbleAll(r)
		if told() != before {
			t.Fatalf("time %d: what was handed in has changed", at)
		}
		r, _ = Check(4, head, seen, at)
		lists := append([][]byte{r.Tree, r.List}, r.Links...)
		for i := range lists {
			kept := own(r)
			scribble(lists[i])
			for j, list := range append([][]byte{kept.Tree, kept.List}, kept.Links...) {
				if j != i && !bytes.Equal(lists[j], list) {
					t.Fatalf("time %d: lists %d and %d share memory", at, i, j)
				}
			}
		}
		r, _ = Check(4, head, seen, at)
		scribbleAll(head)
		for _, way := range seen {
			for _, one := range way {
				scribbleAll(one)
			}
		}
		if !same(r, l[found]) {
			t.Errorf("time %d: what was answered changes with what was handed in", at)
		}
	}
}
