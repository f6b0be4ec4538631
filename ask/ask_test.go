package ask

import (
	"bytes"
	"fmt"
	"math"
	"math/rand"
	"slices"
	"strings"
	"testing"

	"annals/api"
)

// told is something as a text, so that no list and an empty one are alike.
func told(x any) string { return fmt.Sprintf("%+v", x) }

// number is a number as bytes, spelled by hand.
func number(n int) []byte {
	var digits []byte
	for ; n > 0; n /= 256 {
		digits = append([]byte{byte(n % 256)}, digits...)
	}
	return append([]byte{byte(len(digits))}, digits...)
}

// text is a text as bytes, spelled by hand.
func text(s []byte) []byte { return append(number(len(s)), s...) }

// spelled is a request's bytes, by hand.
func spelled(a api.Ask) []byte {
	b := number(a.Kind)
	numbers := func(l ...int) {
		for _, n := range l {
			b = append(b, number(n)...)
		}
	}
	switch a.Kind {
	case 1:
		numbers(len(a.Batch))
		for _, x := range a.Batch {
			b = slices.Concat(b, text(x.ID), text(x.Key))
		}
	case 2:
		numbers(a.Time)
	case 6:
		numbers(a.From, a.To)
		if a.Some {
			b = slices.Concat(b, []byte{1}, text(a.ID))
		} else {
			b = append(b, 0)
		}
		numbers(a.Limit)
	case 7:
		numbers(a.From, a.To, a.Epoch, a.Index, a.Limit)
	case 3, 4, 5, 10:
		b = append(b, text(a.ID)...)
		numbers(map[int][]int{3: {a.To}, 4: {a.Time, a.To}, 5: {a.From, a.To}, 10: {a.From, a.To, a.Limit}}[a.Kind]...)
	}
	return b
}

func binding(id, key string) api.Binding { return api.Binding{ID: []byte(id), Key: []byte(key)} }

// sample is a request and its bytes.
type sample struct {
	a api.Ask
	b string
}

// samples has each kind with bytes that are spelled out: ordinary ones, those of nothing, and the greatest ones.
func samples() []sample {
	const g = 1 << 31
	const greatest = "\x04\x80\x00\x00\x00"
	long := strings.Repeat("x", 24)
	longText := "\x01\x18" + long
	longKey := strings.Repeat("y", 48)
	var full []api.Binding
	fullBytes := "\x01\x01\x01\x20"
	for range 32 {
		full = append(full, binding(long, longKey))
		fullBytes += longText + "\x01\x30" + longKey
	}
	return []sample{
		{api.Ask{Kind: api.AskPublish}, "\x01\x01\x00"},
		{api.Ask{Kind: api.AskPublish, Batch: []api.Binding{binding("a", "k")}}, "\x01\x01\x01\x01\x01\x01a\x01\x01k"},
		{api.Ask{Kind: api.AskPublish, Batch: []api.Binding{binding("b", ""), binding("", "kk"), binding("b", "k")}}, "\x01\x01\x01\x03\x01\x01b\x00\x00\x01\x02kk\x01\x01b\x01\x01k"},
		{api.Ask{Kind: api.AskPublish, Batch: full}, fullBytes},
		{api.Ask{Kind: api.AskTick}, "\x01\x02\x00"},
		{api.Ask{Kind: api.AskTick, Time: 258}, "\x01\x02\x02\x01\x02"},
		{api.Ask{Kind: api.AskTick, Time: 1 << 50}, "\x01\x02\x07\x04\x00\x00\x00\x00\x00\x00"},
		{api.Ask{Kind: api.AskAsof}, "\x01\x03\x00\x00"},
		{api.Ask{Kind: api.AskAsof, ID: []byte("a"), To: 3}, "\x01\x03\x01\x01a\x01\x03"},
		{api.Ask{Kind: api.AskAsof, ID: []byte(long), To: g}, "\x01\x03" + longText + greatest},
		{api.Ask{Kind: api.AskWhen}, "\x01\x04\x00\x00\x00"},
		{api.Ask{Kind: api.AskWhen, ID: []byte("ab"), Time: 9, To: 3}, "\x01\x04\x01\x02ab\x01\x09\x01\x03"},
		{api.Ask{Kind: api.AskWhen, ID: []byte(long), Time: 1 << 50, To: g}, "\x01\x04" + longText + "\x07\x04\x00\x00\x00\x00\x00\x00" + greatest},
		{api.Ask{Kind: api.AskInterval}, "\x01\x05\x00\x00\x00"},
		{api.Ask{Kind: api.AskInterval, ID: []byte("a"), From: 1, To: 3}, "\x01\x05\x01\x01a\x01\x01\x01\x03"},
		{api.Ask{Kind: api.AskInterval, ID: []byte(long), From: g, To: g}, "\x01\x05" + longText + greatest + greatest},
		{api.Ask{Kind: api.AskDiff}, "\x01\x06\x00\x00\x00\x00"},
		{api.Ask{Kind: api.AskDiff, From: 1, To: 3, Limit: 2}, "\x01\x06\x01\x01\x01\x03\x00\x01\x02"},
		{api.Ask{Kind: api.AskDiff, From: 1, To: 3, Some: true, Limit: 2}, "\x01\x06\x01\x01\x01\x03\x01\x00\x01\x02"},
		{api.Ask{Kind: api.AskDiff, From: 1, To: 3, Some: true, ID: []byte("b"), Limit: 2}, "\x01\x06\x01\x01\x01\x03\x01\x01\x01b\x01\x02"},
		{api.Ask{Kind: api.AskDiff, From: g, To: g, Some: true, ID: []byte(long), Limit: g}, "\x01\x06" + greatest + greatest + "\x01" + longText + greatest},
		{api.Ask{Kind: api.AskFeed}, "\x01\x07\x00\x00\x00\x00\x00"},
		{api.Ask{Kind: api.AskFeed, From: 1, To: 5, Epoch: 4, Index: 3, Limit: 2}, "\x01\x07\x01\x01\x01\x05\x01\x04\x01\x03\x01\x02"},
		{api.Ask{Kind: api.AskFeed, From: g, To: g, Epoch: g, Index: g, Limit: g}, "\x01\x07" + strings.Repeat(greatest, 5)},
		{api.Ask{Kind: api.AskEvict}, "\x01\x08"},
		{api.Ask{Kind: api.AskDrop}, "\x01\x09"},
		{api.Ask{Kind: api.AskVersions}, "\x01\x0a\x00\x00\x00\x00"},
		{api.Ask{Kind: api.AskVersions, ID: []byte("a"), From: 1, To: 3, Limit: 2}, "\x01\x0a\x01\x01a\x01\x01\x01\x03\x01\x02"},
		{api.Ask{Kind: api.AskVersions, ID: []byte(long), From: g, To: g, Limit: g}, "\x01\x0a" + longText + greatest + greatest + greatest},
	}
}

// P25.1, P25.3, example 1: the bytes, and the request again.
func TestSamples(t *testing.T) {
	for _, s := range samples() {
		if b, errno := Encode(s.a); errno != api.OK || string(b) != s.b {
			t.Errorf("%+v: %q, %v, not %q", s.a, b, errno, s.b)
		}
		if a, errno := Decode([]byte(s.b)); errno != api.OK || told(a) != told(s.a) {
			t.Errorf("%q: %+v, %v, not %+v", s.b, a, errno, s.a)
		}
		if string(spelled(s.a)) != s.b {
			t.Errorf("%+v: by hand it is %q", s.a, spelled(s.a))
		}
	}
}

// refused has Encode tell an error of a request.
func refused(t *testing.T, a api.Ask, errno api.Errno) {
	t.Helper()
	if b, got := Encode(a); got != errno || len(b) != 0 {
		t.Errorf("%+v: %q, %v, not %v", a, b, got, errno)
	}
}

// edits put something into one field each, by their names.
func edits() map[string]func(a *api.Ask, n int) {
	return map[string]func(a *api.Ask, n int){
		"ID":    func(a *api.Ask, n int) { a.ID = make([]byte, n) },
		"From":  func(a *api.Ask, n int) { a.From = n },
		"To":    func(a *api.Ask, n int) { a.To = n },
		"Time":  func(a *api.Ask, n int) { a.Time = n },
		"Some":  func(a *api.Ask, n int) { a.Some = true },
		"Epoch": func(a *api.Ask, n int) { a.Epoch = n },
		"Index": func(a *api.Ask, n int) { a.Index = n },
		"Limit": func(a *api.Ask, n int) { a.Limit = n },
		"Batch": func(a *api.Ask, n int) { a.Batch = make([]api.Binding, n) },
	}
}

// has is the fields of each kind.
func has() map[int]string {
	return map[int]string{
		api.AskPublish: "Batch", api.AskTick: "Time", api.AskAsof: "ID To", api.AskWhen: "ID Time To", api.AskInterval: "ID From To",
		api.AskDiff: "From To Some Limit", api.AskFeed: "From To Epoch Index Limit", api.AskEvict: "", api.AskDrop: "", api.AskVersions: "ID From To Limit",
	}
}

// P25.1: ErrKind of no such kind, whatever else is wrong.
func TestEncodeKinds(t *testing.T) {
	for _, kind := range []int{math.MinInt, -1, 0, 11, 12, 99, 1 << 31, 1<<31 + 1, math.MaxInt} {
		refused(t, api.Ask{Kind: kind}, api.ErrKind)
		for _, edit := range edits() {
			a := api.Ask{Kind: kind}
			edit(&a, 1000)
			refused(t, a, api.ErrKind)
		}
	}
}

// P25.1: ErrArg of each field that the kind has not; all others may be.
func TestEncodeOfOtherFields(t *testing.T) {
	for _, s := range samples() {
		own := strings.Fields(has()[s.a.Kind])
		if s.a.Some {
			own = append(own, "ID")
		}
		for name, edit := range edits() {
			a := s.a
			edit(&a, 1)
			if slices.Contains(own, name) {
				if b, errno := Encode(a); errno != api.OK || !bytes.Equal(b, spelled(a)) {
					t.Errorf("%+v: %q, %v", a, b, errno)
				}
				continue
			}
			refused(t, a, api.ErrArg)
			if name == "ID" || name == "Batch" || name == "Some" {
				continue
			}
			for _, n := range []int{-1, math.MinInt, math.MaxInt} {
				edit(&a, n)
				refused(t, a, api.ErrArg)
			}
		}
		// Empty ones are none.
		a := s.a
		if len(a.ID) == 0 {
			a.ID = []byte{}
		}
		if len(a.Batch) == 0 {
			a.Batch = []api.Binding{}
		}
		if b, errno := Encode(a); errno != api.OK || string(b) != s.b {
			t.Errorf("%+v: %q, %v", a, b, errno)
		}
	}
}

// P25.1: ErrArg beyond each bound, and below 0; the bound itself may be.
func TestEncodeBounds(t *testing.T) {
	most := map[string]int{"ID": 24, "Time": 1 << 50, "Batch": 32}
	for kind, names := range has() {
		for _, name := range strings.Fields(names) {
			if name == "Some" {
				continue
			}
			bound, ok := most[name]
			if !ok {
				bound = 1 << 31
			}
			a := api.Ask{Kind: kind}
			for _, n := range []int{0, bound} {
				edits()[name](&a, n)
				if b, errno := Encode(a); errno != api.OK || !bytes.Equal(b, spelled(a)) {
					t.Errorf("%+v: %q, %v", a, b, errno)
				}
			}
			edits()[name](&a, bound+1)
			refused(t, a, api.ErrArg)
			if name == "ID" || name == "Batch" {
				continue
			}
			for _, n := range []int{-1, math.MinInt, math.MaxInt} {
				edits()[name](&a, n)
				refused(t, a, api.ErrArg)
			}
		}
	}
	refused(t, api.Ask{Kind: api.AskDiff, Some: true, ID: make([]byte, 25)}, api.ErrArg)
	refused(t, api.Ask{Kind: api.AskAsof, ID: make([]byte, 100000)}, api.ErrArg)
	for i := range 32 {
		for _, wrong := range []api.Binding{{ID: make([]byte, 25)}, {Key: make([]byte, 49)}, {ID: make([]byte, 300)}} {
			l := make([]api.Binding, 32)
			l[i] = wrong
			refused(t, api.Ask{Kind: api.AskPublish, Batch: l}, api.ErrArg)
		}
	}
	refused(t, api.Ask{Kind: api.AskPublish, Batch: make([]api.Binding, 5000)}, api.ErrArg)
}

// unread has Decode tell an error of bytes.
func unread(t *testing.T, b []byte, errno api.Errno) {
	t.Helper()
	if a, got := Decode(b); got != errno || told(a) != told(api.Ask{}) {
		t.Errorf("%q: %+v, %v, not %v", b, a, got, errno)
	}
}

// P25.1: each beginning ends too early, and nothing may be left.
func TestDecodeEnds(t *testing.T) {
	for _, s := range samples() {
		for n := range len(s.b) {
			unread(t, []byte(s.b)[:n], api.ErrShort)
		}
		for _, left := range []string{"\x00", "\x09", "\x01\x08", s.b, strings.Repeat("z", 10000)} {
			unread(t, []byte(s.b+left), api.ErrForm)
		}
	}
}

// P25.1: of a kind that there is not.
func TestDecodeKinds(t *testing.T) {
	for _, b := range []string{"\x00", "\x01\x0b", "\x01\x63", "\x02\x01\x00", "\x04\x80\x00\x00\x00"} {
		unread(t, []byte(b), api.ErrKind)
		unread(t, []byte(b+"\x09\x09"), api.ErrKind)
	}
	for _, b := range []string{"\x04\x80\x00\x00\x01", "\x05\x01\x00\x00\x00\x00", "\x08\x40\x00\x00\x00\x00\x00\x00\x00"} {
		unread(t, []byte(b), api.ErrFull)
	}
	for _, b := range []string{"\x09", "\x01\x00", "\x02\x00\x08", "\xff", "\x08\x40\x00\x00\x00\x00\x00\x00\x01"} {
		unread(t, []byte(b), api.ErrForm)
	}
}

// P25.1: the codec's errors, in the order of the bytes.
func TestDecodeErrors(t *testing.T) {
	const beyond, long, time = "\x04\x80\x00\x00\x01", "\x01\x19", "\x07\x04\x00\x00\x00\x00\x00\x01"
	full, form, short := api.ErrFull, api.ErrForm, api.ErrShort
	z := strings.Repeat("\x00", 40)
	for _, c := range []struct {
		b     string
		errno api.Errno
	}{
		{"\x01\x01\x01\x21" + z + z, full}, {"\x01\x01\x01\x01" + long + z, full}, {"\x01\x01\x01\x01\x00\x01\x31" + z + z, full},
		{"\x01\x01\x09", form}, {"\x01\x01\x01\x00", form}, {"\x01\x01\x01\x02\x00\x00\x09\x00", form},
		{"\x01\x01\x01\x02\x00\x00" + long, full}, {"\x01\x01\x01\x02\x00\x00\x00\x01\x31", full}, {"\x01\x01\x01\x02\x00\x01\x31\x09", full},
		{"\x01\x02" + time, full}, {"\x01\x02\x09", form}, {"\x01\x02\x01\x00", form},
		{"\x01\x03" + long + z, full}, {"\x01\x03\x00" + beyond, full}, {"\x01\x03\x09" + beyond, form}, {"\x01\x03\x01\x18\x00", short},
		{"\x01\x04" + long + z, full}, {"\x01\x04\x00" + time + "\x09", full}, {"\x01\x04\x00\x09" + beyond, form}, {"\x01\x04\x00\x00" + beyond, full},
		{"\x01\x05" + long + z, full}, {"\x01\x05\x00" + beyond + "\x09", full}, {"\x01\x05\x00\x00" + beyond, full}, {"\x01\x05\x00\x00\x09", form},
		{"\x01\x06" + beyond + "\x09", full}, {"\x01\x06\x00" + beyond + "\x02", full}, {"\x01\x06\x00\x00\x02" + beyond, form}, {"\x01\x06\x00\x00\xff", form},
		{"\x01\x06\x00\x00\x00" + beyond, full}, {"\x01\x06\x00\x00\x01" + long + z, full}, {"\x01\x06\x00\x00\x01\x00" + beyond, full}, {"\x01\x06\x00\x00\x01\x01\x01", short},
		{"\x01\x07" + beyond + "\x09", full}, {"\x01\x07\x00" + beyond + "\x09", full}, {"\x01\x07\x00\x00" + beyond + "\x09", full},
		{"\x01\x07\x00\x00\x00" + beyond + "\x09", full}, {"\x01\x07\x00\x00\x00\x00" + beyond, full}, {"\x01\x07\x00\x09" + beyond, form},
		{"\x01\x0a" + long + z, full}, {"\x01\x0a\x00" + beyond, full}, {"\x01\x0a\x00\x00" + beyond + "\x09", full}, {"\x01\x0a\x00\x00\x00" + beyond + "\x09", full},
	} {
		unread(t, []byte(c.b), c.errno)
	}
}

// P25.2: of whatever request, be it one that may be or not.
func TestRoots(t *testing.T) {
	for _, n := range []int{0, 5, -5, math.MinInt, math.MaxInt} {
		for kind := -2; kind < 14; kind++ {
			a := api.Ask{Kind: kind, ID: make([]byte, 99), From: n, To: 7, Time: 3, Epoch: 4, Index: 6, Limit: 8}
			var want []int
			switch kind {
			case 3, 4:
				want = []int{7}
			case 5, 6, 7, 10:
				want = []int{n, 7}
			}
			if got, ok := Roots(a); !slices.Equal(got, want) || ok != (want != nil) {
				t.Errorf("%+v: %v, %v", a, got, ok)
			}
		}
		a := api.Ask{Kind: api.AskFeed, From: n, To: n}
		if got, ok := Roots(a); !ok || !slices.Equal(got, []int{n, n}) {
			t.Errorf("%+v: %v, %v", a, got, ok)
		}
	}
	for _, kind := range []int{math.MinInt, math.MaxInt} {
		if got, ok := Roots(api.Ask{Kind: kind}); len(got) != 0 || ok {
			t.Error(kind, got, ok)
		}
	}
}

// drawn is a request that may be.
func drawn(r *rand.Rand) api.Ask {
	a := api.Ask{Kind: 1 + r.Intn(10)}
	bytesOf := func(most int) []byte {
		b := make([]byte, r.Intn(most+1))
		r.Read(b)
		return b
	}
	for _, name := range strings.Fields(has()[a.Kind]) {
		switch name {
		case "ID":
			a.ID = bytesOf(24)
		case "Some":
			if a.Some = r.Intn(2) == 0; a.Some {
				a.ID = bytesOf(24)
			}
		case "Batch":
			for range r.Intn(33) {
				a.Batch = append(a.Batch, api.Binding{ID: bytesOf(24), Key: bytesOf(48)})
			}
		case "Time":
			a.Time = r.Intn(1<<r.Intn(51) + 1)
		default:
			edits()[name](&a, r.Intn(1<<r.Intn(32)+1))
		}
	}
	return a
}

// P25.3: Decode of Encode is the request.
func TestDecodeOfEncode(t *testing.T) {
	r := rand.New(rand.NewSource(1))
	for range 20000 {
		a := drawn(r)
		b, errno := Encode(a)
		if errno != api.OK || !bytes.Equal(b, spelled(a)) {
			t.Fatalf("%+v: %q, %v", a, b, errno)
		}
		if again, errno := Decode(b); errno != api.OK || told(again) != told(a) {
			t.Fatalf("%q: %+v, %v, not %+v", b, again, errno, a)
		}
	}
}

// P25.3: of all bytes whatever Decode ends, and Encode of what it tells is the bytes.
func TestEncodeOfDecode(t *testing.T) {
	r := rand.New(rand.NewSource(2))
	taken := 0
	for range 100000 {
		b := spelled(drawn(r))
		for range 1 + r.Intn(3) {
			b[r.Intn(len(b))] = byte(r.Intn(12))
		}
		b = b[:len(b)-r.Intn(2)*r.Intn(len(b))]
		a, errno := Decode(b)
		if errno != api.OK {
			unread(t, b, errno)
			continue
		}
		taken++
		if again, errno := Encode(a); errno != api.OK || !bytes.Equal(again, b) {
			t.Fatalf("%q: %+v, %q, %v", b, a, again, errno)
		}
	}
	if taken < 1000 {
		t.Error("few were taken:", taken)
	}
}

// scribble writes over bytes, and over the room behind them.
func scribble(b []byte) {
	b = b[:cap(b)]
	for i := range b {
		b[i] ^= 0xa5
	}
}

// lists is all lists of bytes of a request.
func lists(a api.Ask) [][]byte {
	out := [][]byte{a.ID}
	for _, b := range a.Batch[:cap(a.Batch)] {
		out = append(out, b.ID, b.Key)
	}
	return out
}

// The rule 'Memory': nothing that is handed in is changed or kept, and each list is its own.
func TestMemory(t *testing.T) {
	r := rand.New(rand.NewSource(3))
	for range 2000 {
		a := drawn(r)
		want := told(a)
		b, _ := Encode(a)
		bytesWere := bytes.Clone(b)
		whole := append(bytes.Clone(b), "behind"...)
		got, errno := Decode(whole[:len(b)])
		if errno != api.OK || told(a) != want || !bytes.Equal(whole, append(bytes.Clone(b), "behind"...)) {
			t.Fatalf("%+v: an argument is changed", a)
		}
		scribble(whole)
		if told(got) != want {
			t.Fatalf("%+v: the bytes are kept", a)
		}
		scribble(b)
		if told(a) != want {
			t.Fatalf("%+v: the request is shared", a)
		}
		b, _ = Encode(a)
		for _, l := range lists(a) {
			scribble(l)
		}
		if !bytes.Equal(b, bytesWere) {
			t.Fatalf("%+v: the request is kept", a)
		}
		// Each list, written over, leaves the others as they were.
		all := lists(got)
		for i := range all {
			was := told(slices.Concat(all[:i], all[i+1:]))
			scribble(all[i])
			if told(slices.Concat(all[:i], all[i+1:])) != was {
				t.Fatal("two lists of one answer share memory")
			}
		}
	}
	one, _ := Roots(api.Ask{Kind: api.AskFeed, From: 1, To: 2})
	one[0] = 9
	if two, _ := Roots(api.Ask{Kind: api.AskFeed, From: 1, To: 2}); !slices.Equal(two, []int{1, 2}) {
		t.Fatal("two answers share memory")
	}
}
