package tell

import (
	"bytes"
	"fmt"
	"math"
	"math/rand"
	"slices"
	"strings"
	"testing"

	"annals/api"
)

// told is something as a text, so that no list and an empty one are alike.
func told(x any) string { return fmt.Sprintf("%+v", x) }

// number is a number as bytes, spelled by hand: below 0 it counts as 0.
func number(n int) []byte {
	var digits []byte
	for ; n > 0; n /= 256 {
		digits = append([]byte{byte(n % 256)}, digits...)
	}
	return append([]byte{byte(len(digits))}, digits...)
}

// text is a text as bytes, spelled by hand.
func text(s []byte) []byte { return append(number(len(s)), s...) }

// flag is a yes or no as bytes.
func flag(yes bool) []byte {
	if yes {
		return []byte{1}
	}
	return []byte{0}
}

// spelledAnswer is an answer's bytes, by hand.
func spelledAnswer(kind int, a api.Answer) []byte {
	b := number(int(a.Code))
	if a.Code != 0 {
		return b
	}
	state := flag(a.Present)
	if a.Present {
		state = slices.Concat(state, text(a.Key), number(a.Since))
	}
	switch kind {
	case 1:
		return append(b, number(a.Epoch)...)
	case 3:
		return append(b, state...)
	case 4:
		return slices.Concat(b, number(a.Epoch), state)
	case 5:
		return slices.Concat(b, flag(a.Same), state)
	case 6, 10:
		b = append(b, number(len(a.Items))...)
		for _, x := range a.Items {
			b = slices.Concat(b, text(x.ID), text(x.Key), number(x.Since))
		}
		return append(b, flag(a.More)...)
	case 7:
		b = append(b, number(len(a.Events))...)
		for _, x := range a.Events {
			b = slices.Concat(b, number(x.Epoch), number(x.Index), text(x.ID), text(x.Key))
		}
		b = append(b, flag(a.More)...)
		if a.More {
			b = slices.Concat(b, number(a.Epoch), number(a.Since))
		}
	}
	return b
}

// kinds is all kinds of requests, and some that there are not.
var kinds = []int{1, 2, 3, 4, 5, 6, 7, 8, 9, 10, 0, 11, -1, 99, math.MinInt, math.MaxInt}

// sample is an answer to a kind of requests, and its bytes.
type sample struct {
	kind int
	a    api.Answer
	b    string
}

// samples has answers to each kind with bytes that are spelled out: ordinary ones, those of nothing, and the greatest ones that are read.
func samples() []sample {
	const g = 1 << 31
	const greatest = "\x04\x80\x00\x00\x00"
	long := strings.Repeat("x", 300)
	longText := "\x02\x01\x2c" + long
	var items []api.Item
	var events []api.Event
	itemsBytes, eventsBytes := "\x00\x01\x20", "\x00\x01\x20"
	for range 32 {
		items = append(items, api.Item{ID: []byte(long), Key: []byte(long), Since: g})
		itemsBytes += longText + longText + greatest
		events = append(events, api.Event{Epoch: g, Index: g, ID: []byte(long), Key: []byte(long)})
		eventsBytes += greatest + greatest + longText + longText
	}
	l := []sample{
		{1, api.Answer{Epoch: 3}, "\x00\x01\x03"}, {1, api.Answer{}, "\x00\x00"}, {1, api.Answer{Epoch: g}, "\x00" + greatest},
		{2, api.Answer{}, "\x00"}, {8, api.Answer{}, "\x00"}, {9, api.Answer{}, "\x00"}, {0, api.Answer{}, "\x00"}, {11, api.Answer{}, "\x00"}, {-7, api.Answer{}, "\x00"},
		{3, api.Answer{}, "\x00\x00"},
		{3, api.Answer{Present: true}, "\x00\x01\x00\x00"},
		{3, api.Answer{Present: true, Key: []byte("k"), Since: 258}, "\x00\x01\x01\x01k\x02\x01\x02"},
		{3, api.Answer{Present: true, Key: []byte(long), Since: g}, "\x00\x01" + longText + greatest},
		{4, api.Answer{}, "\x00\x00\x00"},
		{4, api.Answer{Epoch: 5}, "\x00\x01\x05\x00"},
		{4, api.Answer{Epoch: 5, Present: true, Key: []byte("k"), Since: 4}, "\x00\x01\x05\x01\x01\x01k\x01\x04"},
		{4, api.Answer{Epoch: g, Present: true, Key: []byte(long), Since: g}, "\x00" + greatest + "\x01" + longText + greatest},
		{5, api.Answer{}, "\x00\x00\x00"},
		{5, api.Answer{Same: true}, "\x00\x01\x00"},
		{5, api.Answer{Same: true, Present: true, Key: []byte("k"), Since: 3}, "\x00\x01\x01\x01\x01k\x01\x03"},
		{5, api.Answer{Present: true, Key: []byte(long), Since: g}, "\x00\x00\x01" + longText + greatest},
		{7, api.Answer{}, "\x00\x00\x00"},
		{7, api.Answer{Events: []api.Event{{Epoch: 1, Index: 2, ID: []byte("a"), Key: []byte("kk")}, {}}}, "\x00\x01\x02\x01\x01\x01\x02\x01\x01a\x01\x02kk\x00\x00\x00\x00\x00"},
		{7, api.Answer{More: true}, "\x00\x00\x01\x00\x00"},
		{7, api.Answer{Events: []api.Event{{Epoch: 3}}, More: true, Epoch: 4, Since: 5}, "\x00\x01\x01\x01\x03\x00\x00\x00\x01\x01\x04\x01\x05"},
		{7, api.Answer{Events: events, More: true, Epoch: g, Since: g}, eventsBytes + "\x01" + greatest + greatest},
	}
	for _, kind := range []int{6, 10} {
		l = append(l, sample{kind, api.Answer{}, "\x00\x00\x00"}, sample{kind, api.Answer{More: true}, "\x00\x00\x01"},
			sample{kind, api.Answer{Items: []api.Item{{ID: []byte("a"), Key: []byte("kk"), Since: 7}, {}}, More: true}, "\x00\x01\x02\x01\x01a\x01\x02kk\x01\x07\x00\x00\x00\x01"},
			sample{kind, api.Answer{Items: items}, itemsBytes + "\x00"})
	}
	for _, kind := range kinds {
		for errno, b := range map[api.Errno]string{api.ErrArg: "\x01\x01", api.ErrFuture: "\x01\x53", api.ErrProof: "\x01\x5f", 300: "\x02\x01\x2c", g: greatest} {
			l = append(l, sample{kind, api.Answer{Code: errno}, b})
		}
	}
	return l
}

// P26.1, example 1: the bytes behind others, and the answer again, whatever is left behind it.
func TestSamples(t *testing.T) {
	for _, s := range samples() {
		for _, ahead := range []string{"", "\x09", "ahead"} {
			if b := Answer([]byte(ahead), s.kind, s.a); string(b) != ahead+s.b {
				t.Errorf("%d, %+v: %q, not %q", s.kind, s.a, b, ahead+s.b)
			}
		}
		if b := Answer(nil, s.kind, s.a); string(b) != s.b || string(spelledAnswer(s.kind, s.a)) != s.b {
			t.Errorf("%d, %+v: %q, not %q", s.kind, s.a, b, s.b)
		}
		for _, left := range []string{"", "\x00", "\xff\xff", s.b, strings.Repeat("z", 10000)} {
			a, rest, errno := ReadAnswer(s.kind, []byte(s.b+left))
			if errno != api.OK || told(a) != told(s.a) || string(rest) != left {
				t.Errorf("%d, %q: %+v, %q, %v, not %+v", s.kind, s.b, a, rest, errno, s.a)
			}
		}
	}
}

// P26.1: what the kind has not is not written; with an error nothing else is; numbers below 0 count as 0; nothing is too great.
func TestAnswerOfWhatever(t *testing.T) {
	full := api.Answer{
		Epoch: 1, Present: true, Same: true, Key: []byte("k"), Since: 2, More: true,
		Items: make([]api.Item, 80), Events: make([]api.Event, 80),
	}
	for i := range 80 {
		full.Items[i] = api.Item{ID: make([]byte, 8*i), Key: make([]byte, i), Since: 1 << 40}
		full.Events[i] = api.Event{Epoch: 1 << 33, Index: -i, ID: make([]byte, i), Key: make([]byte, 8*i)}
	}
	below := full
	below.Epoch, below.Since = math.MinInt, -1
	huge := full
	huge.Epoch, huge.Since = 1<<62, 1<<61
	absent := full
	absent.Present, absent.More = false, false
	for _, kind := range kinds {
		for _, a := range []api.Answer{full, below, huge, absent} {
			want := told(a)
			for _, code := range []api.Errno{0, 1, 83, -1, math.MinInt, 1 << 40} {
				a.Code = code
				if b := Answer(nil, kind, a); !bytes.Equal(b, spelledAnswer(kind, a)) {
					t.Errorf("%d: %q", kind, b)
				}
			}
			if a.Code = 0; told(a) != want {
				t.Errorf("%d: the answer is changed", kind)
			}
		}
	}
	if b := Answer(nil, 1, api.Answer{Epoch: math.MaxInt}); string(b) != "\x00\x08\x40\x00\x00\x00\x00\x00\x00\x00" {
		t.Errorf("%q", b)
	}
	if b := Answer(nil, 1, api.Answer{Code: -1, Epoch: 3}); string(b) != "\x00" {
		t.Errorf("%q", b)
	}
}

// unread has ReadAnswer tell an error of bytes.
func unread(t *testing.T, kind int, b string, errno api.Errno) {
	t.Helper()
	if a, left, got := ReadAnswer(kind, []byte(b)); got != errno || told(a) != told(api.Answer{}) || len(left) != 0 {
		t.Errorf("%d, %q: %+v, %q, %v, not %v", kind, b, a, left, got, errno)
	}
}

// P26.1: each beginning ends too early.
func TestReadAnswerShort(t *testing.T) {
	for _, s := range samples() {
		for n := 0; n < len(s.b); n += 1 + n/500 {
			unread(t, s.kind, s.b[:n], api.ErrShort)
		}
	}
}

// P26.1: the codec's errors, the first one first.
func TestReadAnswerErrors(t *testing.T) {
	const beyond, long = "\x04\x80\x00\x00\x01", "\x02\x01\x2d"
	full, form := api.ErrFull, api.ErrForm
	z := strings.Repeat("\x00", 700)
	for _, kind := range kinds {
		unread(t, kind, beyond, full)
		unread(t, kind, beyond+z, full)
		unread(t, kind, "\x09"+z, form)
		unread(t, kind, "\x01\x00"+z, form)
		unread(t, kind, "\x08\x40\x00\x00\x00\x00\x00\x00\x01", form)
	}
	for _, kind := range []int{3, 4, 5} {
		ahead := map[int]string{3: "\x00", 4: "\x00\x00", 5: "\x00\x01"}[kind]
		unread(t, kind, ahead+"\x02"+z, form)
		unread(t, kind, ahead+"\xff", form)
		unread(t, kind, ahead+"\x01"+long+z, full)
		unread(t, kind, ahead+"\x01\x09"+beyond, form)
		unread(t, kind, ahead+"\x01\x00"+beyond, full)
		unread(t, kind, ahead+"\x01\x00\x01\x00", form)
	}
	for _, kind := range []int{1, 4} {
		unread(t, kind, "\x00"+beyond+"\x02", full)
		unread(t, kind, "\x00\x09"+beyond, form)
	}
	unread(t, 5, "\x00\x02"+beyond, form)
	for _, kind := range []int{6, 10} {
		unread(t, kind, "\x00\x01\x21"+z, full)
		unread(t, kind, "\x00"+beyond+z, full)
		unread(t, kind, "\x00\x01\x00", form)
		for _, ahead := range []string{"\x00\x01\x01", "\x00\x01\x02\x00\x00\x00"} {
			unread(t, kind, ahead+long+z, full)
			unread(t, kind, ahead+"\x00"+long+z, full)
			unread(t, kind, ahead+"\x00\x00"+beyond+"\x02", full)
			unread(t, kind, ahead+"\x00\x09"+beyond, form)
		}
		unread(t, kind, "\x00\x01\x01\x00\x00\x00\x02", form)
		unread(t, kind, "\x00\x00\x02", form)
	}
	unread(t, 7, "\x00\x01\x21"+z, full)
	for _, ahead := range []string{"\x00\x01\x01", "\x00\x01\x02\x00\x00\x00\x00"} {
		unread(t, 7, ahead+beyond+"\x09", full)
		unread(t, 7, ahead+"\x00"+beyond+"\x09", full)
		unread(t, 7, ahead+"\x00\x09"+beyond, form)
		unread(t, 7, ahead+"\x00\x00"+long+z, full)
		unread(t, 7, ahead+"\x00\x00\x00"+long+z, full)
	}
	unread(t, 7, "\x00\x00\x02", form)
	unread(t, 7, "\x00\x00\x01"+beyond+"\x09", full)
	unread(t, 7, "\x00\x00\x01\x00"+beyond, full)
}

// drawnBytes is some bytes.
func drawnBytes(r *rand.Rand, most int) []byte {
	b := make([]byte, r.Intn(most+1))
	r.Read(b)
	return b
}

// drawnAnswer is an answer to a kind of requests that is read.
func drawnAnswer(r *rand.Rand, kind int) api.Answer {
	n := func() int { return r.Intn(1<<r.Intn(32) + 1) }
	if r.Intn(6) == 0 {
		return api.Answer{Code: api.Errno(n())}
	}
	var a api.Answer
	if kind == 1 || kind == 4 {
		a.Epoch = n()
	}
	if kind == 5 {
		a.Same = r.Intn(2) == 0
	}
	if kind >= 3 && kind <= 5 && r.Intn(3) > 0 {
		a.Present, a.Key, a.Since = true, drawnBytes(r, 48), n()
	}
	if kind == 6 || kind == 10 {
		for range r.Intn(33) {
			a.Items = append(a.Items, api.Item{ID: drawnBytes(r, 24), Key: drawnBytes(r, 48), Since: n()})
		}
		a.More = r.Intn(2) == 0
	}
	if kind == 7 {
		for range r.Intn(33) {
			a.Events = append(a.Events, api.Event{Epoch: n(), Index: n(), ID: drawnBytes(r, 24), Key: drawnBytes(r, 48)})
		}
		if a.More = r.Intn(2) == 0; a.More {
			a.Epoch, a.Since = n(), n()
		}
	}
	return a
}

// P26.1: what was written is read; of all bytes whatever ReadAnswer ends, and Answer of what it tells is the bytes that were read.
func TestReadAnswerOfWhatever(t *testing.T) {
	r := rand.New(rand.NewSource(1))
	taken := 0
	for range 30000 {
		kind := r.Intn(12)
		a := drawnAnswer(r, kind)
		b := Answer(nil, kind, a)
		if again, left, errno := ReadAnswer(kind, b); errno != api.OK || len(left) != 0 || told(again) != told(a) {
			t.Fatalf("%d, %+v: %+v, %v", kind, a, again, errno)
		}
		for range 1 + r.Intn(3) {
			b[r.Intn(len(b))] = byte(r.Intn(5))
		}
		a, left, errno := ReadAnswer(kind, b)
		if errno != api.OK {
			unread(t, kind, string(b), errno)
			continue
		}
		taken++
		if got := append(Answer(nil, kind, a), left...); !bytes.Equal(got, b) {
			t.Fatalf("%d, %q: %+v, %q", kind, b, a, left)
		}
	}
	if taken < 1000 {
		t.Error("few were taken:", taken)
	}
}
