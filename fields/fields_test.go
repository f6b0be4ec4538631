package fields

import (
	"bytes"
	"errors"
	"testing"

	"annals/api"
)

// caught is what Caught tells of what something throws.
func caught(do func()) (errno api.Errno) {
	defer func() { errno = Caught(recover()) }()
	do()
	return api.OK
}

// What Throw throws is caught; where nothing was thrown, OK is told.
func TestCaught(t *testing.T) {
	for _, errno := range []api.Errno{api.ErrArg, api.ErrShort, api.ErrForm, -1, 1 << 40} {
		if got := caught(func() { Throw(errno) }); got != errno {
			t.Errorf("%v, not %v", got, errno)
		}
	}
	if got := caught(func() { Throw(api.OK) }); got != api.OK {
		t.Error(got)
	}
}

// What somebody else threw goes on falling.
func TestNotCaught(t *testing.T) {
	for _, other := range []any{"text", errors.New("error"), api.ErrForm, 5} {
		func() {
			defer func() {
				if got := recover(); got != other {
					t.Errorf("%v, not %v", got, other)
				}
			}()
			caught(func() { panic(other) })
		}()
	}
}

// What a writer was shown, a reader fills in; a list that is there is not made anew.
func TestThere(t *testing.T) {
	l, n, yes, s := []int{7, 300}, 258, true, []byte("ab")
	first := &l[0]
	show := func(w Walker, l *[]int, n *int, yes *bool, s *[]byte) bool {
		List(w, l, 3, func(x *int) { w.Number(x, 300) })
		Numbers(w, 300, n, n)
		w.Text(s, 2)
		return w.Flag(yes)
	}
	w := Behind([]byte{9})
	if !show(&w, &l, &n, &yes, &s) || &l[0] != first {
		t.Error("the list is another one")
	}
	want := []byte{9, 1, 2, 1, 7, 2, 1, 44, 2, 1, 2, 2, 1, 2, 1, 2, 'a', 'b', 1}
	if !bytes.Equal(w.Written(), want) {
		t.Fatalf("%v, not %v", w.Written(), want)
	}
	var list []int
	var number int
	var flag bool
	var text []byte
	r := Open(want[1:])
	if !show(&r, &list, &number, &flag, &text) || len(list) != 2 || list[0] != 7 || list[1] != 300 || number != 258 || string(text) != "ab" {
		t.Error(list, number, flag, text)
	}
	r.End()
}

// A reader throws ErrForm of what is left, and goes on at what another layer left, or throws its error.
func TestLeft(t *testing.T) {
	r := Open([]byte{0, 1, 5})
	var n int
	r.Number(&n, 0)
	if !bytes.Equal(r.Left(), []byte{1, 5}) {
		t.Fatal(r.Left())
	}
	if got := caught(r.End); got != api.ErrForm {
		t.Error(got)
	}
	if got := caught(func() { r.GoOn([]byte{0}, api.ErrQuota) }); got != api.ErrQuota {
		t.Error(got)
	}
	r.GoOn([]byte{1, 6}, api.OK)
	if r.Number(&n, 6); n != 6 {
		t.Error(n)
	}
	if got := caught(r.End); got != api.OK {
		t.Error(got)
	}
	if got := caught(func() { r.Number(&n, 6) }); got != api.ErrShort {
		t.Error(got)
	}
}

// A reader throws the codec's error at the field that has it.
func TestThrows(t *testing.T) {
	var n int
	var s []byte
	var yes bool
	for _, c := range []struct {
		b                  []byte
		number, text, flag api.Errno
	}{
		{nil, api.ErrShort, api.ErrShort, api.ErrShort},
		{[]byte{9}, api.ErrForm, api.ErrForm, api.ErrForm},
		{[]byte{1, 3, 0, 0, 0}, api.ErrFull, api.ErrFull, api.OK},
		{[]byte{1, 2, 0}, api.OK, api.ErrShort, api.OK},
		{[]byte{2, 1, 0}, api.ErrFull, api.ErrFull, api.ErrForm},
	} {
		number, text, flag := Open(c.b), Open(c.b), Open(c.b)
		if got := caught(func() { number.Number(&n, 2) }); got != c.number {
			t.Errorf("%v: %v, not %v", c.b, got, c.number)
		}
		if got := caught(func() { text.Text(&s, 2) }); got != c.text {
			t.Errorf("%v: %v, not %v", c.b, got, c.text)
		}
		if got := caught(func() { flag.Flag(&yes) }); got != c.flag {
			t.Errorf("%v: %v, not %v", c.b, got, c.flag)
		}
	}
}
