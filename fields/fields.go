// Package fields is no layer: by it the layers ask and tell go through the fields of requests, answers and replies, to write them and to read them.
package fields

import "annals/api"

// Walker is shown fields one by one, in the order of their bytes, so that this order stands in one place, whatever is done to each: a number or a text with its bound.
type Walker interface {
	Number(n *int, most int)
	Text(s *[]byte, most int)
	// Flag tells what the field has then: behind some, others follow only if they are set.
	Flag(yes *bool) bool
}

// Numbers shows numbers that have one bound.
func Numbers(w Walker, most int, list ...*int) {
	for _, n := range list {
		w.Number(n, most)
	}
}

// List shows how many things a list has, and then each of them.
func List[T any](w Walker, l *[]T, most int, each func(*T)) {
	n := len(*l)
	w.Number(&n, most)
	// Only one who reads changes the number: a list that is written is the caller's, and stays as it is.
	if n != len(*l) {
		*l = make([]T, n)
	}
	for i := range *l {
		each(&(*l)[i])
	}
}

// wrong is an error that was thrown.
type wrong api.Errno

// Throw throws an error, if it is one.
func Throw(errno api.Errno) {
	if errno != api.OK {
		panic(wrong(errno))
	}
}

// Caught is the error in what recover told: what Throw did not throw goes on falling.
func Caught(thrown any) api.Errno {
	switch x := thrown.(type) {
	case nil:
		return api.OK
	case wrong:
		return api.Errno(x)
	}
	panic(thrown)
}
