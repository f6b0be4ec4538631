// Package copies is no layer: it makes the copies that several layers keep, or hand out.
package copies

import (
	"bytes"
	"slices"

	"annals/api"
)

// Batch is a batch in memory of its own.
func Batch(l []api.Binding) []api.Binding {
	out := make([]api.Binding, len(l))
	for i, b := range l {
		out[i] = api.Binding{ID: bytes.Clone(b.ID), Key: bytes.Clone(b.Key)}
	}
	return out
}

// Record is a record in memory of its own.
func Record(r api.Record) api.Record {
	r.Tree = bytes.Clone(r.Tree)
	r.List = bytes.Clone(r.List)
	r.Links = slices.Clone(r.Links)
	for i, link := range r.Links {
		r.Links[i] = bytes.Clone(link)
	}
	return r
}
