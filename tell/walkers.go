package tell

import (
	"annals/api"
	"annals/fields"
	"annals/path"
	"annals/record"
	"annals/span"
)

// writer writes a reply's fields.
type writer struct {
	fields.Writer
	size int
}

func (w *writer) answer(kind int, a *api.Answer) {
	text := Answer(nil, kind, *a)
	w.Text(&text, maxAnswer)
}

func (w *writer) way(p *api.Path) {
	w.Put(path.Write(nil, *p))
}

func (w *writer) tree(p *api.Part) {
	w.Put(span.Write(nil, *p))
}

func (w *writer) record(r *api.Record) {
	// Of a record that may not be there are no bytes, and so an empty text.
	text, _ := record.Encode(w.size, *r)
	w.Text(&text, len(text))
}

// reader reads a reply's fields, and throws what is wrong with them.
type reader struct {
	fields.Reader
	size int
}

func (r *reader) answer(kind int, a *api.Answer) {
	var text []byte
	r.Text(&text, maxAnswer)
	got, left, errno := ReadAnswer(kind, text)
	fields.Throw(errno)
	if len(left) > 0 {
		fields.Throw(api.ErrForm)
	}
	*a = got
}

func (r *reader) way(p *api.Path) {
	got, left, errno := path.Read(r.size, r.Left())
	r.GoOn(left, errno)
	*p = got
}

func (r *reader) tree(p *api.Part) {
	got, left, errno := span.Read(r.size, r.Left())
	r.GoOn(left, errno)
	*p = got
}

func (r *reader) record(to *api.Record) {
	// No bound but what is there: what is longer than a record, record.Decode refuses.
	var text []byte
	r.Text(&text, len(r.Left()))
	got, errno := record.Decode(r.size, text)
	fields.Throw(errno)
	*to = got
}
