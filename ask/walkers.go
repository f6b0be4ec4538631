package ask

import (
	"annals/api"
	"annals/change"
	"annals/fields"
)

// judge holds fields against their bounds, and empties each: what a request still has then, its kind has not.
type judge struct{ beyond bool }

func (j *judge) Number(n *int, most int) {
	j.beyond = j.beyond || *n < 0 || *n > most
	*n = 0
}

func (j *judge) Text(s *[]byte, most int) {
	j.beyond = j.beyond || len(*s) > most
	*s = nil
}

func (j *judge) Flag(yes *bool) bool {
	was := *yes
	*yes = false
	return was
}

func (j *judge) batch(l *[]api.Binding) {
	j.beyond = j.beyond || len(*l) > api.MaxBatch
	for _, b := range *l {
		j.beyond = j.beyond || len(b.ID) > api.MaxID || len(b.Key) > api.MaxKey
	}
	*l = nil
}

// blank tells whether a request has nothing, its kind not looked at.
func blank(a api.Ask) bool {
	numbers := [...]int{a.From, a.To, a.Time, a.Epoch, a.Index, a.Limit}
	return numbers == [len(numbers)]int{} && !a.Some && len(a.ID) == 0 && len(a.Batch) == 0
}

// writer writes a request's fields.
type writer struct{ fields.Writer }

func (w *writer) batch(l *[]api.Binding) {
	w.Put(change.Write(nil, *l))
}

// reader reads a request's fields.
type reader struct{ fields.Reader }

func (r *reader) batch(l *[]api.Binding) {
	bounds := api.Params{MaxID: api.MaxID, MaxKey: api.MaxKey}
	list, left, errno := change.Read(bounds, r.Left())
	r.GoOn(left, errno)
	*l = list
}
