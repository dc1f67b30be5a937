package catalog

import (
	"slices"
	"strings"

	"switchback/api"
)

// Encode answers a table's definition as a list of values.
func Encode(t Table) ([]api.Value, api.Errno) {
	if !isTable(t, names{}) {
		return nil, api.ErrState
	}
	l := []api.Value{text(t.Name), number(t.Key), number(len(t.Columns))}
	for _, c := range t.Columns {
		l = append(l, text(c.Name), number(c.Kind), truth(c.NotNull))
	}
	l = append(l, number(len(t.Indexes)))
	for _, x := range t.Indexes {
		l = append(l, text(x.Name), number(x.Column))
	}
	return l, api.OK
}

// Decode answers the table of which Encode makes l.
func Decode(l []api.Value) (Table, api.Errno) {
	r := reader{rest: l}
	t := r.table()
	// The reader takes any values for those that ought to stand there: only
	// if they do, the table is written as what was read.
	again, err := Encode(t)
	if err != api.OK || !slices.Equal(again, l) {
		return Table{}, api.ErrState
	}
	return t, api.OK
}

// A reader goes through a list of values; behind its end stands NULL.
type reader struct {
	rest []api.Value
}

func (r *reader) table() Table {
	t := Table{Name: r.text(), Key: r.number()}
	for range min(r.number(), api.MaxCols) {
		t.Columns = append(t.Columns, api.Column{Name: r.text(), Kind: r.number(), NotNull: r.number() != 0})
	}
	for range min(r.number(), api.MaxIndex) {
		t.Indexes = append(t.Indexes, Index{Name: r.text(), Column: r.number()})
	}
	return t
}

func (r *reader) value() api.Value {
	if len(r.rest) == 0 {
		return api.Value{}
	}
	v := r.rest[0]
	r.rest = r.rest[1:]
	return v
}

// text answers a text of its own: the list's would share its memory.
func (r *reader) text() string {
	return strings.Clone(r.value().Text)
}

func (r *reader) number() int {
	return r.value().N
}

func text(s string) api.Value {
	return api.Value{Kind: valueText, Text: strings.Clone(s)}
}

func number(n int) api.Value {
	return api.Value{Kind: valueNumber, N: n}
}

func truth(is bool) api.Value {
	v := api.Value{Kind: valueTruth}
	if is {
		v.N = 1
	}
	return v
}
