package rows

import (
	"slices"
	"strings"

	"switchback/api"
	"switchback/catalog"
	"switchback/value"
)

// kindNull is the Kind of an api.Value that is NULL.
const kindNull = 0

// onWay are rows on their way from one list to the next, with the table that
// they are of. The rows are the callers' own: they are only read.
type onWay struct {
	catalog.Table
	list [][]api.Value
}

// turn answers what becomes of l.
func turn(t catalog.Table, l [][]api.Value, become func(w *onWay) api.Errno) ([][]api.Value, api.Errno) {
	if err := Check(t, l); err != api.OK {
		return nil, err
	}
	w := onWay{t, slices.Clone(l)}
	if err := become(&w); err != api.OK {
		return nil, err
	}
	return fresh(w.list), api.OK
}

// check tells whether the rows may be. Keys are asked last: only what fits has
// one.
func (w onWay) check() api.Errno {
	for _, row := range w.list {
		if err := w.fits(row); err != api.OK {
			return err
		}
	}
	for i := 1; i < len(w.list); i++ {
		if value.Order(w.keyOf(w.list[i-1]), w.keyOf(w.list[i])) >= 0 {
			return api.ErrState
		}
	}
	return api.OK
}

func (w onWay) fits(row []api.Value) api.Errno {
	if len(row) != len(w.Columns) {
		return api.ErrCount
	}
	for i, c := range w.Columns {
		if err := fitsColumn(c, row[i]); err != api.OK {
			return err
		}
	}
	return api.OK
}

func fitsColumn(c api.Column, v api.Value) api.Errno {
	switch {
	case value.Check(v) != api.OK:
		return api.ErrState
	case v.Kind == kindNull && c.NotNull:
		return api.ErrNull
	case v.Kind != kindNull && v.Kind != c.Kind:
		return api.ErrType
	}
	return api.OK
}

func (w onWay) keyOf(row []api.Value) api.Value {
	return row[w.Key]
}

func (w onWay) find(key api.Value) (int, bool) {
	return slices.BinarySearchFunc(w.list, key, func(row []api.Value, key api.Value) int {
		return value.Order(w.keyOf(row), key)
	})
}

func (w *onWay) insert(rows [][]api.Value) api.Errno {
	for _, row := range rows {
		if err := w.fits(row); err != api.OK {
			return err
		}
		at, is := w.find(w.keyOf(row))
		switch {
		case is:
			return api.ErrKey
		case len(w.list) == api.MaxRows:
			return api.ErrFull
		}
		w.list = slices.Insert(w.list, at, row)
	}
	return api.OK
}

func (w *onWay) delete(keys []api.Value) api.Errno {
	for _, key := range keys {
		at, is := w.find(key)
		if !is {
			return api.ErrNone
		}
		w.list = slices.Delete(w.list, at, at+1)
	}
	return api.OK
}

// fresh is l in memory of its own, its texts too.
func fresh(l [][]api.Value) [][]api.Value {
	var next [][]api.Value
	for _, row := range l {
		row = slices.Clone(row)
		for i, v := range row {
			row[i].Text = strings.Clone(v.Text)
		}
		next = append(next, row)
	}
	return next
}
