package catalog

import (
	"switchback/api"
	"switchback/syntax"
)

// names are those that were seen.
type names map[string]struct{}

// areNew tells whether none of a list's names was seen ahead of its place.
func areNew[T any](l []T, seen names, nameOf func(x T) string) bool {
	for _, x := range l {
		name := nameOf(x)
		if _, is := seen[name]; is {
			return false
		}
		seen[name] = struct{}{}
	}
	return true
}

func columnName(c api.Column) string {
	return c.Name
}

func indexName(x Index) string {
	return x.Name
}

func mayBe(s State) bool {
	// How many there are is asked ahead of what they are, here and below, so
	// that no more is gone through than may be.
	if len(s.Tables) > api.MaxTables {
		return false
	}
	seen := names{}
	for i, t := range s.Tables {
		rises := i == 0 || s.Tables[i-1].Name < t.Name
		if !rises || !isTable(t, seen) {
			return false
		}
	}
	clear(seen)
	for _, t := range s.Tables {
		if !areNew(t.Indexes, seen, indexName) {
			return false
		}
	}
	return true
}

// isTable tells whether t may be, by itself: what was seen ahead is none of
// its names.
func isTable(t Table, seen names) bool {
	if !syntax.Name(t.Name) || !areColumns(t.Columns) || !areIndexes(t) {
		return false
	}
	clear(seen)
	if !areNew(t.Columns, seen, columnName) {
		return false
	}
	clear(seen)
	return areNew(t.Indexes, seen, indexName) && isPlace(t, t.Key) && t.Columns[t.Key].NotNull
}

// areColumns tells whether a table may have those columns, but for names that
// are there twice.
func areColumns(l []api.Column) bool {
	if len(l) == 0 || len(l) > api.MaxCols {
		return false
	}
	for _, c := range l {
		if !syntax.Name(c.Name) || c.Kind < valueNumber || c.Kind > valueText {
			return false
		}
	}
	return true
}

// areIndexes tells whether t may have its indexes, but for names that are
// there twice.
func areIndexes(t Table) bool {
	if len(t.Indexes) > api.MaxIndex {
		return false
	}
	for _, x := range t.Indexes {
		if !syntax.Name(x.Name) || !isPlace(t, x.Column) {
			return false
		}
	}
	return true
}

func isPlace(t Table, at int) bool {
	return at >= 0 && at < len(t.Columns)
}
