package ssi_test

import (
	"slices"
	"testing"

	"switchback/api"
	"switchback/ssi"
)

type drawn struct {
	reader, writer         string
	readerThen, writerThen string
	gone                   string
}

// draws are what an edge makes of both: A is active, C committed, each with its flags; of those who are to be given up R is the reader, W the writer.
func draws() []drawn {
	return []drawn{
		{"A", "A", "AO", "AI", ""},
		{"AO", "A", "AO", "AI", ""},
		{"A", "AI", "AO", "AI", ""},
		{"AO", "AI", "AO", "AI", ""},
		{"AI", "A", "AIO", "AI", "R"},
		{"AIO", "A", "AIO", "AI", "R"},
		{"AI", "AI", "AIO", "AI", "R"},
		{"A", "AO", "AO", "AIO", "W"},
		{"A", "AIO", "AO", "AIO", "W"},
		{"AO", "AO", "AO", "AIO", "W"},
		{"AI", "AO", "AIO", "AIO", "RW"},
		{"AIO", "AO", "AIO", "AIO", "RW"},
		{"AI", "AIO", "AIO", "AIO", "RW"},
		{"AIO", "AIO", "AIO", "AIO", "RW"},
		{"C", "A", "CO", "AI", ""},
		{"CO", "A", "CO", "AI", ""},
		{"C", "AI", "CO", "AI", ""},
		{"C", "AO", "CO", "AIO", "W"},
		{"C", "AIO", "CO", "AIO", "W"},
		{"CI", "A", "CI", "AI", "W"},
		{"CI", "AI", "CI", "AI", "W"},
		{"CI", "AO", "CI", "AIO", "W"},
		{"CI", "AIO", "CI", "AIO", "W"},
		{"A", "C", "AO", "CI", ""},
		{"AO", "C", "AO", "CI", ""},
		{"A", "CI", "AO", "CI", ""},
		{"AI", "C", "AIO", "CI", "R"},
		{"AIO", "C", "AIO", "CI", "R"},
		{"A", "CO", "AO", "CO", "R"},
		{"AO", "CO", "AO", "CO", "R"},
		{"AI", "CO", "AIO", "CO", "R"},
		{"AIO", "CO", "AIO", "CO", "R"},
		{"C", "C", "CO", "CI", ""},
		{"CO", "CI", "CO", "CI", ""},
		{"CI", "C", "CI", "CI", ""},
		{"C", "CO", "CO", "CO", ""},
		{"CI", "CO", "CI", "CO", ""},
		// Of states that no call made.
		{"CIO", "A", "CIO", "AI", "W"},
		{"CIO", "AO", "CIO", "AIO", "W"},
		{"A", "CIO", "AO", "CIO", "R"},
		{"AI", "CIO", "AIO", "CIO", "R"},
		{"CIO", "C", "CIO", "CI", ""},
		{"CIO", "CIO", "CIO", "CIO", ""},
	}
}

// written is a transaction as draws have it.
func written(id, start, end int, mark string) ssi.Txn {
	if mark[0] == 'A' {
		end = 0
	}
	return txn(id, start, end, mark[1:])
}

func TestP171Edge(t *testing.T) {
	for _, d := range draws() {
		what := "reader " + d.reader + ", writer " + d.writer
		for _, reader := range []int{4, 9} {
			writer := 13 - reader
			beside := txns{txn(2, 1, 3, "I"), txn(5, 4, 0, "IO"), txn(10, 2, 9, "IO"), txn(11, 1, 0, "O"), txn(12, 1, -1, "IO")}
			state := func(r, w string) ssi.State {
				l := append(slices.Clone(beside), written(reader, 4, 6, r), written(writer, 5, 7, w))
				slices.SortFunc(l, func(x, y ssi.Txn) int { return x.ID - y.ID })
				return of(9, 30, l...)
			}
			var gone []int
			for _, who := range d.gone {
				gone = append(gone, map[rune]int{'R': reader, 'W': writer}[who])
			}
			s, l, err := ssi.Edge(state(d.reader, d.writer), reader, writer)
			tells(t, what, s, err, state(d.readerThen, d.writerThen))
			numbers(t, what, l, gone)
			s, l, err = ssi.Edge(s, reader, writer)
			tells(t, what+", once more", s, err, state(d.readerThen, d.writerThen))
			numbers(t, what+", once more", l, gone)
		}
	}
}

// A reader and a writer, whose times meet, or not.
func TestP171EdgeAtTheSameTime(t *testing.T) {
	for _, d := range []struct {
		what           string
		reader, writer ssi.Txn
		is             bool
	}{
		{"both active, of one snapshot", txn(1, 5, 0, ""), txn(2, 5, 0, ""), true},
		{"both active, the reader's older", txn(1, 0, 0, ""), txn(2, 9, 0, ""), true},
		{"both active, the writer's older", txn(1, 9, 0, ""), txn(2, 0, 0, ""), true},
		{"the writer committed ahead of the snapshot", txn(1, 5, 0, ""), txn(2, 1, 4, ""), false},
		{"the writer committed at the snapshot", txn(1, 5, 0, ""), txn(2, 1, 5, ""), false},
		{"the writer committed right behind the snapshot", txn(1, 5, 0, ""), txn(2, 1, 6, ""), true},
		{"the writer committed at 1, the snapshot is 0", txn(1, 0, 0, ""), txn(2, 0, 1, ""), true},
		{"the writer committed at 1, as the snapshot is", txn(1, 1, 0, ""), txn(2, 0, 1, ""), false},
		{"the writer began behind and committed", txn(1, 5, 0, ""), txn(2, 7, 8, ""), true},
		{"the reader committed ahead of the snapshot", txn(1, 1, 4, ""), txn(2, 5, 0, ""), false},
		{"the reader committed at the snapshot", txn(1, 1, 5, ""), txn(2, 5, 0, ""), false},
		{"the reader committed right behind the snapshot", txn(1, 1, 6, ""), txn(2, 5, 0, ""), true},
		{"the reader committed at 1, the snapshot is 0", txn(1, 0, 1, ""), txn(2, 0, 0, ""), true},
		{"both committed, of one snapshot", txn(1, 5, 6, ""), txn(2, 5, 7, ""), true},
		{"both committed, one in the other", txn(1, 1, 9, ""), txn(2, 3, 4, ""), true},
		{"both committed, one over the other's end", txn(1, 1, 4, ""), txn(2, 3, 9, ""), true},
		{"both committed, the writer at the reader's snapshot", txn(1, 4, 9, ""), txn(2, 1, 4, ""), false},
		{"both committed, the reader at the writer's snapshot", txn(1, 1, 4, ""), txn(2, 4, 9, ""), false},
		{"both committed, far apart", txn(1, 1, 2, ""), txn(2, 8, 9, ""), false},
		{"the reader was given up", txn(1, 5, -1, ""), txn(2, 5, 0, ""), false},
		{"the writer was given up", txn(1, 5, 0, ""), txn(2, 5, -1, ""), false},
		{"both were given up", txn(1, 5, -1, ""), txn(2, 5, -1, ""), false},
		{"the reader was given up, the writer committed", txn(1, 0, -1, ""), txn(2, 5, 6, ""), false},
		{"the writer was given up, the reader committed", txn(1, 5, 6, ""), txn(2, 0, -1, ""), false},
		{"given up, of a snapshot 0", txn(1, 0, -1, ""), txn(2, 0, 0, ""), false},
	} {
		s, l, err := ssi.Edge(of(9, 3, d.reader, d.writer), 1, 2)
		want := of(9, 3, d.reader, d.writer)
		want.Txns[0].Out = d.is
		want.Txns[1].In = d.is
		tells(t, d.what, s, err, want)
		numbers(t, d.what, l, nil)
		// Who is to be given up otherwise is not asked for, either.
		d.reader.In, d.writer.Out = true, true
		s, l, err = ssi.Edge(of(9, 3, d.reader, d.writer), 1, 2)
		if !d.is {
			tells(t, d.what, s, err, of(9, 3, d.reader, d.writer))
			numbers(t, d.what, l, nil)
		} else if len(l) == 0 && (d.reader.End == 0 || d.writer.End == 0) {
			t.Error(d.what + ": nobody is to be given up")
		}
	}
}

func TestP171EdgeOfOne(t *testing.T) {
	s := of(9, 30, txn(2, 1, 0, ""), txn(3, 1, 0, "I"), txn(4, 1, 0, "IO"), txn(5, 1, 3, "O"), txn(6, 2, -1, ""))
	for _, x := range s.Txns {
		next, l, err := ssi.Edge(s, x.ID, x.ID)
		tells(t, "of one", next, err, s)
		numbers(t, "of one", l, nil)
	}
}

func TestP171EdgeOfNobody(t *testing.T) {
	for _, s := range []ssi.State{of(0, 1), of(9, 30, txn(2, 1, 0, ""), txn(4, 1, 0, "IO"), txn(5, 1, 3, "I"), txn(6, 2, -1, ""))} {
		for _, none := range append([]int{1, 3, 7, 29, 30, 31, most}, extremes...) {
			for _, other := range append([]int{2, 4, 5, 6, 1, none}, extremes...) {
				next, l, err := ssi.Edge(s, none, other)
				refused(t, "the reader is not there", next, err, api.ErrNone)
				numbers(t, "the reader is not there", l, nil)
				next, l, err = ssi.Edge(s, other, none)
				refused(t, "the writer is not there", next, err, api.ErrNone)
				numbers(t, "the writer is not there", l, nil)
			}
		}
	}
}

// Who is to be given up is not yet: he may go on, and is named again, but does not commit.
func TestP171EdgeGivesNobodyUpYet(t *testing.T) {
	s := of(0, 4, crowd(3)...)
	s, l, err := ssi.Edge(s, 1, 2)
	numbers(t, "1 ahead of 2", l, nil)
	s, l, err = ssi.Edge(s, 2, 3)
	tells(t, "2 ahead of 3", s, err, of(0, 4, txn(1, 0, 0, "O"), txn(2, 0, 0, "IO"), txn(3, 0, 0, "I")))
	numbers(t, "2 ahead of 3", l, []int{2})
	next, n, err := ssi.Commit(s, 2)
	refused(t, "Commit of 2", next, err, api.ErrSerial)
	numbers(t, "Commit of 2", []int{n}, []int{0})
	s, n, err = ssi.Commit(s, 3)
	numbers(t, "Commit of 3", []int{n, int(err)}, []int{1, 0})
	s, l, err = ssi.Edge(s, 1, 2)
	numbers(t, "1 ahead of 2 again", l, []int{2})
	s, err = ssi.Abort(s, 2)
	tells(t, "Abort of 2", s, err, of(1, 4, txn(1, 0, 0, "O"), txn(2, 0, -1, "IO"), txn(3, 0, 1, "I")))
	s, l, err = ssi.Edge(s, 2, 1)
	tells(t, "2 ahead of 1", s, err, of(1, 4, txn(1, 0, 0, "O"), txn(2, 0, -1, "IO"), txn(3, 0, 1, "I")))
	numbers(t, "2 ahead of 1", l, nil)
}
