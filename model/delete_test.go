package model_test

import (
	"fmt"
	"slices"
	"testing"

	"switchback/api"
)

func TestP111Delete(t *testing.T) {
	l := rowsOf(some(), "t")
	for where, gone := range map[string][]int{
		"":                           {0, 1, 2, 3, 4},
		" where true":                {0, 1, 2, 3, 4},
		" where false":               {},
		" where null":                {},
		" where a = 1":               {0},
		" where a = 5":               {4},
		" where a = 6":               {},
		" where a > 1 and a < 5":     {1, 2, 3},
		" where b":                   {0, 3},
		" where not b":               {1, 4},
		" where b is null":           {2},
		" where c = 'x'":             {0, 2},
		" where c is null or n < 30": {0, 1, 3},
		" where t.n = 20":            {1},
	} {
		var left []row
		for i, r := range l {
			if !slices.Contains(gone, i) {
				left = append(left, r)
			}
		}
		leaves(t, some(), "delete from t"+where, len(gone), left...)
	}
	leaves(t, some(), "delete from t where a = 3 or 1 / (a - 3) < 9", 5)
	tells(t, some(), "delete from e", 0, some())
	tells(t, some(), "delete from e where 1 / 0 = 1", 0, some())
	tells(t, some(), "delete from u where d = 'y'", 1, with(some(), "u", row{text("x"), num(7)}, row{text("z"), num(9)}))
	for i := range 8 {
		s, name := full(256), fmt.Sprint("t", i)
		tells(t, s, "delete from "+name, 256, with(s, name))
	}
}

func TestP111DeleteErrors(t *testing.T) {
	for x, err := range map[string]api.Errno{
		"delete from nowhere":                             api.ErrTable,
		"delete from nowhere where 1":                     api.ErrTable,
		"delete from t where d = 1":                       api.ErrColumn,
		"delete from t where u.d = 'x'":                   api.ErrTable,
		"delete from t where a":                           api.ErrType,
		"delete from t where 1 / 0":                       api.ErrType,
		"delete from t where count(*) = 1":                api.ErrArg,
		"delete from t where 1 / (a - 1) = 1":             api.ErrZero,
		"delete from t where 1 / (a - 5) = 1":             api.ErrZero,
		"delete from t where a + 9223372036854775803 > 0": api.ErrOver,
		"delete from t where a > 3 and a / (a - 5) = 1":   api.ErrZero,
		"delete from t where 9223372036854775806 + a > 0": api.ErrOver,
	} {
		refuses(t, some(), x, err)
	}
}
