package version_test

import (
	"fmt"
	"strings"
)

// brief shows a chain: 5:2"b" is a value of stamp 5 by transaction 2, 3:1- that the key is gone.
func brief(l chain) string {
	var parts []string
	for _, v := range l {
		s := fmt.Sprintf("%d:%d", v.Stamp, v.Txn)
		switch {
		case v.Gone && v.Value == "":
			s += "-"
		case v.Gone:
			s += "-?"
		}
		if !v.Gone || v.Value != "" {
			s += fmt.Sprintf("%.20q", v.Value)
		}
		parts = append(parts, s)
	}
	return "[" + strings.Join(parts, " ") + "]"
}
