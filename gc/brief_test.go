package gc_test

import (
	"fmt"
	"strings"

	"switchback/gc"
)

// brief shows chains: "a"[5:2"b" 3:1-] is a key with a value of stamp 5 by transaction 2, which was gone from stamp 3 on by 1.
func brief(c gc.Chains) string {
	var parts []string
	for i := range max(len(c.Keys), len(c.Lists)) {
		key, l := "no key", "no list"
		if i < len(c.Keys) {
			key = fmt.Sprintf("%.20q", c.Keys[i])
		}
		if i < len(c.Lists) {
			l = briefly(c.Lists[i])
		}
		parts = append(parts, key+l)
	}
	if len(parts) > 12 {
		parts = append(parts[:12], fmt.Sprint("... of ", len(parts)))
	}
	return "{" + strings.Join(parts, " ") + "}"
}

func briefly(l chain) string {
	var parts []string
	for _, v := range l {
		s := fmt.Sprintf("%d:%d", v.Stamp, v.Txn)
		switch {
		case v.Gone && v.Value == "":
			s += "-"
		case v.Gone:
			s += "-?"
		}
		if !v.Gone || v.Value != "" {
			s += fmt.Sprintf("%.20q", v.Value)
		}
		parts = append(parts, s)
	}
	if len(parts) > 6 {
		parts = append(parts[:6], fmt.Sprint("... of ", len(parts)))
	}
	return "[" + strings.Join(parts, " ") + "]"
}
