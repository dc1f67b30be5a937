package plan

import (
	"strings"

	"switchback/api"
	"switchback/keycode"
	"switchback/value"
)

const (
	// behindNull lies behind all keys that begin with NULL, and ahead of all
	// others.
	behindNull = "\x05"
	// behindAll is an octet that is above all that a key goes on with.
	behindAll = "\xff"
	// toTheEnd is where a span of keys ends that has no end.
	toTheEnd = ""
)

// Keys answers where the keys of p's part of its index begin, and where they
// end.
func Keys(p Plan) (string, string, api.Errno) {
	low, high, err := keys(p)
	return strings.Clone(low), strings.Clone(high), err
}

// keys is Keys, with texts that may be the program's own.
func keys(p Plan) (string, string, api.Errno) {
	if p.Empty {
		return "", keycode.After(""), api.OK
	}
	if !mayBe(p.Low) || !mayBe(p.High) {
		return "", "", api.ErrState
	}
	return from(p.Low), to(p.High), api.OK
}

func mayBe(b Bound) bool {
	return b.Open || value.Check(b.Value) == api.OK
}

func from(low Bound) string {
	switch {
	case low.Open:
		return behindNull
	case low.In:
		return key(low.Value)
	}
	return key(low.Value) + behindAll
}

func to(high Bound) string {
	switch {
	case high.Open:
		return toTheEnd
	case high.In:
		return key(high.Value) + behindAll
	}
	return key(high.Value)
}

// key is what all keys of v begin with, and no others: one value's octets
// never begin another's.
func key(v api.Value) string {
	s, _ := keycode.Encode([]api.Value{v})
	return s
}
