package keycode

import (
	"math"

	"switchback/api"
)

// A reader goes through a key's octets. At the first that is no key's it
// panics with the error's number, which Decode recovers.
type reader struct {
	key string
	at  int
}

// Decode answers the list whose key s is.
func Decode(s string) (l []api.Value, err api.Errno) {
	defer func() {
		if fault := recover(); fault != nil {
			l, err = nil, fault.(api.Errno)
		}
	}()
	r := reader{key: s}
	for r.at < len(s) {
		v := r.value()
		// One too many is enough to be refused; the octets behind it may
		// still hold another error, which goes ahead.
		if len(l) <= maxValues {
			l = append(l, v)
		}
	}
	if len(l) > maxValues {
		panic(api.ErrCount)
	}
	return l, api.OK
}

func (r *reader) octet() byte {
	if r.at == len(r.key) {
		panic(api.ErrShort)
	}
	r.at++
	return r.key[r.at-1]
}

func (r *reader) value() api.Value {
	first := int(r.octet())
	switch {
	case first == firstNull:
		return api.Value{}
	case first >= lowestBelow && first <= firstBelow:
		// -n - 1 with all bits turned is n.
		return api.Value{Kind: kindNumber, N: ^r.amount(firstBelow-first, 0xff)}
	case first >= firstFrom && first <= highestFrom:
		return api.Value{Kind: kindNumber, N: r.amount(first-firstFrom, 0)}
	case first == firstFalse, first == firstTrue:
		return api.Value{Kind: kindTruth, N: first - firstFalse}
	case first == firstText:
		return api.Value{Kind: kindText, Text: r.text()}
	}
	panic(api.ErrKind)
}

// amount reads a number from 0 on, of whose octets the bits in turned are
// turned. It looks at none of them till all are there.
func (r *reader) amount(count int, turned byte) int {
	amount := uint64(0)
	for range count {
		amount = amount<<8 | uint64(r.octet()^turned)
	}
	if needed(amount) != count || amount > math.MaxInt64 {
		panic(api.ErrArg)
	}
	return int(amount)
}

func (r *reader) text() string {
	// A text of its own: a piece of the key would share the key's memory.
	var text []byte
	for c := r.octet(); c != textEnd; c = r.octet() {
		if c == mark {
			c = r.marked()
		}
		// One too many is enough to be refused where it ends.
		if len(text) <= api.MaxText {
			text = append(text, c)
		}
	}
	if len(text) > api.MaxText {
		panic(api.ErrLong)
	}
	return string(text)
}

func (r *reader) marked() byte {
	switch r.octet() {
	case markedEnd:
		return textEnd
	case markedMark:
		return mark
	}
	panic(api.ErrArg)
}
