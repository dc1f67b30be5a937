package keycode

import (
	"switchback/api"
	"switchback/value"
)

// Encode answers the key of a list.
func Encode(l []api.Value) (string, api.Errno) {
	if len(l) > maxValues {
		return "", api.ErrCount
	}
	var key []byte
	for _, v := range l {
		if value.Check(v) != api.OK {
			return "", api.ErrState
		}
		key = appendValue(key, v)
	}
	return string(key), api.OK
}

func appendValue(key []byte, v api.Value) []byte {
	switch v.Kind {
	case kindNumber:
		return appendNumber(key, v.N)
	case kindTruth:
		return append(key, byte(firstFalse+v.N))
	case kindText:
		return appendText(key, v.Text)
	}
	return append(key, firstNull)
}

func appendNumber(key []byte, n int) []byte {
	count := needed(uint64(n))
	first := firstFrom + count
	if n < 0 {
		// -n - 1 is n with all bits turned: its octets, turned again, are
		// n's own.
		count = needed(^uint64(n))
		first = firstBelow - count
	}
	key = append(key, byte(first))
	for i := range count {
		key = append(key, byte(n>>(8*(count-1-i))))
	}
	return key
}

func appendText(key []byte, text string) []byte {
	key = append(key, firstText)
	for i := range len(text) {
		switch text[i] {
		case textEnd:
			key = append(key, mark, markedEnd)
		case mark:
			key = append(key, mark, markedMark)
		default:
			key = append(key, text[i])
		}
	}
	return append(key, textEnd)
}
