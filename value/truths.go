package value

import "switchback/api"

// Not turns a truth into the other one; NULL stays NULL.
func Not(a api.Value) (api.Value, api.Errno) {
	if !fit(kindTruth, a) {
		return api.Value{}, api.ErrType
	}
	if anyNull(a) {
		return null(), api.OK
	}
	return truth(a.N == 0), api.OK
}

// And is false if one of the two is, else not known if one is not.
func And(a api.Value, b api.Value) (api.Value, api.Errno) {
	return decide(false, a, b)
}

// Or is true if one of the two is, else not known if one is not.
func Or(a api.Value, b api.Value) (api.Value, api.Errno) {
	return decide(true, a, b)
}

// decide answers the truth of two of which one alone is enough, if it is the
// deciding one: then NULL beside it does not matter.
func decide(deciding bool, a api.Value, b api.Value) (api.Value, api.Errno) {
	if !fit(kindTruth, a, b) {
		return api.Value{}, api.ErrType
	}
	if a == truth(deciding) || b == truth(deciding) {
		return truth(deciding), api.OK
	}
	if anyNull(a, b) {
		return null(), api.OK
	}
	return truth(!deciding), api.OK
}
