package trials

import (
	"verdict/api"
	"verdict/dec"
	"verdict/logic"
)

// Wrong tells what is wrong with t as a test.
func Wrong(t api.Test) api.Errno {
	return wrongAt(t, 1)
}

// wrongAt tells of t, which stands that deep in what was handed in. The bounds come first: so even a test that is its own kid has an end.
func wrongAt(t api.Test, deep int) api.Errno {
	if deep > api.MaxNesting {
		return api.ErrMuch
	}
	switch t.Kind {
	case api.TeAny:
		return api.OK
	case api.TeIs:
		return wrongValue(t.A)
	case api.TeLt, api.TeLe, api.TeGt, api.TeGe:
		return wrongBounds(t.A)
	case api.TeIn:
		return wrongBounds(t.A, t.B)
	case api.TeOr, api.TeNot:
		return wrongKids(t.Kids, deep+1)
	}
	return api.ErrKind
}

func wrongKids(kids []api.Test, deep int) api.Errno {
	if len(kids) < 1 || len(kids) > api.MaxTests {
		return api.ErrMany
	}
	for _, kid := range kids {
		if err := wrongAt(kid, deep); err != api.OK {
			return err
		}
	}
	return api.OK
}

// wrongBounds tells of values that others are less or more than: each by itself, ahead of whether they can be that, all of one kind.
func wrongBounds(bounds ...api.Value) api.Errno {
	for _, v := range bounds {
		if err := wrongValue(v); err != api.OK {
			return err
		}
	}
	kind := bounds[0].Kind
	if kind != api.VNum && kind != api.VText {
		return api.ErrType
	}
	for _, v := range bounds {
		if v.Kind != kind {
			return api.ErrType
		}
	}
	return api.OK
}

// wrongValue tells of a value that stands in a test.
func wrongValue(v api.Value) api.Errno {
	if err := logic.Wrong(v); err != api.OK {
		return err
	}
	if v.Kind == api.VList {
		return api.ErrFit
	}
	if v.Kind == api.VNum && !inRange(v.Num) {
		return api.ErrRange
	}
	return api.OK
}

// inRange tells of a number with which nothing is wrong, so that Cmp tells no error.
func inRange(d api.Dec) bool {
	most := api.Dec{Coef: 1, Exp: 9} // MaxNumber, without noughts at its end
	d.Coef = max(d.Coef, -d.Coef)
	order, _ := dec.Cmp(d, most)
	return order <= 0 && d.Exp >= -api.MaxPlaces
}
