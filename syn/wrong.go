package syn

import (
	"verdict/api"
	"verdict/logic"
)

// Wrong tells what is wrong with x as an expression.
func Wrong(x api.Expr) api.Errno {
	l := look{}
	return l.wrong(x, 1)
}

// look goes over an expression and its kids, and counts.
type look struct {
	seen int
}

// wrong tells of x, which stands that deep in what was handed in. The bounds come first: so even an expression that is its own kid has an end.
func (l *look) wrong(x api.Expr, deep int) api.Errno {
	l.seen++
	if l.seen > api.MaxExprs || deep > api.MaxShape {
		return api.ErrMuch
	}
	if err := wrongNode(x); err != api.OK {
		return err
	}
	for _, kid := range x.Kids {
		if err := l.wrong(kid, deep+1); err != api.OK {
			return err
		}
	}
	return api.OK
}

// wrongNode tells of x without its kids, but for how many there are.
func wrongNode(x api.Expr) api.Errno {
	if x.Kind < api.XLit || x.Kind > api.XEvery {
		return api.ErrKind
	}
	if x.Kind == api.XLit {
		if err := wrongLiteral(x.Val); err != api.OK {
			return err
		}
	}
	if hasName(x.Kind) && !Named(x.Name) {
		return api.ErrName
	}
	if least, most := kidsOf(x.Kind); len(x.Kids) < least || len(x.Kids) > most {
		return api.ErrMany
	}
	return api.OK
}

// wrongLiteral knows that lists, and numbers below 0, are written as expressions of other kinds.
func wrongLiteral(v api.Value) api.Errno {
	if err := logic.Wrong(v); err != api.OK {
		return err
	}
	if v.Kind == api.VList || v.Kind == api.VNum && v.Num.Coef < 0 {
		return api.ErrFit
	}
	return api.OK
}

func hasName(kind int) bool {
	switch kind {
	case api.XName, api.XCall, api.XFor, api.XSome, api.XEvery:
		return true
	}
	return false
}

// kidsOf is how many kids a kind has, at least and at most.
func kidsOf(kind int) (least, most int) {
	switch kind {
	case api.XLit, api.XName:
		return 0, 0
	case api.XNeg:
		return 1, 1
	case api.XIf:
		return 3, 3
	case api.XCall:
		return 0, api.MaxArgs
	case api.XList:
		return 0, api.MaxList
	}
	return 2, 2
}
