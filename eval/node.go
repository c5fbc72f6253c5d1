package eval

import (
	"slices"

	"verdict/api"
	"verdict/dec"
	"verdict/logic"
)

// Nodes tells what nodes make of what their kids have: it knows the functions.
type Nodes struct {
	functions map[string]function
}

// NewNodes knows all functions; making it once is less work than asking for them at each node.
func NewNodes() Nodes {
	return Nodes{functions: functions()}
}

// Made is what a node of that kind (of a call: of that name) makes of what its kids have, or, if it goes over a list, of what it has for each. Null, if there is no such node, or what it makes would be wrong.
func (n Nodes) Made(kind int, name string, vals []api.Value) api.Value {
	return orNull(n.made(kind, name, vals))
}

func (n Nodes) made(kind int, name string, vals []api.Value) api.Value {
	switch kind {
	case api.XCall:
		return n.called(name, vals)
	case api.XList, api.XFor:
		return listOf(slices.Clone(vals))
	case api.XSome:
		return folded(logic.Or, truth(false), vals)
	case api.XEvery:
		return folded(logic.And, truth(true), vals)
	}
	switch {
	case kind == api.XNeg && len(vals) == 1:
		return ofNeg(vals[0])
	case kind != api.XNeg && len(vals) == 2:
		return ofTwo(kind, vals[0], vals[1])
	}
	return null()
}

func (n Nodes) called(name string, args []api.Value) api.Value {
	f, known := n.functions[name]
	if !known || len(args) != len(f.takes) {
		return null()
	}
	return f.of(args)
}

// orNull is what stands in the place of v: what would be wrong is not known.
func orNull(v api.Value) api.Value {
	if logic.Wrong(v) != api.OK {
		return null()
	}
	return v
}

func null() api.Value {
	return api.Value{Kind: api.VNull}
}

func truth(yes bool) api.Value {
	return api.Value{Kind: api.VBool, Yes: yes}
}

// number is what was reckoned, or null, if it could not be.
func number(d api.Dec, err api.Errno) api.Value {
	if err != api.OK {
		return null()
	}
	return api.Value{Kind: api.VNum, Num: d}
}

func textOf(s string) api.Value {
	return api.Value{Kind: api.VText, Text: s}
}

func listOf(vals []api.Value) api.Value {
	return api.Value{Kind: api.VList, List: vals}
}

func isTrue(v api.Value) bool {
	return v.Kind == api.VBool && v.Yes
}

func bothAre(kind int, a, b api.Value) bool {
	return a.Kind == kind && b.Kind == kind
}

// folded joins all values, from the left, beginning with first.
func folded(join func(a, b api.Value) api.Value, first api.Value, vals []api.Value) api.Value {
	all := first
	for _, v := range vals {
		all = join(all, v)
	}
	return all
}

func ofNeg(v api.Value) api.Value {
	return reckoned(dec.Sub, number(api.Dec{}, api.OK), v)
}

// ofTwo is what a node of two kids makes of them.
func ofTwo(kind int, a, b api.Value) api.Value {
	switch kind {
	case api.XAdd:
		return ofAdd(a, b)
	case api.XSub:
		return reckoned(dec.Sub, a, b)
	case api.XMul:
		return reckoned(dec.Mul, a, b)
	case api.XDiv:
		return reckoned(dec.Div, a, b)
	case api.XEq:
		return logic.Equal(a, b)
	case api.XNe:
		return logic.Not(logic.Equal(a, b))
	case api.XLt:
		return logic.Less(a, b)
	case api.XLe:
		return logic.Not(logic.Less(b, a))
	case api.XGt:
		return logic.Less(b, a)
	case api.XGe:
		return logic.Not(logic.Less(a, b))
	case api.XIn:
		return ofIn(a, b)
	case api.XAnd:
		return logic.And(a, b)
	case api.XOr:
		return logic.Or(a, b)
	}
	return null()
}

func ofAdd(a, b api.Value) api.Value {
	if bothAre(api.VText, a, b) {
		return textOf(a.Text + b.Text)
	}
	return reckoned(dec.Add, a, b)
}

func reckoned(op func(a, b api.Dec) (api.Dec, api.Errno), a, b api.Value) api.Value {
	if !bothAre(api.VNum, a, b) {
		return null()
	}
	return number(op(a.Num, b.Num))
}

func ofIn(v, list api.Value) api.Value {
	if list.Kind != api.VList {
		return null()
	}
	orEqual := func(found, one api.Value) api.Value {
		return logic.Or(found, logic.Equal(v, one))
	}
	return folded(orEqual, truth(false), list.List)
}
