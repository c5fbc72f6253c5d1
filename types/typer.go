package types

import "verdict/api"

// typer works out the types of the nodes of an expression with which nothing is wrong.
type typer struct {
	names     map[string]shape
	functions map[string]function
}

func newTyper(vars []api.Var) *typer {
	names := make(map[string]shape, len(vars))
	for _, v := range vars {
		names[v.Name] = shapeOf(v.Type)
	}
	return &typer{names: names, functions: functions()}
}

func (t *typer) typed(x api.Expr) (shape, api.Errno) {
	switch x.Kind {
	case api.XLit:
		return ofLiteral(x.Val), api.OK
	case api.XName:
		return t.ofName(x.Name)
	case api.XCall:
		return t.ofCall(x)
	case api.XFor, api.XSome, api.XEvery:
		return t.ofEach(x)
	}
	kids, err := t.ofKids(x.Kids)
	if err != api.OK {
		return shape{}, err
	}
	return orWrong(ofNode(x.Kind, kids))
}

// orWrong makes an errno of whether kids go with what they stand in.
func orWrong(s shape, ok bool) (shape, api.Errno) {
	if !ok {
		return shape{}, api.ErrType
	}
	return s, api.OK
}

func ofLiteral(v api.Value) shape {
	switch v.Kind {
	case api.VBool:
		return plain(api.TyBool)
	case api.VNum:
		return plain(api.TyNum)
	case api.VText:
		return plain(api.TyText)
	}
	return plain(api.TyNull)
}

func (t *typer) ofName(name string) (shape, api.Errno) {
	s, known := t.names[name]
	if !known {
		return shape{}, api.ErrName
	}
	return s, api.OK
}

func (t *typer) ofKids(kids []api.Expr) ([]shape, api.Errno) {
	shapes := make([]shape, 0, len(kids))
	for _, kid := range kids {
		s, err := t.typed(kid)
		if err != api.OK {
			return nil, err
		}
		shapes = append(shapes, s)
	}
	return shapes, api.OK
}

func (t *typer) ofCall(x api.Expr) (shape, api.Errno) {
	f, known := t.functions[x.Name]
	if !known {
		return shape{}, api.ErrName
	}
	if len(x.Kids) != len(f.takes) {
		return shape{}, api.ErrMany
	}
	kids, err := t.ofKids(x.Kids)
	if err != api.OK {
		return shape{}, err
	}
	return orWrong(f.of(kids))
}

func (t *typer) ofEach(x api.Expr) (shape, api.Errno) {
	list, err := t.typed(x.Kids[0])
	if err != api.OK {
		return shape{}, err
	}
	if !list.mayBe(api.TyList) {
		return shape{}, api.ErrType
	}
	each, err := t.typedWith(x.Name, list.elem(), x.Kids[1])
	if err != api.OK {
		return shape{}, err
	}
	if x.Kind == api.XFor {
		return each.listed(), api.OK
	}
	return orWrong(plain(api.TyBool), each.mayBe(api.TyBool))
}

// typedWith tells of x, inside of which name stands for s; behind it the name is again what it was.
func (t *typer) typedWith(name string, s shape, x api.Expr) (shape, api.Errno) {
	outer, known := t.names[name]
	t.names[name] = s
	inner, err := t.typed(x)
	if known {
		t.names[name] = outer
	} else {
		delete(t.names, name)
	}
	return inner, err
}

// ofNode tells of a node whose kids say all of its type, and whether they go with it.
func ofNode(kind int, kids []shape) (shape, bool) {
	switch kind {
	case api.XAdd:
		return ofAdd(kids)
	case api.XNeg, api.XSub, api.XMul, api.XDiv:
		return plain(api.TyNum), allMayBe(kids, api.TyNum)
	case api.XEq, api.XNe:
		return plain(api.TyBool), kids[0].mayMeet(kids[1])
	case api.XLt, api.XLe, api.XGt, api.XGe:
		return plain(api.TyBool), inOrder(kids)
	case api.XIn:
		return plain(api.TyBool), kids[1].mayBe(api.TyList) && kids[0].mayMeet(kids[1].elem())
	case api.XAnd, api.XOr:
		return plain(api.TyBool), allMayBe(kids, api.TyBool)
	case api.XIf:
		return kids[1].join(kids[2]), kids[0].mayBe(api.TyBool)
	case api.XList:
		return joined(kids).listed(), true
	}
	return shape{}, false
}

func ofAdd(kids []shape) (shape, bool) {
	for _, kind := range []int{api.TyNum, api.TyText} {
		if allMayBe(kids, kind) && (kids[0].is(kind) || kids[1].is(kind)) {
			return plain(kind), true
		}
	}
	return plain(api.TyAny), kids[0].isOpen() && kids[1].isOpen()
}

func allMayBe(kids []shape, kind int) bool {
	for _, kid := range kids {
		if !kid.mayBe(kind) {
			return false
		}
	}
	return true
}

// inOrder tells whether it can be said which of the kids is less.
func inOrder(kids []shape) bool {
	return allMayBe(kids, api.TyNum) || allMayBe(kids, api.TyText)
}

func joined(kids []shape) shape {
	all := plain(api.TyNull)
	for _, kid := range kids {
		all = all.join(kid)
	}
	return all
}
