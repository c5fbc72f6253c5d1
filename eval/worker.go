package eval

import (
	"slices"

	"verdict/api"
	"verdict/logic"
)

// worker works out what an expression has in which all names are known.
type worker struct {
	names     map[string]api.Value
	functions map[string]function
	steps     int
}

func newWorker(binds []api.Bind, functions map[string]function) *worker {
	names := make(map[string]api.Value, len(binds))
	for _, b := range binds {
		names[b.Name] = b.Val
	}
	return &worker{names: names, functions: functions}
}

// whole is the edge at which it ends if it takes too long: nothing else panics, so whatever comes up says that.
func (w *worker) whole(x api.Expr) (v api.Value, err api.Errno) {
	defer func() {
		if recover() != nil {
			v, err = api.Value{}, api.ErrMuch
		}
	}()
	return apart(w.value(x)), api.OK
}

// step panics where it takes too long: so no node has to ask each of its kids whether it came to an end.
func (w *worker) step() {
	w.steps++
	if w.steps > api.MaxSteps {
		panic("more nodes are come to than may be")
	}
}

func (w *worker) value(x api.Expr) api.Value {
	w.step()
	switch {
	case x.Kind == api.XLit:
		return x.Val
	case x.Kind == api.XName:
		return w.names[x.Name]
	case x.Kind == api.XIf:
		return w.chosen(x)
	case goesOver(x.Kind):
		return orNull(w.overList(x))
	}
	return orNull(w.made(x, w.values(x.Kids)))
}

func (w *worker) values(kids []api.Expr) []api.Value {
	vals := make([]api.Value, 0, len(kids))
	for _, kid := range kids {
		vals = append(vals, w.value(kid))
	}
	return vals
}

func (w *worker) chosen(x api.Expr) api.Value {
	if isTrue(w.value(x.Kids[0])) {
		return w.value(x.Kids[1])
	}
	return w.value(x.Kids[2])
}

func (w *worker) overList(x api.Expr) api.Value {
	list := w.value(x.Kids[0])
	if list.Kind != api.VList {
		return null()
	}
	each := w.forEach(x.Name, list.List, x.Kids[1])
	switch x.Kind {
	case api.XSome:
		return folded(logic.Or, truth(false), each)
	case api.XEvery:
		return folded(logic.And, truth(true), each)
	}
	return listOf(each)
}

// forEach has x for each of the list, the name standing for it; behind it the name is again what it was.
func (w *worker) forEach(name string, list []api.Value, x api.Expr) []api.Value {
	outer, known := w.names[name]
	vals := make([]api.Value, 0, len(list))
	for _, v := range list {
		w.names[name] = v
		vals = append(vals, w.value(x))
	}
	if known {
		w.names[name] = outer
	} else {
		delete(w.names, name)
	}
	return vals
}

// made is what a node makes of what its kids have.
func (w *worker) made(x api.Expr, kids []api.Value) api.Value {
	switch x.Kind {
	case api.XCall:
		return w.functions[x.Name].of(kids)
	case api.XList:
		return listOf(kids)
	case api.XNeg:
		return ofNeg(kids[0])
	}
	return ofTwo(x.Kind, kids[0], kids[1])
}

// orNull is what stands in the place of v: what would be wrong is not known.
func orNull(v api.Value) api.Value {
	if logic.Wrong(v) != api.OK {
		return null()
	}
	return v
}

// apart is v with lists of its own, none of which is the same one twice: whoever asked may change each by itself.
func apart(v api.Value) api.Value {
	if v.Kind != api.VList {
		return v
	}
	v.List = slices.Clone(v.List)
	for i := range v.List {
		v.List[i] = apart(v.List[i])
	}
	return v
}
