package eval

import (
	"slices"

	"verdict/api"
)

// worker works out what an expression has in which all names are known.
type worker struct {
	names map[string]api.Value
	nodes Nodes
	steps int
}

func newWorker(binds []api.Bind, nodes Nodes) *worker {
	names := make(map[string]api.Value, len(binds))
	for _, b := range binds {
		names[b.Name] = b.Val
	}
	return &worker{names: names, nodes: nodes}
}

// whole is the edge at which it ends if it takes too long: nothing else panics, so whatever comes up says that.
func (w *worker) whole(x api.Expr) (v api.Value, err api.Errno) {
	defer func() {
		if recover() != nil {
			v, err = api.Value{}, api.ErrMuch
		}
	}()
	return Apart(w.value(x)), api.OK
}

// step panics where it takes too long: so no node has to ask each of its kids whether it came to an end.
func (w *worker) step() {
	w.steps++
	if w.steps > api.MaxSteps {
		panic("more nodes are come to than may be")
	}
}

func (w *worker) value(x api.Expr) api.Value {
	w.step()
	switch {
	case x.Kind == api.XLit:
		return x.Val
	case x.Kind == api.XName:
		return w.names[x.Name]
	case x.Kind == api.XIf:
		return w.chosen(x)
	case goesOver(x.Kind):
		return w.overList(x)
	}
	return w.nodes.Made(x.Kind, x.Name, w.values(x.Kids))
}

func (w *worker) values(kids []api.Expr) []api.Value {
	vals := make([]api.Value, 0, len(kids))
	for _, kid := range kids {
		vals = append(vals, w.value(kid))
	}
	return vals
}

func (w *worker) chosen(x api.Expr) api.Value {
	if isTrue(w.value(x.Kids[0])) {
		return w.value(x.Kids[1])
	}
	return w.value(x.Kids[2])
}

func (w *worker) overList(x api.Expr) api.Value {
	list := w.value(x.Kids[0])
	if list.Kind != api.VList {
		return null()
	}
	return w.nodes.Made(x.Kind, x.Name, w.forEach(x.Name, list.List, x.Kids[1]))
}

// forEach has x for each of the list, the name standing for it; behind it the name is again what it was.
func (w *worker) forEach(name string, list []api.Value, x api.Expr) []api.Value {
	outer, known := w.names[name]
	vals := make([]api.Value, 0, len(list))
	for _, v := range list {
		w.names[name] = v
		vals = append(vals, w.value(x))
	}
	if known {
		w.names[name] = outer
	} else {
		delete(w.names, name)
	}
	return vals
}

// Apart is v with lists of its own, none of which is the same one twice: whoever asked may change each by itself. Of what is wrong it is null, for a list that holds itself has no end.
func Apart(v api.Value) api.Value {
	return apart(orNull(v))
}

func apart(v api.Value) api.Value {
	if v.Kind != api.VList {
		return v
	}
	v.List = slices.Clone(v.List)
	for i := range v.List {
		v.List[i] = apart(v.List[i])
	}
	return v
}
