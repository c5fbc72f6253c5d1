package types

import "verdict/api"

// shape is a type without what is nested: so many lists around a kind that is none. What expressions have may lie in more lists than a type that is handed in.
type shape struct {
	lists int
	kind  int
}

// deepest is where shapeOf gives up: nothing that deep is promised, and a type that holds itself has no end.
const deepest = 1 << 16

func shapeOf(t api.Type) shape {
	lists := 0
	for t.Kind == api.TyList && len(t.Elem) == 1 && lists < deepest {
		t = t.Elem[0]
		lists++
	}
	return shape{lists: lists, kind: t.Kind}
}

// written is the type that s is, in new memory.
func (s shape) written() api.Type {
	t := api.Type{Kind: s.kind}
	for range s.lists {
		t = api.Type{Kind: api.TyList, Elem: []api.Type{t}}
	}
	return t
}

// plain is the shape of a kind that is no list.
func plain(kind int) shape {
	return shape{kind: kind}
}

// listed is the list of s.
func (s shape) listed() shape {
	return shape{lists: s.lists + 1, kind: s.kind}
}

// elem is what a list is of; what is none may hold anything that it may be itself.
func (s shape) elem() shape {
	if s.lists == 0 {
		return s
	}
	return shape{lists: s.lists - 1, kind: s.kind}
}

func (s shape) is(kind int) bool {
	if kind == api.TyList {
		return s.lists > 0
	}
	return s == plain(kind)
}

// isOpen tells of what may be of each kind.
func (s shape) isOpen() bool {
	return s.is(api.TyNull) || s.is(api.TyAny)
}

func (s shape) mayBe(kind int) bool {
	return s.is(kind) || s.isOpen()
}

// peeled takes off the lists that both have, and tells how many: then one of the two is no list.
func peeled(a, b shape) (shape, shape, int) {
	both := min(a.lists, b.lists)
	a.lists -= both
	b.lists -= both
	return a, b, both
}

func (s shape) mayMeet(other shape) bool {
	a, b, _ := peeled(s, other)
	return a.isOpen() || b.isOpen() || a == b
}

func (s shape) fits(other shape) bool {
	a, b, _ := peeled(s, other)
	return a.is(api.TyNull) || b.is(api.TyAny) || a == b
}

func (s shape) join(other shape) shape {
	if s.fits(other) {
		return other
	}
	if other.fits(s) {
		return s
	}
	_, _, both := peeled(s, other)
	return shape{lists: both, kind: api.TyAny}
}

// look holds a value against a type. It keeps what it went over: where lists are the same list many times, a value that takes little room has more parts than can be gone over one by one.
type look struct {
	known map[place]int
}

// place is where a list begins, held against a type of so many lists.
type place struct {
	first *api.Value
	lists int
}

func newLook() *look {
	return &look{known: make(map[place]int)}
}

func (l *look) has(v api.Value, s shape) bool {
	switch {
	case v.Kind == api.VNull || s.is(api.TyAny):
		return true
	case s.lists > 0:
		return v.Kind == api.VList && l.all(v.List, s.elem())
	case v.Kind == api.VBool:
		return s.kind == api.TyBool
	case v.Kind == api.VNum:
		return s.kind == api.TyNum
	case v.Kind == api.VText:
		return s.kind == api.TyText
	}
	return false
}

// all leaves out those values, from the first one on, of which it is known that they are of s. Whatever is in the list is held against fewer lists, so even a list that holds itself has an end.
func (l *look) all(list []api.Value, s shape) bool {
	if len(list) == 0 {
		return true
	}
	at := place{first: &list[0], lists: s.lists}
	for i := l.known[at]; i < len(list); i++ {
		if !l.has(list[i], s) {
			return false
		}
	}
	l.known[at] = max(l.known[at], len(list))
	return true
}
