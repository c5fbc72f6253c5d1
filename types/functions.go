package types

import "verdict/api"

// function has what each kid of a call may be (anything, if its tells asks more of it), and what it tells of kids that may be so: the type, and whether they go with it.
type function struct {
	takes []int
	tells func(kids []shape) (shape, bool)
}

// anything is no kind that a kid is asked to be.
const anything = 0

// of tells what comes of kids, as many as f takes.
func (f function) of(kids []shape) (shape, bool) {
	for i, kind := range f.takes {
		if kind != anything && !kids[i].mayBe(kind) {
			return shape{}, false
		}
	}
	return f.tells(kids)
}

func functions() map[string]function {
	const (
		truth  = api.TyBool
		number = api.TyNum
		text   = api.TyText
		list   = api.TyList
	)
	return map[string]function{
		"not":       {[]int{truth}, always(truth)},
		"floor":     {[]int{number}, always(number)},
		"ceiling":   {[]int{number}, always(number)},
		"abs":       {[]int{number}, always(number)},
		"round":     {[]int{number, number}, always(number)},
		"min":       {[]int{list}, elemOfFirst},
		"max":       {[]int{list}, elemOfFirst},
		"item":      {[]int{list, number}, elemOfFirst},
		"sum":       {[]int{list}, ofSum},
		"count":     {[]int{list}, always(number)},
		"reverse":   {[]int{list}, listOfElems},
		"distinct":  {[]int{list}, listOfElems},
		"sort":      {[]int{list}, listOfElems},
		"concat":    {[]int{list, list}, listOfElems},
		"length":    {[]int{text}, always(number)},
		"upper":     {[]int{text}, always(text)},
		"lower":     {[]int{text}, always(text)},
		"substring": {[]int{text, number, number}, always(text)},
		"contains":  {[]int{text, text}, always(truth)},
		"starts":    {[]int{text, text}, always(truth)},
		"ends":      {[]int{text, text}, always(truth)},
		"between":   {[]int{anything, anything, anything}, ofBetween},
	}
}

// always tells one kind, whatever the kids are.
func always(kind int) func([]shape) (shape, bool) {
	return func([]shape) (shape, bool) {
		return plain(kind), true
	}
}

func elemOfFirst(kids []shape) (shape, bool) {
	return kids[0].elem(), true
}

// listOfElems is one list of what is in all the kids.
func listOfElems(kids []shape) (shape, bool) {
	elems := make([]shape, 0, len(kids))
	for _, kid := range kids {
		elems = append(elems, kid.elem())
	}
	return joined(elems).listed(), true
}

func ofSum(kids []shape) (shape, bool) {
	return plain(api.TyNum), kids[0].elem().mayBe(api.TyNum)
}

func ofBetween(kids []shape) (shape, bool) {
	return plain(api.TyBool), inOrder(kids)
}
