package wire

import (
	"math"

	"verdict/api"
)

// form is what a tree may be the pack of.
type form int

const (
	nothing form = iota
	number
	truth
	value
	values
	expr
	exprs
	test
	tests
	rule
	rules
	column
	columns
	table
	command
)

// shape is how the trees of a form are: from where to where N is, whether there may be a Text, and of which forms the first kids are, and all kids behind these.
type shape struct {
	least, most int64
	text        bool
	kids        []form
	rest        form
}

var shapes = [...]shape{
	number:  {least: math.MinInt64, most: math.MaxInt64},
	truth:   {most: 1},
	value:   {least: math.MinInt64, most: math.MaxInt64, text: true, kids: []form{number, truth, number}, rest: value},
	values:  {rest: value},
	expr:    {least: math.MinInt64, most: math.MaxInt64, text: true, kids: []form{value, exprs}},
	exprs:   {rest: expr},
	test:    {least: math.MinInt64, most: math.MaxInt64, kids: []form{value, value, truth, truth, tests}},
	tests:   {rest: test},
	rule:    {kids: []form{tests, exprs}},
	rules:   {rest: rule},
	column:  {least: math.MinInt64, most: math.MaxInt64, text: true, kids: []form{values}},
	columns: {rest: column},
	table:   {least: math.MinInt64, most: math.MaxInt64, text: true, kids: []form{columns, columns, rules}},
	command: {least: math.MinInt64, most: math.MaxInt64, text: true, kids: []form{number, number, number, table}},
}

// mostDeep is more than what is promised needs: only a tree that holds itself is deeper.
const mostDeep = 1 << 18

// checker holds trees against forms. It keeps which lists it went over: where kids are the same list many times, a tree that takes little room has more trees in it than can be gone over one by one.
type checker struct {
	known map[place]int
}

// place is where a list begins, held against a form.
type place struct {
	first *api.Tree
	form  form
}

func newChecker() *checker {
	return &checker{known: make(map[place]int)}
}

// is tells whether t, which is so deep, is of that form.
func (c *checker) is(f form, t api.Tree, deep int) bool {
	s := shapes[f]
	if deep > mostDeep || t.N < s.least || t.N > s.most || !s.text && t.Text != "" || len(t.Kids) < len(s.kids) {
		return false
	}
	if t.Tag != tagIn(f, t) {
		return false
	}
	for i, kid := range s.kids {
		if !c.is(kid, t.Kids[i], deep+1) {
			return false
		}
	}
	return c.all(s.rest, t.Kids[len(s.kids):], deep+1)
}

// all leaves out those trees, from the first one on, of which it is known that they are of the form.
func (c *checker) all(f form, l []api.Tree, deep int) bool {
	if len(l) == 0 {
		return true
	}
	if f == nothing {
		return false
	}
	at := place{first: &l[0], form: f}
	for i := c.known[at]; i < len(l); i++ {
		if !c.is(f, l[i], deep) {
			return false
		}
	}
	c.known[at] = max(c.known[at], len(l))
	return true
}

// tagIn is the tag that t must have, if it is of that form; of a value it has the three kids.
func tagIn(f form, t api.Tree) int {
	if f == value {
		return tagOf(t.Kids[2].N)
	}
	return 0
}

// The functions below make what a tree says, once it is known that it is of the form.

func commandOf(t api.Tree) api.Cmd {
	return api.Cmd{
		Kind:    int(t.N),
		Name:    t.Text,
		Session: int(t.Kids[0].N),
		Seq:     int(t.Kids[1].N),
		To:      int(t.Kids[2].N),
		Table:   tableOf(t.Kids[3]),
	}
}

func tableOf(t api.Tree) api.Table {
	return api.Table{
		Policy: int(t.N),
		Name:   t.Text,
		Ins:    each(t.Kids[0].Kids, columnOf),
		Outs:   each(t.Kids[1].Kids, columnOf),
		Rules:  each(t.Kids[2].Kids, ruleOf),
	}
}

func columnOf(t api.Tree) api.Column {
	return api.Column{Kind: int(t.N), Name: t.Text, Order: each(t.Kids[0].Kids, valueOf)}
}

func ruleOf(t api.Tree) api.Rule {
	return api.Rule{Tests: each(t.Kids[0].Kids, testOf), Outs: each(t.Kids[1].Kids, exprOf)}
}

func testOf(t api.Tree) api.Test {
	return api.Test{
		Kind:  int(t.N),
		A:     valueOf(t.Kids[0]),
		B:     valueOf(t.Kids[1]),
		OpenA: t.Kids[2].N == 1,
		OpenB: t.Kids[3].N == 1,
		Kids:  each(t.Kids[4].Kids, testOf),
	}
}

func exprOf(t api.Tree) api.Expr {
	return api.Expr{Kind: int(t.N), Name: t.Text, Val: valueOf(t.Kids[0]), Kids: each(t.Kids[1].Kids, exprOf)}
}

func valueOf(t api.Tree) api.Value {
	return api.Value{
		Kind: int(t.Kids[2].N),
		Yes:  t.Kids[1].N == 1,
		Num:  api.Dec{Coef: t.N, Exp: int(t.Kids[0].N)},
		Text: t.Text,
		List: each(t.Kids[3:], valueOf),
	}
}

// each is what one makes of each tree.
func each[E any](l []api.Tree, one func(api.Tree) E) []E {
	var made []E
	for _, t := range l {
		made = append(made, one(t))
	}
	return made
}
