package eval_test

import (
	"math"
	"testing"

	"verdict/api"
	"verdict/eval"
)

// What the package offers other layers beside Eval answers whatever it is given, too.

func endlessList() api.Value {
	l := make([]api.Value, 2)
	l[0], l[1] = list(), list()
	l[0].List, l[1].List = l, l
	return list(l...)
}

func TestF1WrongIsWhatEvalSays(t *testing.T) {
	for _, c := range []struct {
		x     api.Expr
		binds []api.Bind
		want  api.Errno
	}{
		{api.Expr{}, nil, api.ErrKind},
		{read(t, "1"), make([]api.Bind, api.MaxVars+1), api.ErrMany},
		{read(t, "1"), []api.Bind{{Name: "if", Val: null}}, api.ErrName},
		{read(t, "1"), []api.Bind{{Name: "x", Val: endlessList()}}, api.ErrMuch},
		{read(t, "x"), nil, api.ErrName},
		{read(t, "foo(max())"), nil, api.ErrName},
		{read(t, "max(foo(), 1)"), nil, api.ErrMany},
		{read(t, "for x in x return x"), nil, api.ErrName},
		{read(t, "for x in [] return x"), nil, api.OK},
	} {
		if got := eval.Wrong(c.x, c.binds); got != c.want {
			t.Errorf("%+v: %d comes, not %d", c.x, got, c.want)
		}
		if _, err := eval.Eval(c.x, c.binds); err != c.want {
			t.Errorf("%+v: %d comes of Eval, not %d", c.x, err, c.want)
		}
	}
	// What takes too long is not known ahead.
	if got := eval.Wrong(read(t, "for x in q return for y in q return 1"), someBinds()); got != api.OK {
		t.Errorf("%d comes of what takes too long", got)
	}
}

func TestF3MadeOfAnything(t *testing.T) {
	odd := []api.Value{{}, {Kind: 9}, endlessList(), {Kind: api.VNum, Num: api.Dec{Coef: math.MinInt64, Exp: math.MaxInt}}, text("\xff"), list(api.Value{Kind: -1})}
	names := append(functionNames(), "foo", "")
	for _, nodes := range []eval.Nodes{eval.NewNodes(), {}} {
		for _, kind := range []int{math.MinInt, -1, 0, api.XLit, api.XName, api.XIf, 23, math.MaxInt} {
			if got := nodes.Made(kind, "max", []api.Value{numOf(1), numOf(2)}); !same(got, null) {
				t.Errorf("%d: %s comes of no such node", kind, say(got))
			}
		}
		for kind := range 24 {
			for many := range len(odd) + 1 {
				for _, name := range names {
					nodes.Made(kind, name, odd[:many])
				}
			}
		}
	}
	nodes := eval.NewNodes()
	for _, c := range []struct {
		kind int
		name string
		vals []api.Value
		want api.Value
	}{
		{api.XNeg, "", nil, null}, {api.XNeg, "", []api.Value{numOf(1), numOf(2)}, null}, {api.XNeg, "", []api.Value{numOf(1)}, numOf(-1)},
		{api.XAdd, "", []api.Value{numOf(1)}, null}, {api.XAdd, "", []api.Value{numOf(1), numOf(2), numOf(3)}, null}, {api.XAdd, "", []api.Value{numOf(1), numOf(2)}, numOf(3)},
		{api.XCall, "max", nil, null}, {api.XCall, "foo", []api.Value{list(numOf(1))}, null}, {api.XCall, "max", []api.Value{list(numOf(1))}, numOf(1)},
		{api.XList, "", []api.Value{{}}, null}, {api.XFor, "", rowOf(null, api.MaxList+1).List, null}, {api.XFor, "", nil, list()},
	} {
		if got := nodes.Made(c.kind, c.name, c.vals); !same(got, c.want) {
			t.Errorf("%d %s of %s: %s comes", c.kind, c.name, say(list(c.vals...)), say(got))
		}
	}
}

// What was handed in is not kept.
func TestF3MadeKeepsNothing(t *testing.T) {
	for _, kind := range []int{api.XList, api.XFor} {
		vals := []api.Value{numOf(1), numOf(2)}
		got := eval.NewNodes().Made(kind, "", vals)
		vals[0] = text("changed")
		if !same(got, list(numOf(1), numOf(2))) {
			t.Errorf("%d: %s comes", kind, say(got))
		}
	}
}

func TestF2Apart(t *testing.T) {
	inner := list(numOf(1))
	got := eval.Apart(list(inner, inner))
	got.List[0].List[0] = text("changed")
	if !same(got.List[1], inner) || !same(inner, list(numOf(1))) {
		t.Errorf("%s comes, of %s", say(got), say(inner))
	}
	if got := eval.Apart(endlessList()); !same(got, null) {
		t.Errorf("%d comes of what has no end", got.Kind)
	}
}
