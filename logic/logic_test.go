package logic_test

import (
	"math"
	"reflect"
	"strings"
	"testing"

	"verdict/api"
	"verdict/logic"
)

var (
	yes  = api.Value{Kind: api.VBool, Yes: true}
	no   = api.Value{Kind: api.VBool}
	null = api.Value{Kind: api.VNull}
	none = api.Value{}
)

func num(coef int64, exp int) api.Value {
	return api.Value{Kind: api.VNum, Num: api.Dec{Coef: coef, Exp: exp}}
}

func text(s string) api.Value { return api.Value{Kind: api.VText, Text: s} }

func list(l ...api.Value) api.Value { return api.Value{Kind: api.VList, List: l} }

// littered is v with something in all fields that its kind has not.
func littered(v api.Value) api.Value {
	l := api.Value{Kind: v.Kind, Yes: true, Num: api.Dec{Coef: 10, Exp: 99}, Text: "\xff", List: make([]api.Value, 300)}
	switch v.Kind {
	case api.VBool:
		l.Yes = v.Yes
	case api.VNum:
		l.Num = v.Num
	case api.VText:
		l.Text = v.Text
	case api.VList:
		l.List = v.List
	}
	return l
}

// nested is null within lists, that many deep in all.
func nested(deep int) api.Value {
	v := null
	for range deep - 1 {
		v = list(v)
	}
	return v
}

// many has that many nulls within a list.
func many(n int) api.Value {
	l := make([]api.Value, n)
	for i := range l {
		l[i] = null
	}
	return list(l...)
}

// wide has that many values in all: itself, and lists as long as they may be, and one that is shorter.
func wide(nodes int) api.Value {
	v := list()
	left := nodes - 1
	for left > 0 {
		kid := many(min(left-1, api.MaxList))
		left -= 1 + len(kid.List)
		v.List = append(v.List, kid)
	}
	return v
}

// endless is a list that holds itself, that many times.
func endless(n int) api.Value {
	l := make([]api.Value, n)
	for i := range l {
		l[i] = list(l...)
		l[i].List = l
	}
	return list(l...)
}

// is checks all fields: those that a kind has not must be zero.
func is(t *testing.T, what string, got, want api.Value) {
	t.Helper()
	if !reflect.DeepEqual(got, want) {
		t.Errorf("%s: %+v comes, not %+v", what, got, want)
	}
}

func TestB1Wrong(t *testing.T) {
	long := strings.Repeat("é", api.MaxText/2)
	for i, c := range []struct {
		v    api.Value
		want api.Errno
	}{
		{null, api.OK},
		{yes, api.OK},
		{no, api.OK},
		{num(0, 0), api.OK},
		{num(-api.MaxCoef, api.MaxExp), api.OK},
		{num(math.MinInt64, 0), api.ErrRange},
		{num(1, api.MaxExp+1), api.ErrRange},
		{num(10, 0), api.ErrForm},
		{num(0, 1), api.ErrForm},
		{text(""), api.OK},
		{text("é\x00\U0010ffff\ufffd"), api.OK},
		{text(long), api.OK},
		{text(long + "a"), api.ErrMuch},
		{text(long + "\xff"), api.ErrMuch},
		{text(long[:api.MaxText-1]), api.ErrForm},
		{text("\xff"), api.ErrForm},
		{text("a\xc3"), api.ErrForm},
		{text("\xed\xa0\x80"), api.ErrForm},
		{text("\xc0\x80"), api.ErrForm},
		{text("\xf4\x90\x80\x80"), api.ErrForm},
		{list(), api.OK},
		{list(null, yes, num(1, 0), text("a"), list(list())), api.OK},
		{none, api.ErrKind},
		{api.Value{Kind: 6}, api.ErrKind},
		{api.Value{Kind: -1}, api.ErrKind},
		{api.Value{Kind: math.MaxInt}, api.ErrKind},
		{littered(null), api.OK},
		{littered(no), api.OK},
		{littered(num(7, 0)), api.OK},
		{littered(text("a")), api.OK},
		{littered(list(littered(null))), api.OK},
	} {
		if got := logic.Wrong(c.v); got != c.want {
			t.Errorf("%d: %d comes, not %d", i, got, c.want)
		}
	}
}

func TestB1WrongOfLists(t *testing.T) {
	for i, c := range []struct {
		v    api.Value
		want api.Errno
	}{
		{many(api.MaxList), api.OK},
		{many(api.MaxList + 1), api.ErrMany},
		{api.Value{Kind: api.VList, List: make([]api.Value, api.MaxList)}, api.ErrKind},
		{api.Value{Kind: api.VList, List: make([]api.Value, api.MaxList+1)}, api.ErrMany},
		{nested(api.MaxDepth), api.OK},
		{nested(api.MaxDepth + 1), api.ErrMuch},
		{nested(100000), api.ErrMuch},
		{wide(api.MaxNodes), api.OK},
		{wide(api.MaxNodes + 1), api.ErrMuch},
		{wide(10 * api.MaxNodes), api.ErrMuch},
		// A list is counted with what is in the ones ahead of it.
		{list(wide(api.MaxNodes-2), null), api.OK},
		{list(wide(api.MaxNodes-1), null), api.ErrMuch},
		{list(wide(api.MaxNodes-2), null, null), api.ErrMuch},
		{endless(1), api.ErrMuch},
		{endless(api.MaxList), api.ErrMuch},
		// The first one that is wrong is told, and a list itself ahead of what is in it.
		{list(num(10, 0), none, text("\xff")), api.ErrForm},
		{list(none, num(10, 0)), api.ErrKind},
		{list(num(1, 99), none), api.ErrRange},
		{list(list(list(none)), many(api.MaxList+1)), api.ErrKind},
		{list(many(api.MaxList+1), none), api.ErrMany},
		{list(list(yes), list(list(yes, none), text("\xff"))), api.ErrKind},
		{list(list(nested(api.MaxDepth)), none), api.ErrMuch},
		{list(none, nested(api.MaxDepth)), api.ErrKind},
		// Too deep, or one too many, comes ahead of what else is wrong with it.
		{list(wide(api.MaxNodes-1), none), api.ErrMuch},
		{list(wide(api.MaxNodes-2), none), api.ErrKind},
		{list(wide(api.MaxNodes-2), many(api.MaxList+1)), api.ErrMany},
		{list(wide(api.MaxNodes-1), many(api.MaxList+1)), api.ErrMuch},
	} {
		if got := logic.Wrong(c.v); got != c.want {
			t.Errorf("%d: %d comes, not %d", i, got, c.want)
		}
	}
	deep := none
	for range api.MaxDepth {
		deep = list(deep)
	}
	if got := logic.Wrong(deep); got != api.ErrMuch {
		t.Errorf("%d comes of what is too deep and has no kind", got)
	}
	if got := logic.Wrong(deep.List[0]); got != api.ErrKind {
		t.Errorf("%d comes of what is not too deep and has no kind", got)
	}
}

func TestB2NotAndOr(t *testing.T) {
	for _, c := range []struct{ a, want api.Value }{{yes, no}, {no, yes}, {null, null}} {
		is(t, "Not", logic.Not(c.a), c.want)
		is(t, "Not", logic.Not(littered(c.a)), c.want)
	}
	for _, c := range []struct{ a, b, and, or api.Value }{
		{yes, yes, yes, yes},
		{yes, no, no, yes},
		{yes, null, null, yes},
		{no, no, no, no},
		{no, null, no, null},
		{null, null, null, null},
	} {
		is(t, "And", logic.And(c.a, c.b), c.and)
		is(t, "And", logic.And(c.b, littered(c.a)), c.and)
		is(t, "Or", logic.Or(c.a, c.b), c.or)
		is(t, "Or", logic.Or(littered(c.b), c.a), c.or)
	}
}

func TestB2WhatIsNoTruthIsAsNull(t *testing.T) {
	for _, v := range []api.Value{num(1, 0), num(0, 0), text("true"), list(yes), list(), none, {Kind: 6, Yes: true}, {Kind: -2, Yes: true}} {
		for _, v := range []api.Value{v, littered(v)} {
			is(t, "Not", logic.Not(v), null)
			is(t, "And", logic.And(v, v), null)
			is(t, "Or", logic.Or(v, v), null)
			for _, b := range []api.Value{yes, no, null} {
				is(t, "And", logic.And(v, b), logic.And(null, b))
				is(t, "And", logic.And(b, v), logic.And(b, null))
				is(t, "Or", logic.Or(v, b), logic.Or(null, b))
				is(t, "Or", logic.Or(b, v), logic.Or(b, null))
			}
		}
	}
}

// What comes of null must not be contradicted, once more is known.
func TestB2WhoKnowsMoreIsNotContradicted(t *testing.T) {
	known := func(v api.Value) []api.Value {
		if v.Kind == api.VNull {
			return []api.Value{yes, no}
		}
		return []api.Value{v}
	}
	for _, call := range []func(a, b api.Value) api.Value{logic.And, logic.Or} {
		for _, a := range []api.Value{yes, no, null} {
			for _, b := range []api.Value{yes, no, null} {
				said := call(a, b)
				can := [2]int{}
				for _, x := range known(a) {
					for _, y := range known(b) {
						if call(x, y).Yes {
							can[1]++
						} else {
							can[0]++
						}
					}
				}
				sure := can[0] == 0 || can[1] == 0
				if sure != (said.Kind == api.VBool) || sure && said.Yes != (can[1] > 0) {
					t.Errorf("%+v, %+v: %+v comes", a, b, said)
				}
			}
		}
	}
}

func TestB3Equal(t *testing.T) {
	for i, c := range []struct{ a, b, want api.Value }{
		{null, null, yes},
		{null, yes, no},
		{null, no, no},
		{null, num(0, 0), no},
		{null, text(""), no},
		{null, list(), no},
		{null, list(null), no},
		{yes, yes, yes},
		{no, no, yes},
		{yes, no, no},
		{yes, num(1, 0), null},
		{yes, text("true"), null},
		{yes, list(yes), null},
		{num(1, 0), text("1"), null},
		{num(1, 0), list(num(1, 0)), null},
		{text("a"), list(text("a")), null},
		{num(15, -1), num(15, -1), yes},
		{num(1, 0), num(1, 1), no},
		{num(1, 0), num(-1, 0), no},
		{num(1, 0), num(2, 0), no},
		{text("é"), text("é"), yes},
		{text(""), text(""), yes},
		{text("a"), text("A"), no},
		{text("a"), text("ab"), no},
		{text("e\u0301"), text("é"), no},
		{littered(yes), yes, yes},
		{littered(null), null, yes},
		{littered(num(1, 0)), num(1, 0), yes},
		{littered(text("a")), text("a"), yes},
		{littered(list(yes)), list(yes), yes},
	} {
		if got := logic.Equal(c.a, c.b); !reflect.DeepEqual(got, c.want) {
			t.Errorf("%d: %+v comes, not %+v", i, got, c.want)
		}
		if got := logic.Equal(c.b, c.a); !reflect.DeepEqual(got, c.want) {
			t.Errorf("%d, turned: %+v comes, not %+v", i, got, c.want)
		}
	}
}

func TestB3EqualOfLists(t *testing.T) {
	one, two, a := num(1, 0), num(2, 0), text("a")
	for i, c := range []struct{ a, b, want api.Value }{
		{list(), list(), yes},
		{list(), api.Value{Kind: api.VList, List: []api.Value{}}, yes},
		{list(), list(null), no},
		{list(one), list(one, one), no},
		{list(one), list(a, a), no},
		{list(one, two), list(one, two), yes},
		{list(one, two), list(two, one), no},
		{list(null), list(null), yes},
		{list(null), list(one), no},
		{list(one), list(a), null},
		// What is not known does not hide that something differs, wherever it stands.
		{list(one, one), list(a, two), no},
		{list(one, one), list(two, a), no},
		{list(one, one), list(a, one), null},
		{list(one, one), list(one, a), null},
		{list(one, null), list(a, one), no},
		{list(list(one), list()), list(list(one), list()), yes},
		{list(list(one), list()), list(list(one), list(one)), no},
		{list(list(one), one), list(list(a), one), null},
		{list(list(one), one), list(list(a), two), no},
		{list(list(one)), list(one), null},
		{list(list(null)), list(list(null)), yes},
		{nested(api.MaxDepth), nested(api.MaxDepth), yes},
		{nested(api.MaxDepth), nested(api.MaxDepth - 1), no},
		{wide(api.MaxNodes), wide(api.MaxNodes), yes},
		{wide(api.MaxNodes), wide(api.MaxNodes - 1), no},
		{many(api.MaxList), many(api.MaxList), yes},
	} {
		if got := logic.Equal(c.a, c.b); !reflect.DeepEqual(got, c.want) {
			t.Errorf("%d: %+v comes, not %+v", i, got, c.want)
		}
		if got := logic.Equal(c.b, c.a); !reflect.DeepEqual(got, c.want) {
			t.Errorf("%d, turned: %+v comes, not %+v", i, got, c.want)
		}
	}
}

// The very last one of as many as there may be is looked at.
func TestB3EqualLooksAtAll(t *testing.T) {
	for _, c := range []struct{ last, want api.Value }{{num(1, 0), no}, {null, yes}} {
		a, b := wide(api.MaxNodes), wide(api.MaxNodes)
		kid := b.List[len(b.List)-1].List
		kid[len(kid)-1] = c.last
		is(t, "Equal", logic.Equal(a, b), c.want)
		is(t, "Equal", logic.Equal(b, a), c.want)
	}
}

func TestB3Less(t *testing.T) {
	rising := [][]api.Value{
		{num(-1, 40), num(-35, -1), num(-1, -40), num(0, 0), num(1, -40), num(9, -1), num(1, 0), num(9, 0), num(1, 1), num(api.MaxCoef, 40)},
		{text(""), text("\x00"), text("A"), text("Z"), text("a"), text("a\x00"), text("aa"), text("b"), text("z"), text("é"), text("\U00010000")},
	}
	for _, row := range rising {
		for i, a := range row {
			for j, b := range row {
				want := no
				if i < j {
					want = yes
				}
				is(t, "Less", logic.Less(a, b), want)
				is(t, "Less", logic.Less(littered(a), b), want)
			}
		}
	}
	others := []api.Value{null, yes, no, num(1, 0), text("a"), list(), list(num(1, 0)), list(text("a"))}
	for i, a := range others {
		for j, b := range others {
			if i != j || a.Kind != api.VNum && a.Kind != api.VText {
				is(t, "Less", logic.Less(a, b), null)
			}
		}
	}
}

func TestB3WhatIsWrongDoesNotPanicAndEnds(t *testing.T) {
	bad := []api.Value{
		none, {Kind: 6}, {Kind: -1}, num(10, 0), num(math.MinInt64, math.MinInt), num(math.MaxInt64, math.MaxInt), text("\xff"), text(strings.Repeat("a", 5000)),
		many(1000), nested(60000), wide(10000), endless(1), endless(2), endless(api.MaxList), endless(1000), list(none, endless(3)), null, list(), num(1, 0), text("a"),
	}
	for _, a := range bad {
		for _, b := range bad {
			logic.Equal(a, b)
			logic.Less(a, b)
			logic.And(a, b)
			logic.Or(a, b)
		}
		logic.Not(a)
		logic.Wrong(a)
	}
}

// The calls only read: neither lists nor the room behind them change.
func TestB3NothingIsChanged(t *testing.T) {
	room := []api.Value{num(1, 0), list(text("a"), null), yes, text("spare")}
	kept := []api.Value{num(1, 0), list(text("a"), null), yes, text("spare")}
	v := list(room[:3]...)
	v.List = room[:3]
	logic.Wrong(v)
	logic.Not(v)
	for _, b := range []api.Value{v, list(kept[:3]...)} {
		is(t, "Equal", logic.Equal(v, b), yes)
		logic.Less(v, b)
		logic.And(v, b)
		logic.Or(v, b)
	}
	if !reflect.DeepEqual(room, kept) {
		t.Errorf("%+v is left", room)
	}
}
