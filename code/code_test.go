package code_test

import (
	"fmt"
	"reflect"
	"slices"
	"strings"
	"sync"
	"testing"

	"verdict/api"
	"verdict/code"
	"verdict/eval"
	"verdict/syn"
)

var null = api.Value{Kind: api.VNull}

func truth(yes bool) api.Value { return api.Value{Kind: api.VBool, Yes: yes} }

func num(coef int64, exp int) api.Value {
	return api.Value{Kind: api.VNum, Num: api.Dec{Coef: coef, Exp: exp}}
}

func text(s string) api.Value { return api.Value{Kind: api.VText, Text: s} }

func list(l ...api.Value) api.Value { return api.Value{Kind: api.VList, List: l} }

// rowOf is a list of v, that many times.
func rowOf(v api.Value, n int) api.Value {
	l := list()
	for range n {
		l.List = append(l.List, v)
	}
	return l
}

func literal(v api.Value) api.Expr { return api.Expr{Kind: api.XLit, Val: v} }

func name(s string) api.Expr { return api.Expr{Kind: api.XName, Name: s} }

func node(kind int, kids ...api.Expr) api.Expr { return api.Expr{Kind: kind, Kids: kids} }

func each(kind int, name string, kids ...api.Expr) api.Expr {
	return api.Expr{Kind: kind, Name: name, Kids: kids}
}

// same holds all fields against each other; nil and a list without entries are the same.
func same(a, b api.Value) bool {
	return a.Kind == b.Kind && a.Yes == b.Yes && a.Num == b.Num && a.Text == b.Text && slices.EqualFunc(a.List, b.List, same)
}

func say(v api.Value) string {
	switch v.Kind {
	case api.VNull:
		return "null"
	case api.VBool:
		return fmt.Sprint(v.Yes)
	case api.VNum:
		return fmt.Sprint(v.Num.Coef, "e", v.Num.Exp)
	case api.VText:
		return fmt.Sprintf("%q", v.Text)
	case api.VList:
		var all []string
		for _, one := range v.List {
			all = append(all, say(one))
		}
		return "[" + strings.Join(all, ", ") + "]"
	}
	return "nothing"
}

// listing tells instructions, one behind the other: the first letters of Op, and all that is not empty.
func listing(all []api.Instr) string {
	var lines []string
	for _, one := range all {
		line := "? count push load node else jump each next"
		if one.Op >= 0 && one.Op <= 8 {
			line = strings.Fields(line)[one.Op]
		}
		if one.Kind != 0 {
			line += fmt.Sprint(" k", one.Kind)
		}
		if one.N != 0 {
			line += fmt.Sprint(" n", one.N)
		}
		if one.To != 0 {
			line += fmt.Sprint(" >", one.To)
		}
		if one.Name != "" {
			line += " " + one.Name
		}
		if !same(one.Val, api.Value{}) {
			line += " " + say(one.Val)
		}
		lines = append(lines, line)
	}
	return strings.Join(lines, "; ")
}

func read(t *testing.T, text string) api.Expr {
	t.Helper()
	x, fault := syn.Read(text)
	if fault.Err != api.OK {
		t.Fatalf("%s: %+v comes", text, fault)
	}
	return x
}

func someBinds() []api.Bind {
	return []api.Bind{
		{Name: "n", Val: text("another one behind it has its name")},
		{Name: "n", Val: num(7, 0)}, {Name: "s", Val: text("Straße")}, {Name: "b", Val: truth(true)}, {Name: "c", Val: truth(false)}, {Name: "z", Val: null},
		{Name: "l", Val: list(num(3, 0), num(1, 0), num(2, 0))}, {Name: "m", Val: list(list(num(1, 0)), list(), list(num(2, 0), null))}, {Name: "t", Val: list(text("b"), text("a"))}, {Name: "e", Val: list()}, {Name: "k", Val: rowOf(num(5, -1), 90)}, {Name: "q", Val: rowOf(null, 200)},
	}
}

// littered is v with something in all fields that its kind has not.
func littered(v api.Value) api.Value {
	l := api.Value{Kind: v.Kind, Yes: true, Num: api.Dec{Coef: 10, Exp: 99}, Text: "\xff", List: make([]api.Value, 3)}
	switch v.Kind {
	case api.VBool:
		l.Yes = v.Yes
	case api.VNum:
		l.Num = v.Num
	case api.VText:
		l.Text = v.Text
	case api.VList:
		l.List = v.List
	}
	return l
}

// wrongExprs are some of each kind of wrong, and what is wrong with them.
func wrongExprs() map[api.Errno][]api.Expr {
	circle := node(api.XNeg, api.Expr{})
	circle.Kids[0] = circle
	one := literal(num(1, 0))
	return map[api.Errno][]api.Expr{
		api.ErrKind: {{}, {Kind: 23}, {Kind: -1}, literal(api.Value{}), node(api.XNeg, api.Expr{}), node(api.XIf, one, one, api.Expr{Kind: 99}), each(api.XFor, "x", one, api.Expr{})},
		api.ErrMuch: {circle, deepMinus(api.MaxShape + 1), wide(api.MaxExprs + 1), literal(text(strings.Repeat("a", api.MaxText+1)))},
		api.ErrForm: {literal(num(10, 0)), literal(text("\xff"))},
		api.ErrFit:  {literal(list()), literal(num(-1, 0))},
		api.ErrName: {name(""), name("if"), name("a b"), each(api.XFor, "", one, one), each(api.XSome, "in", one, one), {Kind: api.XCall, Name: "1"}},
		api.ErrMany: {node(api.XNeg), node(api.XAdd, one), node(api.XOr, one, one, one), node(api.XIf, one, one), each(api.XEvery, "x", one), {Kind: api.XName, Name: "x", Kids: []api.Expr{one}}, {Kind: api.XLit, Val: null, Kids: []api.Expr{one}}, manyKids(api.XList, api.MaxList+1), manyKids(api.XCall, api.MaxArgs+1)},
	}
}

// deepMinus has that many nodes nested.
func deepMinus(nodes int) api.Expr {
	x := literal(num(1, 0))
	for range nodes - 1 {
		x = node(api.XNeg, x)
	}
	return x
}

func manyKids(kind, n int) api.Expr {
	x := api.Expr{Kind: kind, Name: "f"}
	for range n {
		x.Kids = append(x.Kids, name("n"))
	}
	return x
}

// wide has that many nodes in all, more than 200 of them: itself, and lists as long as they may be, and one that is shorter.
func wide(nodes int) api.Expr {
	x := node(api.XList)
	for left := nodes - 1; left > 0; {
		kid := manyKids(api.XList, min(left-1, api.MaxList))
		left -= 1 + len(kid.Kids)
		x.Kids = append(x.Kids, kid)
	}
	return x
}

func TestG1ByKind(t *testing.T) {
	for _, row := range [][2]string{
		{"1", "count; push 1e0"}, {"null", "count; push null"}, {"false", "count; push false"}, {`"a"`, `count; push "a"`}, {"n", "count; load n"},
		{"-n", "count; count; load n; node k3 n1"},
		{"1 + 2", "count; count; push 1e0; count; push 2e0; node k4 n2"},
		{"n - 2", "count; count; load n; count; push 2e0; node k5 n2"},
		{"1 + n * 2", "count; count; push 1e0; count; count; load n; count; push 2e0; node k6 n2; node k4 n2"},
		{"(1 + n) / 2", "count; count; count; push 1e0; count; load n; node k4 n2; count; push 2e0; node k7 n2"},
		{"[]", "count; node k19"}, {"[n]", "count; count; load n; node k19 n1"}, {"[1, n, 2]", "count; count; push 1e0; count; load n; count; push 2e0; node k19 n3"},
		{"f()", "count; node k18 f"}, {"max([1])", "count; count; count; push 1e0; node k19 n1; node k18 n1 max"}, {"f(a, b)", "count; count; load a; count; load b; node k18 n2 f"},
		{"if a then 1 else n", "count; count; load a; else >7; count; push 1e0; jump >9; count; load n"},
		{"-(if a then -1 else n)", "count; count; count; load a; else >10; count; count; push 1e0; node k3 n1; jump >12; count; load n; node k3 n1"},
		{"if a then if b then 1 else 2 else 3", "count; count; load a; else >14; count; count; load b; else >11; count; push 1e0; jump >13; count; push 2e0; jump >16; count; push 3e0"},
		{"for x in l return x", "count; count; load l; each k20 >7 x; count; load x; next k20 >4"},
		{"some x in l satisfies x", "count; count; load l; each k21 >7 x; count; load x; next k21 >4"},
		{"every x in [] satisfies -x", "count; count; node k19; each k22 >9 x; count; count; load x; node k3 n1; next k22 >4"},
		{"for x in l return for y in x return y", "count; count; load l; each k20 >12 x; count; count; load x; each k20 >11 y; count; load y; next k20 >8; next k20 >4"},
		{"for x in (for y in l return y) return 1", "count; count; count; load l; each k20 >8 y; count; load y; next k20 >5; each k20 >12 x; count; push 1e0; next k20 >9"},
	} {
		got, err := code.Make(read(t, row[0]))
		if err != api.OK || listing(got) != row[1] {
			t.Errorf("%s: %s, %d comes, not %s", row[0], listing(got), err, row[1])
		}
	}
}

// Fields that a kind has not mean nothing, and don't come; a literal comes as it is.
func TestG1OtherFields(t *testing.T) {
	val, one := littered(text("a")), name("n")
	one.Val = val
	for kind := api.XNeg; kind <= api.XEvery; kind++ {
		x := api.Expr{Kind: kind, Name: "f", Val: val, Kids: []api.Expr{one, one, one}}
		switch kind {
		case api.XNeg:
			x.Kids = x.Kids[:1]
		case api.XIf, api.XCall, api.XList:
		default:
			x.Kids = x.Kids[:2]
		}
		got, err := code.Make(x)
		if err != api.OK || !reflect.DeepEqual(got, saysMake(x, 0)) {
			t.Errorf("%d: %s, %d comes", kind, listing(got), err)
		}
		for _, instr := range got {
			named := instr.Op == api.OpLoad || instr.Op == api.OpEach || instr.Op == api.OpNode && kind == api.XCall
			if !same(instr.Val, api.Value{}) || (instr.Name != "") != named {
				t.Errorf("%d: %+v comes", kind, instr)
			}
		}
	}
	for _, v := range []api.Value{null, truth(false), num(7, 0), text("a")} {
		got, err := code.Make(api.Expr{Kind: api.XLit, Name: "if", Val: littered(v)})
		if want := []api.Instr{{Op: api.OpCount}, {Op: api.OpPush, Val: littered(v)}}; err != api.OK || !reflect.DeepEqual(got, want) {
			t.Errorf("%+v, %d comes of a literal", got, err)
		}
	}
}

func TestG1G3Wrong(t *testing.T) {
	for want, all := range wrongExprs() {
		for i, x := range all {
			if got, err := code.Make(x); err != want || len(got) != 0 {
				t.Errorf("Make, %d of %d: %s, %d comes", i, want, listing(got), err)
			}
			if values, lists, err := code.Depth(x); err != want || values != 0 || lists != 0 {
				t.Errorf("Depth, %d of %d: %d, %d, %d comes", i, want, values, lists, err)
			}
		}
	}
}

func TestG1G3Edges(t *testing.T) {
	loops, sums := name("q"), name("q")
	for range api.MaxShape - 1 {
		loops = each(api.XFor, "x", name("q"), loops)
		sums = node(api.XAdd, name("q"), sums)
	}
	for i, c := range []struct {
		x                     api.Expr
		instrs, values, lists int
	}{
		{deepMinus(api.MaxShape), 2 * api.MaxShape, 1, 0},
		{wide(api.MaxExprs), 2 * api.MaxExprs, 3 + api.MaxList, 0},
		{manyKids(api.XList, api.MaxList), 2*api.MaxList + 2, api.MaxList, 0},
		{manyKids(api.XCall, api.MaxArgs), 2*api.MaxArgs + 2, api.MaxArgs, 0},
		{loops, 2*api.MaxShape + 3*(api.MaxShape-1), 1, api.MaxShape - 1},
		{sums, 4*api.MaxShape - 2, api.MaxShape, 0},
	} {
		holdMakeAgainst(t, c.x)
		all, err := code.Make(c.x)
		values, lists, wrong := code.Depth(c.x)
		if err != api.OK || wrong != api.OK || len(all) != c.instrs || values != c.values || lists != c.lists {
			t.Errorf("%d: %d instructions, %d, %d, %d, %d comes", i, len(all), values, lists, err, wrong)
		}
	}
}

// What comes is the caller's, its spare room, too, and what was handed in stays.
func TestG1NothingIsChangedOrShared(t *testing.T) {
	for _, s := range []string{"1", "n", "[1, [n], []]", "if a then 1 else -2", "for x in [1, 2] return some y in x satisfies f(x, y)"} {
		x, before := read(t, s), read(t, s)
		got, _ := code.Make(x)
		said := listing(got)
		clear(got[:cap(got)])
		again, _ := code.Make(x)
		third, _ := code.Make(x)
		clear(third[:cap(third)])
		if listing(again) != said || !reflect.DeepEqual(x, before) {
			t.Errorf("%s: %s comes, and then %s", s, said, listing(again))
		}
	}
}

func TestG2WhatIsAsked(t *testing.T) {
	one := literal(num(1, 0))
	full := make([]api.Bind, api.MaxVars)
	for i := range full {
		full[i] = api.Bind{Name: "x", Val: null}
	}
	bad := api.Value{Kind: 9}
	endless := make([]api.Value, 1)
	endless[0] = list(endless...)
	endless[0].List = endless
	for i, c := range []struct {
		x     api.Expr
		binds []api.Bind
		want  api.Errno
	}{
		{one, nil, api.OK},
		{one, []api.Bind{}, api.OK},
		{one, full, api.OK},
		{one, append(full, full[0]), api.ErrMany},
		{one, make([]api.Bind, api.MaxVars+1), api.ErrMany},
		{api.Expr{}, make([]api.Bind, api.MaxVars+1), api.ErrKind},
		{one, []api.Bind{{Name: "if", Val: bad}}, api.ErrName},
		{one, []api.Bind{{Name: "x", Val: bad}, {Name: "if", Val: null}}, api.ErrKind},
		{one, []api.Bind{{Name: "x", Val: num(10, 0)}}, api.ErrForm},
		{one, []api.Bind{{Name: "x", Val: num(1, 41)}}, api.ErrRange},
		{one, []api.Bind{{Name: "x", Val: rowOf(null, api.MaxList+1)}}, api.ErrMany},
		{one, []api.Bind{{Name: "x", Val: list(endless...)}}, api.ErrMuch},
		{name("y"), []api.Bind{{Name: "x", Val: bad}}, api.ErrKind},
		{name("y"), full, api.ErrName},
		{name("x"), full, api.OK},
		{name("x"), full[:0], api.ErrName},
	} {
		got, err := code.Run(c.x, c.binds)
		if err != c.want || err != api.OK && !same(got, api.Value{}) {
			t.Errorf("%d: %s, %d comes, not %d", i, say(got), err, c.want)
		}
		holdAgainst(t, c.x, c.binds)
	}
	for want, all := range wrongExprs() {
		for i, x := range all {
			if got, err := code.Run(x, full); err != want || !same(got, api.Value{}) {
				t.Errorf("%d of %d: %s, %d comes", i, want, say(got), err)
			}
		}
	}
}

func TestG2Names(t *testing.T) {
	for _, c := range []struct {
		text string
		want api.Errno
	}{
		{"x", api.ErrName}, {"foo(1)", api.ErrName}, {"max()", api.ErrMany}, {"floor(x, 1)", api.ErrMany}, {"foo(floor())", api.ErrName}, {"floor(floor())", api.ErrMany}, {"floor() + x", api.ErrMany}, {"x + floor()", api.ErrName},
		{"if b then 1 else x", api.ErrName}, {"if c then floor() else 1", api.ErrMany}, {"for i in [] return x", api.ErrName}, {"some i in z satisfies foo()", api.ErrName},
		{"(for i in q return for j in q return 1) = x", api.ErrName},
		{"for x in x return 1", api.ErrName}, {"[for x in l return x, x]", api.ErrName}, {"for x in (for y in l return y) return y", api.ErrName}, {"for x in l return x", api.OK},
	} {
		if _, err := holdAgainst(t, read(t, c.text), someBinds()); err != c.want {
			t.Errorf("%s: %d comes, not %d", c.text, err, c.want)
		}
	}
}

func TestG2Values(t *testing.T) {
	for _, row := range [][2]string{
		{"1 + 2", "3e0"}, {"n", "7e0"}, {"-n", "-7e0"}, {"n - 2 * 3", "1e0"}, {"7 / n - 2", "-1e0"}, {"1 / 0", "null"}, {"s + n", "null"}, {`s + "s"`, `"Straßes"`},
		{"if b then 1 else 2", "1e0"}, {"if c then 1 else 2", "2e0"}, {"if z then 1 else 2", "2e0"}, {"if n then 1 else 2", "2e0"}, {"if b then if c then 1 else 2 else 3", "2e0"}, {"[if c then 1 else n, 5]", "[7e0, 5e0]"},
		{"[]", "[]"}, {"[1, [n], z]", "[1e0, [7e0], null]"}, {"max([1, n])", "7e0"}, {"substring(s, 2, 3)", `"tra"`}, {"concat(l, [1])", "[3e0, 1e0, 2e0, 1e0]"},
		{"for x in [1, 2] return x * 7", "[7e0, 14e0]"}, {"for x in e return x", "[]"}, {"for x in n return x", "null"}, {"for x in z return x", "null"}, {"for x in s return x", "null"},
		{"some x in l satisfies x > 2", "true"}, {"some x in l satisfies x > 3", "false"}, {"some x in e satisfies true", "false"}, {"some x in [1, z] satisfies x > 2", "null"}, {"some x in n satisfies true", "null"}, {"some x in [1] satisfies x", "null"},
		{"every x in l satisfies x > 0", "true"}, {"every x in l satisfies x > 1", "false"}, {"every x in e satisfies false", "true"}, {"every x in [1, z] satisfies x > 0", "null"}, {"every x in z satisfies true", "null"}, {"every x in [1] satisfies x", "null"},
		// The innermost one of a name counts; behind it the outer one does again.
		{"for n in l return n", "[3e0, 1e0, 2e0]"}, {"[for n in l return n, n]", "[[3e0, 1e0, 2e0], 7e0]"}, {"for n in l return [for n in [n] return n + 1, n]", "[[[4e0], 3e0], [[2e0], 1e0], [[3e0], 2e0]]"}, {"for x in [1, 2] return for x in [3] return x", "[[3e0], [3e0]]"}, {"for m in m return for m in m return m", "[[1e0], [], [2e0, null]]"},
		{"for x in l return if x = 1 then (for x in [5] return x) else [x]", "[[3e0], [5e0], [2e0]]"}, {"for x in l return for y in l return x - y", "[[0e0, 2e0, 1e0], [-2e0, 0e0, -1e0], [-1e0, 1e0, 0e0]]"},
		{"for x in [for y in l return y, e, n] return for z in x return z", "[[3e0, 1e0, 2e0], [], null]"}, {"1 + (if (some x in l satisfies x = 2) then 1 else 2)", "2e0"},
		// What would be wrong is null.
		{"for x in q return q", "null"}, {"[[q], for x in k return k]", "[[" + say(rowOf(null, 200)) + "], null]"}, {"concat(q, [1])", "null"}, {"count(for x in q return 1)", "2e2"},
	} {
		got, err := holdAgainst(t, read(t, row[0]), someBinds())
		if err != api.OK || say(got) != row[1] {
			t.Errorf("%s: %s, %d comes, not %s", row[0], say(got), err, row[1])
		}
	}
}

// Each expression comes together with just so many other nodes that one more would be too much.
func TestG2Steps(t *testing.T) {
	for _, c := range []struct {
		text  string
		steps int
	}{
		{"1", 1}, {"n", 1}, {"--n", 3}, {"n + 1", 3}, {"[]", 1}, {"[1, [2, n]]", 5}, {"substring(s, 1, 2)", 4}, {"c and -n", 4},
		{"if b then 1 else --2", 3}, {"if c then 1 else --2", 5}, {"if z then 1 else -2", 4},
		{"for x in l return x", 5}, {"for x in [] return -x", 2}, {"for x in n return -x", 2}, {"some x in l satisfies true", 5}, {"every x in l satisfies false", 5}, {"some x in s satisfies -x", 2}, {"every x in [] satisfies -x", 2},
		{"for x in m return for y in x return y", 11}, {"for x in q return for y in l return 1", 1002},
	} {
		x := read(t, "["+c.text+", for i in p return some j in w satisfies 1, for o in r return 1]")
		for over := -1; over <= 1; over++ {
			left := api.MaxSteps + over - c.steps - 5
			// Each of p takes fifty.
			binds := append(someBinds(), api.Bind{Name: "p", Val: rowOf(null, left/50)}, api.Bind{Name: "w", Val: rowOf(null, 48)}, api.Bind{Name: "r", Val: rowOf(null, left%50)})
			v, err := holdAgainst(t, x, binds)
			if over > 0 && (err != api.ErrMuch || !same(v, api.Value{})) || over <= 0 && (err != api.OK || v.Kind != api.VList) {
				t.Errorf("%s: %s, %d comes with %d more steps than may be", c.text, say(v), err, over)
			}
		}
	}
	deep := strings.Repeat("for x in q return ", 20) + "1"
	for _, s := range []string{deep, "[1, " + deep + "]", "count(" + deep + ")", "if b then " + deep + " else 1"} {
		if _, err := holdAgainst(t, read(t, s), someBinds()); err != api.ErrMuch {
			t.Errorf("%s: %d comes", s, err)
		}
	}
	holdAgainst(t, read(t, "if c then "+deep+" else 1"), someBinds())
}

// What is handed in keeps its other fields, where it is told; what is made has none.
func TestG2AsHandedIn(t *testing.T) {
	null, one, s, yes := littered(null), littered(num(1, 0)), littered(text("a")), littered(truth(true))
	l := littered(list(one, num(1, 0), s, null))
	binds := []api.Bind{{Name: "z", Val: null}, {Name: "n", Val: one}, {Name: "s", Val: s}, {Name: "b", Val: yes}, {Name: "c", Val: littered(truth(false))}, {Name: "l", Val: l}}
	for _, c := range []struct {
		text string
		want api.Value
	}{
		{"z", null}, {"n", one}, {"l", l}, {"if b then n else s", one}, {"if c then n else s", s}, {"if z then n else s", s},
		{"[n, l]", list(one, l)}, {"for x in l return x", list(l.List...)}, {"for x in z return x", api.Value{Kind: api.VNull}}, {"item(l, -1)", null}, {"n + 1", num(2, 0)}, {"some x in [b] satisfies x", truth(true)}, {"every x in [c, b] satisfies x", truth(false)}, {"not(z)", api.Value{Kind: api.VNull}},
	} {
		got, err := holdAgainst(t, read(t, c.text), binds)
		if err != api.OK || !same(got, c.want) {
			t.Errorf("%s: %+v, %d comes, not %+v", c.text, got, err, c.want)
		}
	}
	if got, err := code.Run(literal(s), nil); err != api.OK || !same(got, s) {
		t.Errorf("%+v, %d comes of a literal", got, err)
	}
}

// lists are all lists in v, itself among them.
func lists(v api.Value) [][]api.Value {
	if v.Kind != api.VList {
		return nil
	}
	all := [][]api.Value{v.List}
	for _, one := range v.List {
		all = append(all, lists(one)...)
	}
	return all
}

// What comes is the caller's, each list by itself, and its spare room, too; what was handed in stays, and its spare room, too.
func TestG2NothingIsChangedOrShared(t *testing.T) {
	for _, s := range []string{
		"l", "m", "[l, l]", "[m, m]", "reverse(m)", "sort(l)", "concat(m, m)", "item(m, 1)", "for x in m return m", "for x in m return x", "for y in [[1, 2]] return [y, y, [y]]", "if b then m else l", "[e, e]", "concat(l, e)", "[[1, 2], [3, 4], 5]", "for x in l return [x, for y in l return [y]]", "for n in l return for n in l return n", "[[l, e], (for x in l return [x, x]), [m]]",
	} {
		given := append(someBinds(), api.Bind{Name: "spare", Val: api.Value{Kind: 9}}, api.Bind{Name: "spare", Val: api.Value{Kind: 8}})
		binds := given[:len(given)-2]
		var handed [][]api.Value
		for _, b := range binds {
			handed = append(handed, lists(b.Val)...)
		}
		x := read(t, s)
		want, _ := eval.Eval(x, someBinds())
		got, err := code.Run(x, binds)
		if err != api.OK || !same(got, want) {
			t.Errorf("%s: %s, %d comes", s, say(got), err)
		}
		seen := map[*api.Value]int{}
		for _, l := range append(lists(got), handed...) {
			if cap(l) > 0 {
				seen[&l[:1][0]]++
			}
		}
		for _, l := range lists(got) {
			if cap(l) > 0 && seen[&l[:1][0]] > 1 {
				t.Errorf("%s has a list that is another one's", s)
			}
			clear(l[:cap(l)])
		}
		again, _ := code.Run(x, binds)
		if !reflect.DeepEqual(binds, someBinds()) || given[len(binds)].Val.Kind != 9 || given[len(binds)+1].Val.Kind != 8 || !same(again, want) {
			t.Errorf("%s: what was handed in is changed", s)
		}
	}
}

// Many may ask at once, of the same things.
func TestG2ManyAsk(t *testing.T) {
	x, binds := read(t, "for x in l return [some y in m satisfies count(y) = x, if x > 1 then sort(l) else [x]]"), someBinds()
	want, _ := eval.Eval(x, binds)
	got := make([]api.Value, 16)
	var wait sync.WaitGroup
	for i := range got {
		wait.Go(func() {
			got[i], _ = code.Run(x, binds)
			code.Make(x)
			code.Depth(x)
		})
	}
	wait.Wait()
	for i, v := range got {
		if !same(v, want) {
			t.Errorf("%d: %s comes", i, say(v))
		}
	}
}

func TestG3(t *testing.T) {
	for _, c := range []struct {
		text          string
		values, lists int
	}{
		{"1", 1, 0}, {"n", 1, 0}, {"--n", 1, 0}, {"1 + 2", 2, 0}, {"1 + 2 + 3", 2, 0}, {"1 + (2 + 3)", 3, 0}, {"1 + 2 * 3", 3, 0}, {"1 * 2 + 3 * 4", 3, 0},
		{"[]", 1, 0}, {"f()", 1, 0}, {"[1]", 1, 0}, {"[1, 2, 3]", 3, 0}, {"[1, 2, -3]", 3, 0}, {"[1, 2, [1, 2]]", 4, 0}, {"[[1, 2], 3, 4]", 3, 0}, {"[[1, 2, 3, 4], 3, 4]", 4, 0}, {"f(1, g(), [])", 3, 0}, {"[-[], []]", 2, 0},
		{"if a then 1 else 2", 1, 0}, {"if a = b then 1 else 2", 2, 0}, {"if a then 1 + 1 else 2", 2, 0}, {"if a then 1 else [1, 2, 3]", 3, 0}, {"1 + (if a then 1 else 2)", 2, 0}, {"1 + (if a then 1 else 2 + 3)", 3, 0}, {"[if a then 1 else 2, if a then 1 else 2]", 2, 0},
		{"for x in l return x", 1, 1}, {"for x in [] return x", 1, 1}, {"for x in 5 return 1", 1, 1}, {"for x in [1, 2, 3] return x", 3, 1}, {"for x in l return x + 1", 2, 1}, {"1 + count(for x in l return x + 1)", 3, 1}, {"[for x in l return x, for x in l return x]", 2, 1},
		{"some x in l satisfies every y in x satisfies y", 1, 2}, {"for x in (for y in l return y) return x", 1, 1}, {"for x in (for y in (for z in l return z) return y) return x", 1, 1}, {"for x in (for y in l return for z in y return z) return x", 1, 2}, {"for x in (for y in l return y) return for z in x return z", 1, 2},
		{"if (some x in l satisfies x) then (for x in l return for y in x return y) else 1", 1, 2}, {"if true then 1 else for x in l return [x, for y in x return [1, y]]", 3, 2}, {"1 + (for x in l return 1 + (for y in l return 1 + y))", 4, 2},
		// Names and functions are not asked for.
		{"nothing + foo(1, 2)", 3, 0},
	} {
		x := read(t, c.text)
		values, lists, err := code.Depth(x)
		if err != api.OK || values != c.values || lists != c.lists {
			t.Errorf("%s: %d, %d, %d comes, not %d, %d", c.text, values, lists, err, c.values, c.lists)
		}
		holdMakeAgainst(t, x)
	}
}
