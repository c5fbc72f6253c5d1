package eval_test

import (
	"strconv"
	"strings"
	"testing"

	"verdict/api"
	"verdict/dec"
	"verdict/eval"
	"verdict/syn"
)

var null = api.Value{Kind: api.VNull}

func text(s string) api.Value { return api.Value{Kind: api.VText, Text: s} }

func list(l ...api.Value) api.Value { return api.Value{Kind: api.VList, List: l} }

// rowOf is a list of v, that many times.
func rowOf(v api.Value, n int) api.Value {
	l := make([]api.Value, n)
	for i := range l {
		l[i] = v
	}
	return list(l...)
}

// nested is v within that many lists.
func nested(v api.Value, lists int) api.Value {
	for range lists {
		v = list(v)
	}
	return v
}

// say writes a value as an expression would be written that has it.
func say(v api.Value) string {
	switch v.Kind {
	case api.VNull:
		return "null"
	case api.VBool:
		return strconv.FormatBool(v.Yes)
	case api.VNum:
		s, err := dec.Print(v.Num)
		if err != api.OK {
			return "no number"
		}
		return s
	case api.VText:
		return strconv.Quote(v.Text)
	case api.VList:
		var all []string
		for _, one := range v.List {
			all = append(all, say(one))
		}
		return "[" + strings.Join(all, ", ") + "]"
	}
	return "nothing"
}

func sayBinds(binds []api.Bind) string {
	said := ""
	for _, b := range binds {
		said += b.Name + " " + say(b.Val) + "\n"
	}
	return said
}

func read(t *testing.T, text string) api.Expr {
	t.Helper()
	x, fault := syn.Read(text)
	if fault.Err != api.OK {
		t.Fatalf("%s: %+v comes", text, fault)
	}
	return x
}

func someBinds() []api.Bind {
	one, two := numOf(1), numOf(2)
	return []api.Bind{
		{Name: "n", Val: text("another one behind it has its name")},
		{Name: "n", Val: numOf(7)},
		{Name: "s", Val: text("straße")},
		{Name: "b", Val: api.Value{Kind: api.VBool, Yes: true}},
		{Name: "c", Val: api.Value{Kind: api.VBool}},
		{Name: "z", Val: null},
		{Name: "l", Val: list(numOf(3), one, two)},
		{Name: "m", Val: list(list(one), list(two, one))},
		{Name: "q", Val: rowOf(numOf(0), 200)},
	}
}

// told holds what expressions have against what they must have: a value, or what is wrong.
func told(t *testing.T, rows [][2]string) {
	t.Helper()
	errs := map[string]api.Errno{"ErrName": api.ErrName, "ErrMany": api.ErrMany, "ErrMuch": api.ErrMuch}
	for _, row := range rows {
		got, err := eval.Eval(read(t, row[0]), someBinds())
		want, wrong := errs[row[1]]
		switch {
		case wrong && (err != want || !same(got, api.Value{})):
			t.Errorf("%s: %s, %d comes, not %s", row[0], say(got), err, row[1])
		case !wrong && (err != api.OK || say(got) != row[1]):
			t.Errorf("%s: %s, %d comes, not %s", row[0], say(got), err, row[1])
		}
	}
}

func TestF1WhatIsAsked(t *testing.T) {
	one := api.Expr{Kind: api.XLit, Val: numOf(1)}
	name := func(s string) api.Expr { return api.Expr{Kind: api.XName, Name: s} }
	full := make([]api.Bind, api.MaxVars)
	for i := range full {
		full[i] = api.Bind{Name: "x", Val: null}
	}
	bad := api.Value{Kind: 9}
	endless := make([]api.Value, 1)
	endless[0] = list(endless...)
	circle := api.Expr{Kind: api.XNeg, Kids: make([]api.Expr, 1)}
	circle.Kids[0] = circle
	for i, c := range []struct {
		x     api.Expr
		binds []api.Bind
		want  api.Errno
	}{
		{one, nil, api.OK},
		{one, []api.Bind{}, api.OK},
		{one, full, api.OK},
		{one, append(full, full[0]), api.ErrMany},
		{one, make([]api.Bind, api.MaxVars+1), api.ErrMany},
		{api.Expr{}, make([]api.Bind, api.MaxVars+1), api.ErrKind},
		{api.Expr{Kind: 23}, nil, api.ErrKind},
		{circle, nil, api.ErrMuch},
		{api.Expr{Kind: api.XNeg}, nil, api.ErrMany},
		{name(""), nil, api.ErrName},
		{api.Expr{Kind: api.XLit, Val: list()}, nil, api.ErrFit},
		{api.Expr{Kind: api.XLit, Val: api.Value{Kind: api.VNum, Num: api.Dec{Coef: 10}}}, nil, api.ErrForm},
		{one, []api.Bind{{Name: "if", Val: null}}, api.ErrName},
		{one, []api.Bind{{Name: "", Val: null}}, api.ErrName},
		{one, []api.Bind{{Name: "a b", Val: null}}, api.ErrName},
		{one, []api.Bind{{Name: "if", Val: bad}}, api.ErrName},
		{one, []api.Bind{{Name: strings.Repeat("a", api.MaxName), Val: null}}, api.OK},
		{one, []api.Bind{{Name: strings.Repeat("a", api.MaxName+1), Val: null}}, api.ErrName},
		{one, []api.Bind{{Name: "x"}}, api.ErrKind},
		{one, []api.Bind{{Name: "x", Val: bad}}, api.ErrKind},
		{one, []api.Bind{{Name: "x", Val: list(null, bad)}}, api.ErrKind},
		{one, []api.Bind{{Name: "x", Val: api.Value{Kind: api.VNum, Num: api.Dec{Coef: 1, Exp: 41}}}}, api.ErrRange},
		{one, []api.Bind{{Name: "x", Val: api.Value{Kind: api.VNum, Num: api.Dec{Coef: 20}}}}, api.ErrForm},
		{one, []api.Bind{{Name: "x", Val: text("\xff")}}, api.ErrForm},
		{one, []api.Bind{{Name: "x", Val: text(strings.Repeat("a", api.MaxText+1))}}, api.ErrMuch},
		{one, []api.Bind{{Name: "x", Val: rowOf(null, api.MaxList+1)}}, api.ErrMany},
		{one, []api.Bind{{Name: "x", Val: list(endless...)}}, api.ErrMuch},
		// One by one: each one's value ahead of the next one's name.
		{one, []api.Bind{{Name: "x", Val: bad}, {Name: "if", Val: null}}, api.ErrKind},
		{one, []api.Bind{{Name: "x", Val: null}, {Name: "if", Val: null}, {Name: "x", Val: bad}}, api.ErrName},
		// What is wrong with binds comes ahead of what names stand for.
		{name("y"), []api.Bind{{Name: "x", Val: bad}}, api.ErrKind},
		{name("y"), full, api.ErrName},
		{name("x"), full, api.OK},
		{name("x"), full[:0], api.ErrName},
	} {
		got, err := eval.Eval(c.x, c.binds)
		if err != c.want || err != api.OK && !same(got, api.Value{}) {
			t.Errorf("%d: %s, %d comes, not %d", i, say(got), err, c.want)
		}
	}
}

func TestF1Names(t *testing.T) {
	told(t, [][2]string{
		{"x", "ErrName"}, {"N", "ErrName"}, {"floor", "ErrName"},
		{"foo(1)", "ErrName"}, {"Floor(1)", "ErrName"}, {"n(1)", "ErrName"},
		{"floor()", "ErrMany"}, {"floor(1, 2)", "ErrMany"}, {"round(1)", "ErrMany"}, {"substring(s, 1)", "ErrMany"}, {"concat()", "ErrMany"}, {"min(1, 2)", "ErrMany"},
		// Each node ahead of its kids, and these from the first one on.
		{"foo(floor())", "ErrName"}, {"floor(x, 1)", "ErrMany"}, {"floor(x)", "ErrName"}, {"floor(floor())", "ErrMany"},
		{"x + floor()", "ErrName"}, {"floor() + x", "ErrMany"}, {"[1, floor(), x]", "ErrMany"}, {"[1, x, floor()]", "ErrName"},
		// Also where it is never come to.
		{"if b then 1 else x", "ErrName"}, {"if c then floor() else 1", "ErrMany"}, {"for i in [] return x", "ErrName"}, {"for i in 5 return foo()", "ErrName"}, {"some i in z satisfies floor()", "ErrMany"},
		// Too long comes behind them.
		{"(for i in q return for j in q return 1) = x", "ErrName"},
		// Names stand for something in the second kid alone.
		{"for x in x return 1", "ErrName"}, {"[for x in l return x, x]", "ErrName"}, {"[x, for x in l return x]", "ErrName"},
		{"for x in l return x", "[3, 1, 2]"}, {"some x in (for y in l return y) satisfies y = 1", "ErrName"},
		{"for x in m return for y in x return x", "[[[1]], [[2, 1], [2, 1]]]"},
		{"every x in m satisfies some y in x satisfies y = 1", "true"},
		{"for x in m return for y in z return y", "[null, null]"},
		{"for x in m return (for y in x return y) = [y]", "ErrName"},
	})
}

// filler takes any number of steps, at least five; its lists p, r and w must be bound by fillerBinds.
const filler = "[for i in p return some j in w satisfies 1, for k in r return 1]"

func fillerBinds(steps int) []api.Bind {
	left := steps - 5
	// Each of p takes fifty.
	return []api.Bind{{Name: "p", Val: rowOf(null, left/50)}, {Name: "w", Val: rowOf(null, 48)}, {Name: "r", Val: rowOf(null, left%50)}}
}

// TestF1Steps takes each expression together with just so many other nodes that one more would be too much.
func TestF1Steps(t *testing.T) {
	for _, c := range []struct {
		text  string
		steps int
	}{
		{"1", 1}, {"n", 1}, {"-n", 2}, {"--n", 3}, {"n + 1", 3}, {"n = 1", 3}, {"n in l", 3}, {"[]", 1}, {"[1]", 2}, {"[1, [2, n]]", 5},
		{"floor(1)", 2}, {"substring(s, 1, 2)", 4}, {"sum(l)", 2}, {"not(c)", 2}, {"floor(floor(floor(s)))", 4},
		// All kids are come to, whatever the first one has.
		{"c and b", 3}, {"b or c", 3}, {"c and -n", 4}, {"s - -n", 4}, {"round(s, -n)", 4}, {"item(z, [1, 2])", 5}, {"between(z, z, -z)", 5}, {"n in -z", 4},
		// But of XIf two.
		{"if b then 1 else --2", 3}, {"if c then 1 else --2", 5}, {"if z then 1 else -2", 4}, {"if not(b) then --1 else 2", 4},
		// And the second one for each.
		{"for x in l return x", 5}, {"for x in [] return -x", 2}, {"for x in n return -x", 2}, {"for x in z return -x", 2}, {"for x in l return -x", 8}, {"for x in [1, 2] return x + 1", 10},
		{"some x in l satisfies true", 5}, {"every x in l satisfies false", 5}, {"some x in l satisfies x > 2", 11}, {"some x in s satisfies -x", 2}, {"every x in [] satisfies -x", 2},
		{"for x in m return for y in x return y", 9}, {"for x in l return if x > 2 then 1 else -x", 19},
		{"for x in q return 1", 202}, {"for x in q return for y in l return 1", 1002},
	} {
		x := read(t, "["+c.text+", "+filler+"]")
		for over := -1; over <= 1; over++ {
			binds := append(someBinds(), fillerBinds(api.MaxSteps+over-1-c.steps)...)
			v, err := eval.Eval(x, binds)
			if over > 0 && (err != api.ErrMuch || !same(v, api.Value{})) || over <= 0 && (err != api.OK || v.Kind != api.VList) {
				t.Errorf("%s: %s, %d comes with %d more steps than may be", c.text, say(v), err, over)
			}
		}
	}
	// What takes far too long ends as well.
	deep := strings.Repeat("for x in q return ", 20) + "1"
	told(t, [][2]string{{deep, "ErrMuch"}, {"[" + deep + ", 1]", "ErrMuch"}, {"if b then 1 else " + deep, "1"}, {"count(" + deep + ")", "ErrMuch"}})
}

func TestF2WhatWouldBeWrongIsNull(t *testing.T) {
	long, odd := strings.Repeat("a", 500), "é"
	one := numOf(1)
	for i, c := range []struct {
		text string
		v    api.Value
		want string
	}{
		{"v + v", text(long), strconv.Quote(long + long)},
		{`v + v + "a"`, text(long), "null"},
		{`length(v + v)`, text(long), "1000"},
		{`length(v + "a")`, text(long + long), "null"},
		{`v + "é"`, text(long + long[1:]), "null"},
		{`count(concat(v, v))`, rowOf(one, 100), "200"},
		{`concat(v, v)`, rowOf(one, 101), "null"},
		{`concat(v, [1])`, rowOf(one, 200), "null"},
		// Runes that take more bytes when they are turned: ɐ and Ⱥ have two, what they become has three.
		{"length(upper(v))", text(strings.Repeat("ɐ", 333)), "333"},
		{"upper(v)", text(strings.Repeat("ɐ", 334)), "null"},
		{"length(lower(v))", text(strings.Repeat("Ⱥ", 333)), "333"},
		{"lower(v)", text(strings.Repeat("Ⱥ", 334)), "null"},
		{"length(upper(v))", text(strings.Repeat(odd, 500)), "500"},
		// 2000 values in all, and one more.
		{"count([v])", rowOf(rowOf(one, 9), 199), "1"},
		{"count([v, 1, 2, 3, 4, 5, 6, 7, 8])", rowOf(rowOf(one, 9), 199), "9"},
		{"count([v, 1, 2, 3, 4, 5, 6, 7, 8, 9])", rowOf(rowOf(one, 9), 199), "null"},
		{"count([v, [1, 2, 3, 4, 5, 6, 7, 8]])", rowOf(rowOf(one, 9), 199), "null"},
		{"count(concat(v, v))", rowOf(rowOf(one, 9), 99), "198"},
		{"count(concat(v, v))", rowOf(rowOf(one, 9), 100), "null"},
		{"count(for x in v return v)", rowOf(one, 44), "44"},
		{"count(for x in v return v)", rowOf(one, 45), "null"},
		{"for x in v return v", rowOf(one, 45), "null"},
		{"some x in (for y in v return v) satisfies true", rowOf(one, 45), "null"},
		// Twenty deep, and one more; what is null then is not deep.
		{"[v] = null", nested(one, 18), "false"},
		{"[v] = null", nested(one, 19), "true"},
		{"[v] = null", nested(list(), 18), "false"},
		{"[v] = null", nested(list(), 19), "true"},
		{"[[v]]", nested(one, 19), "[null]"},
		{"[[[v]]]", nested(one, 18), "[null]"},
		{"for x in [v] return x", nested(one, 19), "null"},
		{"for x in [1] return v", nested(one, 19), "null"},
		{"for x in [1, 2] return [v]", nested(one, 19), "[null, null]"},
		{"item(v, 1) = null", nested(one, 19), "false"},
		{"[item(v, 1)] = v", nested(one, 19), "true"},
		// Numbers.
		{"v * v", api.Value{Kind: api.VNum, Num: api.Dec{Coef: 1, Exp: 21}}, "null"},
		{"v * v = null", api.Value{Kind: api.VNum, Num: api.Dec{Coef: 1, Exp: 20}}, "false"},
		{"-v + 1 / 0", api.Value{Kind: api.VNum, Num: api.Dec{Coef: 1, Exp: 20}}, "null"},
		{"[v / 0, 1]", one, "[null, 1]"},
	} {
		got, err := eval.Eval(read(t, c.text), []api.Bind{{Name: "v", Val: c.v}})
		if err != api.OK || say(got) != c.want {
			t.Errorf("%d, %s: %s, %d comes, not %s", i, c.text, say(got), err, c.want)
		}
	}
	brackets := func(n int) string { return strings.Repeat("[", n) + strings.Repeat("]", n) }
	told(t, [][2]string{{brackets(20), brackets(20)}, {brackets(21), "null"}, {brackets(22), "[null]"}, {brackets(42), "[null]"}, {brackets(41), "null"}})
}

// littered is v with something in all fields that its kind has not.
func littered(v api.Value) api.Value {
	l := api.Value{Kind: v.Kind, Yes: true, Num: api.Dec{Coef: 10, Exp: 99}, Text: "\xff", List: make([]api.Value, 3)}
	switch v.Kind {
	case api.VBool:
		l.Yes = v.Yes
	case api.VNum:
		l.Num = v.Num
	case api.VText:
		l.Text = v.Text
	case api.VList:
		l.List = v.List
	}
	return l
}

// What is handed in keeps its other fields, where it is told; what is made has none, and none of them means anything.
func TestF2AsHandedIn(t *testing.T) {
	null, one, s, yes := littered(null), littered(numOf(1)), littered(text("a")), littered(api.Value{Kind: api.VBool, Yes: true})
	no := littered(api.Value{Kind: api.VBool})
	l := littered(list(one, numOf(1), s, null))
	nums, texts := list(numOf(2), one, numOf(1), littered(numOf(2))), list(text("b"), s, text("a"), littered(text("b")))
	binds := []api.Bind{{Name: "z", Val: null}, {Name: "n", Val: one}, {Name: "s", Val: s}, {Name: "b", Val: yes}, {Name: "c", Val: no}, {Name: "l", Val: l}, {Name: "k", Val: nums}, {Name: "t", Val: texts}}
	for _, c := range []struct {
		text string
		want api.Value
	}{
		{"z", null}, {"n", one}, {"s", s}, {"b", yes}, {"l", l}, {"k", nums},
		{"if b then n else s", one}, {"if c then n else s", s}, {"if z then n else s", s}, {"if n then n else s", s},
		{"[n, l]", list(one, l)}, {"for x in l return x", list(l.List...)}, {"for x in [n, s] return [x]", list(list(one), list(s))},
		{"item(l, 1)", one}, {"item(l, -1)", null}, {"item(l, 2)", numOf(1)},
		{"reverse(l)", list(null, s, numOf(1), one)}, {"concat(l, l)", list(append(append([]api.Value{}, l.List...), l.List...)...)}, {"distinct(l)", list(one, s, null)},
		{"min(k)", one}, {"max(k)", numOf(2)}, {"min(t)", s}, {"max(t)", text("b")},
		{"sort(k)", list(one, numOf(1), numOf(2), littered(numOf(2)))}, {"sort(t)", list(s, text("a"), text("b"), littered(text("b")))},
		{"n + 1", numOf(2)}, {"-n", numOf(-1)}, {"s + s", text("aa")}, {"abs(n)", numOf(1)}, {"floor(n)", numOf(1)}, {"upper(s)", text("A")}, {"lower(s)", text("a")}, {"substring(s, 1, 9)", text("a")}, {"sum([n])", numOf(1)}, {"count(l)", numOf(4)},
		{"not(c)", api.Value{Kind: api.VBool, Yes: true}}, {"b and b", api.Value{Kind: api.VBool, Yes: true}}, {"c or c", api.Value{Kind: api.VBool}}, {"not(z)", api.Value{Kind: api.VNull}}, {"z + 1", api.Value{Kind: api.VNull}},
		{"n = 1", api.Value{Kind: api.VBool, Yes: true}}, {"z = null", api.Value{Kind: api.VBool, Yes: true}}, {"c = false", api.Value{Kind: api.VBool, Yes: true}},
	} {
		got, err := eval.Eval(read(t, c.text), binds)
		if err != api.OK || !same(got, c.want) {
			t.Errorf("%s: %+v, %d comes, not %+v", c.text, got, err, c.want)
		}
	}
	if got, err := eval.Eval(api.Expr{Kind: api.XLit, Val: s, Name: "if"}, nil); err != api.OK || !same(got, s) {
		t.Errorf("%+v, %d comes of a literal", got, err)
	}
	if got, err := eval.Eval(api.Expr{Kind: api.XLit, Val: null}, nil); err != api.OK || !same(got, null) {
		t.Errorf("%+v, %d comes of a literal", got, err)
	}
}

// lists are all lists in v, itself among them.
func lists(v api.Value) [][]api.Value {
	if v.Kind != api.VList {
		return nil
	}
	all := [][]api.Value{v.List}
	for _, one := range v.List {
		all = append(all, lists(one)...)
	}
	return all
}

// What comes is the caller's, each list by itself, and its spare room, too; what was handed in stays.
func TestF2NothingIsChangedOrShared(t *testing.T) {
	for _, s := range []string{
		"l", "m", "[l, l]", "[m, m]", "reverse(m)", "sort(l)", "sort(o)", "concat(m, m)", "distinct(m)", "item(m, 1)", "for x in m return m", "for x in m return x", "for y in [[1, 2]] return [y, y, [y]]", "if b then m else l", "[e, e]", "concat(l, e)", "concat(e, l)", "concat(e, e)", "reverse(e)", "concat(o, [9])", "[o]", "max([])",
	} {
		room := []api.Value{numOf(3), numOf(1), numOf(2), text("\xff"), {Kind: 9}}
		binds := append(someBinds(), api.Bind{Name: "e", Val: list()}, api.Bind{Name: "o", Val: list(room[:3]...)})
		want, _ := saysEval(read(t, s), binds)
		x, before := read(t, s), sayBinds(binds)
		got, err := eval.Eval(x, binds)
		said := say(got)
		if err != api.OK || said != say(want) {
			t.Errorf("%s: %s, %d comes", s, said, err)
		}
		seen := map[*api.Value]int{}
		for _, l := range append(lists(got), binds[6].Val.List, binds[7].Val.List, binds[7].Val.List[0].List, binds[8].Val.List, room) {
			if cap(l) > 0 {
				seen[&l[:1][0]]++
			}
		}
		for _, l := range lists(got) {
			if cap(l) > 0 && seen[&l[:1][0]] > 1 {
				t.Errorf("%s: %s has a list that is another one's", s, said)
			}
			clear(l[:cap(l)])
		}
		again, _ := eval.Eval(x, binds)
		if sayBinds(binds) != before || say(again) != said || room[3].Text != "\xff" || room[4].Kind != 9 || room[0].Num.Coef != 3 {
			t.Errorf("%s: what was handed in is changed", s)
		}
	}
}

func TestF3ByKind(t *testing.T) {
	told(t, [][2]string{
		{"null", "null"}, {"true", "true"}, {"1.50", "1.5"}, {`"a"`, `"a"`}, {"n", "7"}, {"z", "null"},
		{"if b then 1 else 2", "1"}, {"if c then 1 else 2", "2"}, {"if z then 1 else 2", "2"}, {"if n then 1 else 2", "2"}, {`if "true" then 1 else 2`, "2"}, {"if [b] then 1 else 2", "2"},
		{"-n", "-7"}, {"--n", "7"}, {"-0", "0"}, {"-s", "null"}, {"-z", "null"}, {"-l", "null"}, {"-b", "null"},
		{"n + 1", "8"}, {"s + s", `"straßestraße"`}, {`"" + ""`, `""`}, {"s + n", "null"}, {"n + s", "null"}, {"n + z", "null"}, {"l + l", "null"}, {"b + b", "null"}, {"0.1 + 0.2", "0.3"},
		{"n - 9", "-2"}, {"n * 2", "14"}, {"n / 2", "3.5"}, {"1 / 3", "0.333333333333333333"}, {"n / 0", "null"}, {"s - s", "null"}, {"n * z", "null"}, {"s / n", "null"},
		{"n = 7", "true"}, {"n = 8", "false"}, {"n = s", "null"}, {"z = null", "true"}, {"n = null", "false"}, {"l = [3, 1, 2]", "true"}, {"l = [3, 1]", "false"}, {"l = [3, s, 2]", "null"}, {"l = [3, s, 1]", "false"}, {"[] = []", "true"},
		{"n != 7", "false"}, {"n != 8", "true"}, {"n != s", "null"}, {"z != null", "false"}, {"n != null", "true"},
		{"n < 8", "true"}, {"n < 7", "false"}, {"n > 6", "true"}, {"n > 7", "false"}, {"n <= 7", "true"}, {"n <= 6", "false"}, {"n >= 7", "true"}, {"n >= 8", "false"},
		{`s < "z"`, "true"}, {`s > "z"`, "false"}, {`s <= s`, "true"}, {`s >= "t"`, "false"}, {"n < s", "null"}, {"n <= z", "null"}, {"z >= z", "null"}, {"b > c", "null"}, {"l < l", "null"},
		{"1 in l", "true"}, {"7 in l", "false"}, {"s in l", "null"}, {"1 in [s, 1]", "true"}, {"1 in [s, 2]", "null"}, {"1 in [null, 2]", "false"}, {"null in [1, null]", "true"}, {"null in [1]", "false"}, {"null in []", "false"}, {"1 in []", "false"}, {"1 in 1", "null"}, {"1 in null", "null"}, {"[1] in m", "true"}, {"[2] in m", "false"}, {"[s] in m", "null"},
		{"b and b", "true"}, {"b and c", "false"}, {"b and z", "null"}, {"z and c", "false"}, {"n and b", "null"}, {"n and c", "false"}, {"b or z", "true"}, {"c or z", "null"}, {"c or c", "false"}, {"s or b", "true"}, {"s or c", "null"},
		{"[]", "[]"}, {"[1, n, z, [s]]", `[1, 7, null, ["straße"]]`},
		{"for x in [1, 2] return x * 7", "[7, 14]"}, {"for x in l return x * n", "[21, 7, 14]"}, {"1 / 0 > 5 or n = 7", "true"}, {"for x in [] return x", "[]"}, {"for x in n return x", "null"}, {"for x in z return 1", "null"}, {"for x in s return 1", "null"},
		{"some x in l satisfies x > 2", "true"}, {"some x in l satisfies x > 3", "false"}, {"some x in [1, z] satisfies x > 2", "null"}, {"some x in [3, z] satisfies x > 2", "true"}, {"some x in [] satisfies true", "false"}, {"some x in n satisfies true", "null"}, {"some x in [1] satisfies x", "null"}, {"some x in [1, b] satisfies x", "true"},
		{"every x in l satisfies x > 0", "true"}, {"every x in l satisfies x > 1", "false"}, {"every x in [1, z] satisfies x > 0", "null"}, {"every x in [1, z] satisfies x > 2", "false"}, {"every x in [] satisfies false", "true"}, {"every x in z satisfies true", "null"}, {"every x in [1] satisfies x", "null"}, {"every x in [c, 1] satisfies x", "false"},
		// The innermost one of a name counts; behind it the outer one does again.
		{"for n in l return n", "[3, 1, 2]"}, {"[for n in l return n, n]", "[[3, 1, 2], 7]"}, {"for n in l return [for n in [n] return n + 1, n]", "[[[4], 3], [[2], 1], [[3], 2]]"},
		{"for x in [1, 2] return for x in [3] return x", "[[3], [3]]"}, {"for l in l return l", "[3, 1, 2]"}, {"for x in m return some x in x satisfies x = 2", "[false, true]"},
		{"for x in l return if x = 1 then (for x in [5] return x) else [x]", "[[3], [5], [2]]"},
	})
}

func TestF4Functions(t *testing.T) {
	told(t, [][2]string{
		{"not(b)", "false"}, {"not(c)", "true"}, {"not(z)", "null"}, {"not(n)", "null"}, {"not([b])", "null"},
		{"floor(1.5)", "1"}, {"floor(-1.5)", "-2"}, {"ceiling(1.5)", "2"}, {"ceiling(-1.5)", "-1"}, {"floor(s)", "null"}, {"ceiling(z)", "null"}, {"floor(l)", "null"},
		{"abs(-2.5)", "2.5"}, {"abs(2.5)", "2.5"}, {"abs(0)", "0"}, {"abs(s)", "null"}, {"abs(b)", "null"},
		{"round(2.5, 0)", "2"}, {"round(3.5, 0)", "4"}, {"round(1.25, 1)", "1.2"}, {"round(15, -1)", "20"}, {"round(1.5, 0.5)", "null"}, {"round(1.5, 40)", "1.5"}, {"round(1.5, 41)", "null"}, {"round(1.5, -40)", "0"}, {"round(1.5, -41)", "null"}, {"round(1.5, 10001)", "null"}, {"round(s, 1)", "null"}, {"round(1, s)", "null"}, {"round(1, z)", "null"}, {"round(123456, 0 - 10 / 2)", "100000"},
		{"min(l)", "1"}, {"max(l)", "3"}, {`min(["b", "a", "c"])`, `"a"`}, {`max(["b", "a", "c"])`, `"c"`}, {"min([])", "null"}, {"max([])", "null"}, {`min([1, "a"])`, "null"}, {"max([1, z])", "null"}, {"min([z])", "null"}, {"max([b])", "null"}, {"min([l])", "null"}, {"min(n)", "null"}, {"max(s)", "null"}, {"min([2])", "2"},
		{"sum(l)", "6"}, {"sum([])", "0"}, {"sum([1, 2.5])", "3.5"}, {"sum([1, z])", "null"}, {"sum([s])", "null"}, {"sum(n)", "null"}, {"sum(z)", "null"}, {"sum([999999999999999999, 1, -1])", "999999999999999999"}, {"sum([1000000000000000000, 0.4, 0.4])", "1000000000000000000"}, {"sum([0.4, 0.4, 100000000000000000])", "100000000000000001"},
		{"count(l)", "3"}, {"count([])", "0"}, {"count([z, z])", "2"}, {"count(q)", "200"}, {"count(q) = 200", "true"}, {"count([1, 2, 3, 4, 5, 6, 7, 8, 9, 10]) = 10", "true"}, {"count(n)", "null"}, {"count(s)", "null"},
		{"item(l, 1)", "3"}, {"item(l, 3)", "2"}, {"item(l, 4)", "null"}, {"item(l, 0)", "null"}, {"item(l, -1)", "2"}, {"item(l, -3)", "3"}, {"item(l, -4)", "null"}, {"item(l, 1.5)", "null"}, {"item(l, 10000)", "null"}, {"item(l, -10001)", "null"}, {"item(l, 1000000000000000000000000)", "null"}, {"item([], 1)", "null"}, {"item([], -1)", "null"}, {"item(q, 200)", "0"}, {"item(q, -200)", "0"}, {"item(q, 201)", "null"}, {"item(n, 1)", "null"}, {"item(l, s)", "null"}, {"item(s, 1)", "null"}, {"item(m, 2)", "[2, 1]"},
		{"concat(l, [s])", `[3, 1, 2, "straße"]`}, {"concat([], [])", "[]"}, {"concat(l, n)", "null"}, {"concat(z, l)", "null"}, {"concat(s, s)", "null"},
		{"reverse(l)", "[2, 1, 3]"}, {"reverse([])", "[]"}, {"reverse(m)", "[[2, 1], [1]]"}, {"reverse(s)", "null"}, {"reverse(z)", "null"},
		{"distinct([1, 2, 1, z, z, s, s])", `[1, 2, null, "straße"]`}, {"distinct([])", "[]"}, {"distinct([[1], [1, 2], [1]])", "[[1], [1, 2]]"}, {"distinct([[1, s], [1, 2], [1, 2], [s, s]])", `[[1, "straße"], [1, 2], ["straße", "straße"]]`}, {"distinct(q)", "[0]"}, {"distinct(n)", "null"},
		{"sort(l)", "[1, 2, 3]"}, {`sort(["b", "a", "é", "B"])`, `["B", "a", "b", "é"]`}, {"sort([])", "[]"}, {"sort([1, s])", "null"}, {"sort([1, z])", "null"}, {"sort([b, c])", "null"}, {"sort([z])", "null"}, {"sort(m)", "null"}, {"sort(n)", "null"}, {"sort([-1, 0.5, -2, 10])", "[-2, -1, 0.5, 10]"},
		{"length(s)", "6"}, {`length("")`, "0"}, {`length("日本語字日本語字日本") = 10`, "true"}, {"length(n)", "null"}, {"length(l)", "null"},
		{"upper(s)", `"STRAßE"`}, {`lower("ÀB1")`, `"àb1"`}, {`upper("ǆ")`, `"Ǆ"`}, {`lower("İ")`, `"i"`}, {`upper("ŉﬁ")`, `"ŉﬁ"`}, {"upper(n)", "null"}, {"lower(z)", "null"},
		{`contains(s, "aß")`, "true"}, {`contains(s, "")`, "true"}, {`contains(s, "A")`, "false"}, {`contains("", s)`, "false"}, {"contains(l, 1)", "null"}, {"contains(s, n)", "null"}, {"contains(z, s)", "null"},
		{`starts(s, "str")`, "true"}, {`starts(s, "tr")`, "false"}, {`starts(s, "")`, "true"}, {`starts("s", s)`, "false"}, {"starts(s, z)", "null"},
		{`ends(s, "ße")`, "true"}, {`ends(s, "ß")`, "false"}, {`ends("", "")`, "true"}, {`ends("e", s)`, "false"}, {"ends(n, s)", "null"},
		{"substring(s, 5, 2)", `"ße"`}, {"substring(s, 1, 6)", `"straße"`}, {"substring(s, 1, 0)", `""`}, {"substring(s, 2, 3)", `"tra"`}, {"substring(s, -2, 5)", `"ße"`}, {"substring(s, -6, 1)", `"s"`}, {"substring(s, -7, 1)", "null"}, {"substring(s, 7, 1)", `""`}, {"substring(s, 7, 0)", `""`}, {"substring(s, 8, 0)", "null"}, {"substring(s, 0, 1)", "null"}, {"substring(s, 1, -1)", "null"}, {"substring(s, 1, 10000)", `"straße"`}, {"substring(s, 1, 10001)", "null"}, {"substring(s, 1, 1.5)", "null"}, {"substring(s, 1.5, 1)", "null"}, {"substring(s, -10001, 1)", "null"},
		{`substring("", 1, 1)`, `""`}, {`substring("", -1, 1)`, "null"}, {`substring("", 2, 1)`, "null"}, {"substring(n, 1, 1)", "null"}, {"substring(s, s, 1)", "null"}, {"substring(s, 1, z)", "null"},
		{"between(n, 1, 7)", "true"}, {"between(n, 7, 9)", "true"}, {"between(n, 8, 9)", "false"}, {"between(n, 1, 6)", "false"}, {"between(n, z, 5)", "false"}, {"between(n, z, 9)", "null"}, {"between(n, 8, z)", "false"}, {"between(n, 1, s)", "null"}, {"between(n, s, 6)", "false"}, {`between("b", "a", "c")`, "true"}, {`between("d", "a", "c")`, "false"}, {"between(z, 1, 2)", "null"}, {"between(b, b, b)", "null"}, {"between(l, l, l)", "null"},
	})
}

// What is the same stays in its order: so many that are the same are told apart by fields that mean nothing.
func TestF4SortIsStable(t *testing.T) {
	numbers, texts := rowOf(numOf(0), 200), rowOf(text(""), 200)
	for i := range 200 {
		numbers.List[i] = api.Value{Kind: api.VNum, Num: api.Dec{Coef: int64(i * 7 % 3)}, Text: strconv.Itoa(1000 + i)}
		texts.List[i] = api.Value{Kind: api.VText, Text: strconv.Itoa(i * 5 % 4), Num: api.Dec{Coef: int64(i)}}
	}
	binds := []api.Bind{{Name: "k", Val: numbers}, {Name: "t", Val: texts}}
	for _, s := range []string{"sort(k)", "sort(t)", "min(k)", "max(k)", "min(t)", "max(t)", "distinct(k)", "reverse(t)"} {
		holdAgainst(t, read(t, s), binds)
	}
	sorted, _ := eval.Eval(read(t, "sort(k)"), binds)
	for i := 1; i < len(sorted.List); i++ {
		a, b := sorted.List[i-1], sorted.List[i]
		if a.Num.Coef > b.Num.Coef || a.Num == b.Num && a.Text > b.Text {
			t.Errorf("%d: %+v comes ahead of %+v", i, a, b)
		}
	}
}

// Numbers are written in one way only, also those that are counted.
func TestF4CountedNumbersAreRight(t *testing.T) {
	for n := range api.MaxText + 1 {
		v := text(strings.Repeat("a", n))
		got, err := eval.Eval(read(t, "length(v)"), []api.Bind{{Name: "v", Val: v}})
		if err != api.OK || !same(got, numOf(n)) {
			t.Errorf("%d: %+v, %d comes", n, got, err)
		}
	}
	for n := range api.MaxList + 1 {
		got, err := eval.Eval(read(t, "count(v)"), []api.Bind{{Name: "v", Val: rowOf(null, n)}})
		if err != api.OK || !same(got, numOf(n)) {
			t.Errorf("%d: %+v, %d comes", n, got, err)
		}
	}
}

// Places are told by whole numbers up to 10000, however they are written.
func TestF4Places(t *testing.T) {
	v := rowOf(numOf(5), 200)
	for _, c := range []struct {
		d    api.Dec
		want string
	}{
		{api.Dec{Coef: 2, Exp: 2}, "5"}, {api.Dec{Coef: -2, Exp: 2}, "5"}, {api.Dec{Coef: 2, Exp: 3}, "null"}, {api.Dec{Coef: 1, Exp: 40}, "null"}, {api.Dec{Coef: api.MaxCoef, Exp: 40}, "null"}, {api.Dec{Coef: -api.MaxCoef, Exp: 40}, "null"}, {api.Dec{Coef: 19, Exp: -1}, "null"}, {api.Dec{Coef: 1, Exp: -40}, "null"},
	} {
		binds := []api.Bind{{Name: "v", Val: v}, {Name: "n", Val: api.Value{Kind: api.VNum, Num: c.d}}}
		if got, err := eval.Eval(read(t, "item(v, n)"), binds); err != api.OK || say(got) != c.want {
			t.Errorf("%+v: %s, %d comes", c.d, say(got), err)
		}
	}
	for _, n := range []int{9999, 10000, 10001} {
		binds := []api.Bind{{Name: "n", Val: numOf(n)}}
		want := `"ab"`
		if n > 10000 {
			want = "null"
		}
		if got, err := eval.Eval(read(t, `substring("ab", 1, n)`), binds); err != api.OK || say(got) != want {
			t.Errorf("%d: %s, %d comes", n, say(got), err)
		}
	}
}
