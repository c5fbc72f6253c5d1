package table_test

import (
	"fmt"
	"math"
	"reflect"
	"slices"
	"strings"
	"sync"
	"testing"

	"verdict/api"
	"verdict/logic"
	"verdict/syn"
	"verdict/table"
	"verdict/trials"
)

var (
	yes  = api.Value{Kind: api.VBool, Yes: true}
	no   = api.Value{Kind: api.VBool}
	null = api.Value{Kind: api.VNull}
	none = api.Value{}
)

func num(coef int64, exp int) api.Value {
	return api.Value{Kind: api.VNum, Num: api.Dec{Coef: coef, Exp: exp}}
}

func text(s string) api.Value { return api.Value{Kind: api.VText, Text: s} }

func list(l ...api.Value) api.Value { return api.Value{Kind: api.VList, List: l} }

func vals(l ...api.Value) []api.Value { return l }

func long(n int) string { return strings.Repeat("a", n) }

func policies() []int {
	return []int{api.PolUnique, api.PolAny, api.PolPriority, api.PolFirst, api.PolRule, api.PolCollect, api.PolSum, api.PolMin, api.PolMax, api.PolCount}
}

// test is what the text says: one that can't be read is a mistake in these tests.
func test(s string) api.Test {
	x, fault := trials.Read(s)
	if fault.Err != api.OK {
		panic(s)
	}
	return x
}

func expr(s string) api.Expr {
	x, fault := syn.Read(s)
	if fault.Err != api.OK {
		panic(s)
	}
	return x
}

// columns are names and kinds, as in `a number, b text`.
func columns(s string) []api.Column {
	kinds := map[string]int{"boolean": api.TyBool, "number": api.TyNum, "text": api.TyText}
	var l []api.Column
	for _, one := range strings.Split(s, ", ") {
		name, kind, _ := strings.Cut(one, " ")
		l = append(l, api.Column{Name: name, Kind: kinds[kind]})
	}
	return l
}

// made is a table whose rules are tests and expressions with ` | ` between.
func made(policy int, ins, outs string, rules ...string) api.Table {
	t := api.Table{Name: "t", Policy: policy, Ins: columns(ins), Outs: columns(outs)}
	for _, s := range rules {
		r := api.Rule{}
		for i, piece := range strings.Split(s, " | ") {
			if i < len(t.Ins) {
				r.Tests = append(r.Tests, test(piece))
			} else {
				r.Outs = append(r.Outs, expr(piece))
			}
		}
		t.Rules = append(t.Rules, r)
	}
	return t
}

// copied is t with lists of its own, as far as tests change them.
func copied(t api.Table) api.Table {
	t.Ins, t.Outs, t.Rules = slices.Clone(t.Ins), slices.Clone(t.Outs), slices.Clone(t.Rules)
	for i := range t.Ins {
		t.Ins[i].Order = slices.Clone(t.Ins[i].Order)
	}
	for i := range t.Outs {
		t.Outs[i].Order = slices.Clone(t.Outs[i].Order)
	}
	for i := range t.Rules {
		t.Rules[i].Tests, t.Rules[i].Outs = slices.Clone(t.Rules[i].Tests), slices.Clone(t.Rules[i].Outs)
	}
	return t
}

// endlessList holds itself.
func endlessList() api.Value {
	l := make([]api.Value, 2)
	for i := range l {
		l[i] = api.Value{Kind: api.VList, List: l}
	}
	return l[0]
}

// endlessTest is its own kid.
func endlessTest() api.Test {
	kids := make([]api.Test, api.MaxTests)
	for i := range kids {
		kids[i] = api.Test{Kind: api.TeOr, Kids: kids}
	}
	return kids[0]
}

// endlessExpr is its own kid.
func endlessExpr() api.Expr {
	kids := make([]api.Expr, 2)
	for i := range kids {
		kids[i] = api.Expr{Kind: api.XAdd, Kids: kids}
	}
	return kids[0]
}

// litteredValue has something in all fields that its kind has not.
func litteredValue(v api.Value) api.Value {
	l := api.Value{Kind: v.Kind, Yes: true, Num: api.Dec{Coef: 70, Exp: 99}, Text: "litter\xff", List: []api.Value{{Kind: 77}}}
	switch v.Kind {
	case api.VBool:
		l.Yes = v.Yes
	case api.VNum:
		l.Num = v.Num
	case api.VText:
		l.Text = v.Text
	case api.VList:
		l.List = nil
		for _, one := range v.List {
			l.List = append(l.List, litteredValue(one))
		}
	}
	return l
}

// litteredValues leaves what is wrong as it is: it may hold itself.
func litteredValues(l []api.Value) []api.Value {
	out := slices.Clone(l)
	for i, v := range l {
		if logic.Wrong(v) == api.OK {
			out[i] = litteredValue(v)
		}
	}
	return out
}

func litteredTest(t api.Test) api.Test {
	l := api.Test{Kind: t.Kind, A: list(none), B: text("\xff"), OpenA: true, OpenB: true, Kids: []api.Test{{}}}
	switch t.Kind {
	case api.TeIs, api.TeLt, api.TeLe, api.TeGt, api.TeGe:
		l.A = litteredValue(t.A)
	case api.TeIn:
		l.A, l.B, l.OpenA, l.OpenB = litteredValue(t.A), litteredValue(t.B), t.OpenA, t.OpenB
	case api.TeOr, api.TeNot:
		l.Kids = nil
		for _, kid := range t.Kids {
			l.Kids = append(l.Kids, litteredTest(kid))
		}
	}
	return l
}

func litteredExpr(x api.Expr) api.Expr {
	l := api.Expr{Kind: x.Kind, Val: list(none), Name: "not a name"}
	switch x.Kind {
	case api.XLit:
		l.Val = litteredValue(x.Val)
	case api.XName, api.XCall, api.XFor, api.XSome, api.XEvery:
		l.Name = x.Name
	}
	for _, kid := range x.Kids {
		l.Kids = append(l.Kids, litteredExpr(kid))
	}
	return l
}

// littered has something in all fields that kinds have not, wherever there are kinds, and nothing is wrong with what has them.
func littered(t api.Table) api.Table {
	t = copied(t)
	for i := range t.Outs {
		t.Outs[i].Order = litteredValues(t.Outs[i].Order)
	}
	for _, r := range t.Rules {
		for i, x := range r.Tests {
			if trials.Wrong(x) == api.OK {
				r.Tests[i] = litteredTest(x)
			}
		}
		for i, x := range r.Outs {
			if syn.Wrong(x) == api.OK {
				r.Outs[i] = litteredExpr(x)
			}
		}
	}
	return t
}

// plain has nothing in the fields that its kind has not.
func plain(v api.Value) api.Value {
	switch v.Kind {
	case api.VBool:
		return api.Value{Kind: v.Kind, Yes: v.Yes}
	case api.VNum:
		return api.Value{Kind: v.Kind, Num: v.Num}
	case api.VText:
		return text(v.Text)
	case api.VList:
		l := list()
		for _, one := range v.List {
			l.List = append(l.List, plain(one))
		}
		return l
	}
	return api.Value{Kind: v.Kind}
}

// refuses checks what is wrong with the table itself: all calls tell it, whatever the values are.
func refuses(t *testing.T, what string, x api.Table, want api.Errno) {
	t.Helper()
	for _, x := range []api.Table{x, littered(x)} {
		if err := table.Wrong(x); err != want {
			t.Errorf("%s: %d comes, not %d", what, err, want)
		}
	}
	for _, l := range [][]api.Value{nil, vals(num(1, 0), text("x")), vals(none, endlessList()), make([]api.Value, 1000)} {
		if hits, err := table.Hits(x, l); len(hits) > 0 || err != want {
			t.Errorf("%s: Hits: %v, %d comes, not %d", what, hits, err, want)
		}
		if v, err := table.Decide(x, l); !reflect.DeepEqual(v, none) || err != want {
			t.Errorf("%s: Decide: %+v, %d comes, not %d", what, v, err, want)
		}
	}
}

func accepts(t *testing.T, what string, x api.Table) {
	t.Helper()
	for _, x := range []api.Table{x, littered(x)} {
		if err := table.Wrong(x); err != api.OK {
			t.Errorf("%s: %d comes", what, err)
		}
	}
}

// base is right, and has all that may be wrong at least twice.
func base() api.Table {
	t := made(api.PolPriority, "a number, b text", "o number, p text", "< 5 | - | 1 | b", `[3..9] | "x" | a * 2 | "p"`, `- | not("y") | null | "q"`)
	t.Outs[0].Order = vals(num(3, 0), num(1, 0))
	t.Outs[1].Order = vals(text("q"), text("p"))
	return t
}

type fault struct {
	what string
	make func(t *api.Table)
	want api.Errno
}

// columnFaults are those of the column at i, in the chapter's order.
func columnFaults(of string, i int, list func(t *api.Table) []api.Column) []fault {
	at := func(t *api.Table) *api.Column { return &list(t)[i] }
	what := fmt.Sprintf("%s %d: ", of, i)
	return []fault{
		{what + "name", func(t *api.Table) { at(t).Name = "2a" }, api.ErrName},
		{what + "kind", func(t *api.Table) { at(t).Kind = api.TyAny }, api.ErrKind},
		{what + "order", func(t *api.Table) { at(t).Order = make([]api.Value, api.MaxOrder+1) }, api.ErrMany},
	}
}

func orderFaults(i int) []fault {
	at := func(t *api.Table, v api.Value, rest ...api.Value) {
		t.Policy, t.Outs[i].Kind = api.PolPriority, api.TyNum
		t.Outs[i].Order = append(vals(num(1, 0), v), rest...)
	}
	return []fault{
		{fmt.Sprintf("order %d: wrong", i), func(t *api.Table) { at(t, num(10, 0), null, none) }, api.ErrForm},
		{fmt.Sprintf("order %d: null", i), func(t *api.Table) { at(t, null, none, num(10, 0)) }, api.ErrType},
		{fmt.Sprintf("order %d: text", i), func(t *api.Table) { at(t, text("a"), none, num(10, 0)) }, api.ErrType},
		{fmt.Sprintf("order %d: last", i), func(t *api.Table) { at(t, num(2, 0), none) }, api.ErrKind},
	}
}

func ruleFaults(i int) []fault {
	at := func(t *api.Table) *api.Rule { return &t.Rules[i] }
	what := fmt.Sprintf("rule %d: ", i)
	return []fault{
		{what + "tests", func(t *api.Table) { at(t).Tests = at(t).Tests[:1] }, api.ErrMany},
		{what + "outs", func(t *api.Table) { at(t).Outs = append(at(t).Outs, api.Expr{}) }, api.ErrMany},
		{what + "test 0 wrong", func(t *api.Table) { at(t).Tests[0] = api.Test{Kind: api.TeIs, A: list()} }, api.ErrFit},
		{what + "test 0 type", func(t *api.Table) { at(t).Tests[0] = test(`"x"`) }, api.ErrType},
		{what + "test 1 wrong", func(t *api.Table) { at(t).Tests[1] = endlessTest() }, api.ErrMuch},
		{what + "test 1 type", func(t *api.Table) { at(t).Tests[1] = test("5") }, api.ErrType},
		{what + "out 0 wrong", func(t *api.Table) { at(t).Outs[0] = api.Expr{Kind: 99} }, api.ErrKind},
		{what + "out 0 type", func(t *api.Table) { at(t).Outs[0] = expr("b") }, api.ErrType},
		{what + "out 1 name", func(t *api.Table) { at(t).Outs[1] = expr("c") }, api.ErrName},
		{what + "out 1 type", func(t *api.Table) { at(t).Outs[1] = expr("a") }, api.ErrType},
	}
}

// faults are in the chapter's order; each goes with each behind it.
func faults() []fault {
	ins := func(t *api.Table) []api.Column { return t.Ins }
	outs := func(t *api.Table) []api.Column { return t.Outs }
	l := []fault{
		{"name", func(t *api.Table) { t.Name = "if" }, api.ErrName},
		{"policy", func(t *api.Table) { t.Policy = 11 }, api.ErrKind},
		{"ins", func(t *api.Table) { t.Ins = slices.Repeat(t.Ins, 2) }, api.ErrMany},
	}
	l = append(l, columnFaults("in", 0, ins)...)
	l = append(l, fault{"in 1: name again", func(t *api.Table) { t.Ins[1].Name = t.Ins[0].Name }, api.ErrName})
	l = append(l, columnFaults("in", 1, ins)[1:]...)
	l = append(l, fault{"outs", func(t *api.Table) { t.Outs = slices.Repeat(t.Outs, 2) }, api.ErrMany})
	l = append(l, columnFaults("out", 0, outs)...)
	l = append(l, orderFaults(0)...)
	l = append(l, fault{"out 1: name again", func(t *api.Table) { t.Outs[1].Name = t.Outs[0].Name }, api.ErrName})
	l = append(l, columnFaults("out", 1, outs)[1:]...)
	l = append(l, orderFaults(1)...)
	l = append(l,
		fault{"fit", func(t *api.Table) { t.Policy, t.Outs[0].Order, t.Outs[1].Order = api.PolMin, nil, nil }, api.ErrFit},
		fault{"rules", func(t *api.Table) { t.Rules = slices.Repeat(t.Rules, 4) }, api.ErrMany})
	for i := range 3 {
		l = append(l, ruleFaults(i)...)
	}
	return l
}

func TestJ1EachFault(t *testing.T) {
	accepts(t, "base", base())
	for _, f := range faults() {
		x := copied(base())
		f.make(&x)
		refuses(t, f.what, x, f.want)
	}
}

// Of two faults the one that the chapter names first is told.
func TestJ1FirstFault(t *testing.T) {
	l := faults()
	for i, first := range l {
		for _, second := range l[i+1:] {
			x := copied(base())
			second.make(&x)
			first.make(&x)
			if err := table.Wrong(x); err != first.want {
				t.Errorf("%s, %s: %d comes, not %d", first.what, second.what, err, first.want)
			}
		}
	}
}

func TestJ1Names(t *testing.T) {
	set := []func(x *api.Table, name string){
		func(x *api.Table, name string) { x.Name = name },
		func(x *api.Table, name string) { x.Ins[0].Name = name },
		func(x *api.Table, name string) { x.Ins[1].Name = name },
		func(x *api.Table, name string) { x.Outs[0].Name = name },
		func(x *api.Table, name string) { x.Outs[1].Name = name },
	}
	for i, put := range set {
		for _, name := range []string{"", "if", "null", "satisfies", "2a", "a b", " a", "a\n", "a-b", "é\xff", long(api.MaxName + 1), long(100000)} {
			x := copied(base())
			put(&x, name)
			refuses(t, fmt.Sprintf("%d %.50q", i, name), x, api.ErrName)
		}
		for _, name := range []string{"z", "_", "é1", "not", "table", "If", long(api.MaxName)} {
			x := copied(base())
			x.Rules = nil
			put(&x, name)
			accepts(t, fmt.Sprintf("%d %q", i, name), x)
		}
	}
	// In two lists a name may stand twice, and be the table's.
	x := made(api.PolFirst, "a number, t text, b boolean", "a number, t text, b boolean", "- | - | - | a | t | b")
	accepts(t, "the same names", x)
	for _, list := range [][]api.Column{x.Ins, x.Outs} {
		for _, pair := range [][2]int{{0, 1}, {0, 2}, {1, 2}} {
			kept := list[pair[1]].Name
			list[pair[1]].Name = list[pair[0]].Name
			refuses(t, fmt.Sprint(pair), x, api.ErrName)
			list[pair[1]].Name = kept
		}
	}
}

func TestJ1Policies(t *testing.T) {
	for _, policy := range []int{0, -1, 11, math.MinInt, math.MaxInt} {
		x := made(policy, "a number", "o number", "- | 1")
		refuses(t, fmt.Sprint(policy), x, api.ErrKind)
	}
	for _, policy := range policies() {
		accepts(t, fmt.Sprint(policy), made(policy, "a number", "o number", "- | 1"))
		for _, outs := range []string{"o text", "o boolean"} {
			x := made(policy, "a number", outs)
			if policy == api.PolSum || policy == api.PolMin || policy == api.PolMax {
				refuses(t, fmt.Sprint(policy, outs), x, api.ErrFit)
			} else {
				accepts(t, fmt.Sprint(policy, outs), x)
			}
		}
		for _, outs := range []string{"o number, p number", "o number, p text, q boolean"} {
			x := made(policy, "a number", outs)
			if policy >= api.PolSum {
				refuses(t, fmt.Sprint(policy, outs), x, api.ErrFit)
			} else {
				accepts(t, fmt.Sprint(policy, outs), x)
			}
		}
	}
}

func TestJ1HowMany(t *testing.T) {
	names := []string{"a number", "b text", "c boolean", "d number"}
	some := func(n int) []api.Column {
		if n == 0 {
			return []api.Column{}
		}
		return columns(strings.Join(names[:n], ", "))
	}
	for ins := range 5 {
		for outs := range 5 {
			x := api.Table{Name: "t", Policy: api.PolFirst, Ins: some(ins), Outs: some(outs)}
			what := fmt.Sprint(ins, outs)
			if ins < 1 || ins > api.MaxIns || outs < 1 || outs > api.MaxOuts {
				refuses(t, what, x, api.ErrMany)
			} else {
				accepts(t, what, x)
			}
		}
	}
	for n := range 13 {
		x := made(api.PolRule, "a number", "o number", slices.Repeat([]string{"- | 1"}, n)...)
		if n > api.MaxRules {
			refuses(t, fmt.Sprint(n), x, api.ErrMany)
		} else {
			accepts(t, fmt.Sprint(n), x)
		}
	}
	// However many there are, nothing behind that is looked at.
	refuses(t, "ins", api.Table{Name: "t", Policy: 1, Ins: make([]api.Column, 100000), Outs: columns("o number")}, api.ErrMany)
	refuses(t, "nothing", api.Table{Name: "t", Policy: 1}, api.ErrMany)
	refuses(t, "no outs", api.Table{Name: "t", Policy: 1, Ins: columns("a number")}, api.ErrMany)
	refuses(t, "zero", api.Table{}, api.ErrName)
}

func TestJ1Kinds(t *testing.T) {
	for _, kind := range []int{0, -1, api.TyNull, api.TyList, api.TyAny, 7, math.MinInt, math.MaxInt} {
		for i := range 2 {
			x, y := copied(base()), copied(base())
			x.Ins[i].Kind, y.Outs[i].Kind = kind, kind
			refuses(t, fmt.Sprint(kind), x, api.ErrKind)
			refuses(t, fmt.Sprint(kind), y, api.ErrKind)
		}
	}
}

func TestJ1Orders(t *testing.T) {
	one := vals(num(1, 0))
	for _, policy := range policies() {
		x := made(policy, "a number", "o number", "- | 1")
		x.Ins[0].Order = one
		refuses(t, fmt.Sprint("in ", policy), x, api.ErrMany)
		x.Ins[0].Order, x.Outs[0].Order = []api.Value{}, one
		if policy == api.PolPriority {
			accepts(t, fmt.Sprint("out ", policy), x)
		} else {
			refuses(t, fmt.Sprint("out ", policy), x, api.ErrMany)
		}
		x.Outs[0].Order = []api.Value{}
		accepts(t, fmt.Sprint("empty ", policy), x)
	}
	x := made(api.PolPriority, "a number", "o number", "- | 1")
	x.Outs[0].Order = slices.Repeat(one, api.MaxOrder)
	accepts(t, "as many as may be", x)
	x.Outs[0].Order = slices.Repeat(one, api.MaxOrder+1)
	refuses(t, "one more", x, api.ErrMany)
	right := map[string][]api.Value{"number": {num(1, 40), num(-999999999999999999, -40), num(0, 0)}, "text": {text(""), text(long(api.MaxText))}, "boolean": {yes, no}}
	for kind := range right {
		x := made(api.PolPriority, "a number", "o text, p "+kind)
		for of, l := range right {
			for _, v := range l {
				x.Outs[1].Order = vals(right[kind][0], v)
				if of == kind {
					accepts(t, kind, x)
				} else {
					refuses(t, kind, x, api.ErrType)
				}
			}
		}
		for _, c := range []struct {
			v    api.Value
			want api.Errno
		}{
			{null, api.ErrType}, {list(), api.ErrType}, {list(right[kind][0]), api.ErrType},
			{none, api.ErrKind}, {api.Value{Kind: 6}, api.ErrKind}, {num(10, 0), api.ErrForm}, {num(1, 41), api.ErrRange},
			{text(long(api.MaxText + 1)), api.ErrMuch}, {text("\xff"), api.ErrForm}, {list(none), api.ErrKind}, {endlessList(), api.ErrMuch}, {list(make([]api.Value, 201)...), api.ErrMany},
		} {
			x.Outs[1].Order = vals(right[kind][0], c.v, right[kind][0])
			refuses(t, kind, x, c.want)
		}
	}
}

func TestJ1Tests(t *testing.T) {
	for s, fits := range map[string]string{
		"-": "number text boolean", "null": "number text boolean", "not(null)": "number text boolean",
		"5": "number", "< 5": "number", "[1..2)": "number", "1, null": "number", "not(1, 2)": "number",
		`"x"`: "text", `>= ""`: "text", `("a".."b"]`: "text", `"x", null`: "text", `not("x")`: "text",
		"true": "boolean", "not(false)": "boolean", "true, null": "boolean",
		`1, "x"`: "", `not(true, 1)`: "", `true, "true"`: "",
	} {
		for _, kind := range []string{"number", "text", "boolean"} {
			x := made(api.PolFirst, "z number, a "+kind, "o number")
			x.Rules = []api.Rule{{Tests: []api.Test{test("-"), test(s)}, Outs: []api.Expr{expr("1")}}}
			if strings.Contains(fits, kind) {
				accepts(t, s+" of "+kind, x)
			} else {
				refuses(t, s+" of "+kind, x, api.ErrType)
			}
		}
	}
	for _, c := range []struct {
		x    api.Test
		want api.Errno
	}{
		{api.Test{}, api.ErrKind}, {api.Test{Kind: 10}, api.ErrKind}, {api.Test{Kind: api.TeOr}, api.ErrMany}, {endlessTest(), api.ErrMuch},
		{api.Test{Kind: api.TeLt, A: num(1000000001, 0)}, api.ErrRange}, {api.Test{Kind: api.TeIs, A: list()}, api.ErrFit}, {api.Test{Kind: api.TeLt, A: yes}, api.ErrType}, {api.Test{Kind: api.TeIs, A: num(10, 0)}, api.ErrForm},
	} {
		for i := range 2 {
			x := copied(base())
			x.Rules[1].Tests[i] = c.x
			refuses(t, fmt.Sprint(c.want), x, c.want)
		}
	}
}

func TestJ1Expressions(t *testing.T) {
	for s, want := range map[string]string{
		"1": "number", "a": "number", "a * 2": "number", "count([a, b])": "number", "item([a, null], 1)": "number", "if c then a else null": "number", "sum(for x in [1, 2] return x + a)": "number",
		"b": "text", `b + "x"`: "text", "upper(b)": "text", "min([b])": "text",
		"c": "boolean", "a < 5 and c": "boolean", `some x in [a] satisfies x = 1`: "boolean", `b in ["x"]`: "boolean",
		"null": "number text boolean", "item([null], 1)": "number text boolean", "if c then null else null": "number text boolean",
		"[a]": "", "[]": "", "item([a, b], 1)": "", "if c then a else b": "", "for x in [1] return x": "", "null + null": "",
	} {
		for _, kind := range []string{"number", "text", "boolean"} {
			x := made(api.PolFirst, "a number, b text, c boolean", "z boolean, o "+kind)
			x.Rules = []api.Rule{{Tests: []api.Test{test("-"), test("-"), test("-")}, Outs: []api.Expr{expr("c"), expr(s)}}}
			if strings.Contains(want, kind) {
				accepts(t, s+" is "+kind, x)
			} else {
				refuses(t, s+" is "+kind, x, api.ErrType)
			}
		}
	}
	for s, want := range map[string]api.Errno{
		"o": api.ErrName, "p": api.ErrName, "t": api.ErrName, "c": api.ErrName, "nofunction(1)": api.ErrName, "floor(1, 2)": api.ErrMany, "a + b": api.ErrType, "b * 2": api.ErrType,
		"sum(for a in [b] return a)": api.ErrType, "sum(for b in [a] return b) + b": api.ErrType, "count([b]) + x": api.ErrName,
	} {
		x := copied(base())
		x.Rules[1].Outs[0] = expr(s)
		refuses(t, s, x, want)
	}
	for _, c := range []struct {
		x    api.Expr
		want api.Errno
	}{
		{api.Expr{}, api.ErrKind}, {endlessExpr(), api.ErrMuch}, {api.Expr{Kind: api.XLit, Val: num(-1, 0)}, api.ErrFit}, {api.Expr{Kind: api.XLit, Val: num(10, 0)}, api.ErrForm}, {api.Expr{Kind: api.XName, Name: "if"}, api.ErrName}, {api.Expr{Kind: api.XNeg}, api.ErrMany},
	} {
		for i := range 2 {
			x := copied(base())
			x.Rules[2].Outs[i] = c.x
			refuses(t, fmt.Sprint(c.want), x, c.want)
		}
	}
}

func TestJ1RulesHaveAllColumns(t *testing.T) {
	for i := range 3 {
		for tests := range 4 {
			for outs := range 4 {
				x := copied(base())
				x.Rules[i] = api.Rule{Tests: slices.Repeat([]api.Test{test("-")}, tests), Outs: slices.Repeat([]api.Expr{expr("null")}, outs)}
				what := fmt.Sprint(i, tests, outs)
				if tests == 2 && outs == 2 {
					accepts(t, what, x)
				} else {
					refuses(t, what, x, api.ErrMany)
				}
			}
		}
	}
	refuses(t, "empty rule", api.Table{Name: "t", Policy: 1, Ins: columns("a number"), Outs: columns("o number"), Rules: make([]api.Rule, 1)}, api.ErrMany)
}

// hits checks which rules hit, also where other fields mean nothing.
func hits(t *testing.T, x api.Table, l []api.Value, want ...int) {
	t.Helper()
	for range 2 {
		got, err := table.Hits(x, l)
		if err != api.OK || !slices.Equal(got, want) {
			t.Errorf("%+v: %v, %d comes, not %v", l, got, err, want)
		}
		x, l = littered(x), litteredValues(l)
	}
}

// refusesValues checks what is wrong with values, of both calls.
func refusesValues(t *testing.T, x api.Table, l []api.Value, want api.Errno) {
	t.Helper()
	if got, err := table.Hits(x, l); len(got) > 0 || err != want {
		t.Errorf("%d values: %v, %d comes, not %d", len(l), got, err, want)
	}
	if got, err := table.Decide(x, l); !reflect.DeepEqual(got, none) || err != want {
		t.Errorf("%d values: %+v, %d comes, not %d", len(l), got, err, want)
	}
}

func TestJ2WrongValues(t *testing.T) {
	x := made(api.PolCount, "a number, b text, c boolean", "o number", "- | - | - | 1")
	right := vals(num(1, 0), text("x"), yes)
	hits(t, x, right, 0)
	for n := range 6 {
		if n != 3 {
			// How many there are comes ahead of what they are.
			refusesValues(t, x, make([]api.Value, n), api.ErrMany)
			refusesValues(t, x, slices.Repeat(vals(endlessList()), n), api.ErrMany)
		}
	}
	refusesValues(t, x, nil, api.ErrMany)
	for i := range right {
		for j := range right {
			l := slices.Clone(right)
			l[i] = right[j]
			if i != j {
				refusesValues(t, x, l, api.ErrType)
			}
		}
		for _, c := range []struct {
			v    api.Value
			want api.Errno
		}{
			{none, api.ErrKind}, {api.Value{Kind: 6}, api.ErrKind}, {num(10, 0), api.ErrForm}, {num(1, -41), api.ErrRange}, {text("\xff"), api.ErrForm}, {text(long(api.MaxText + 1)), api.ErrMuch},
			// What is wrong comes ahead of what kind it is.
			{list(none), api.ErrKind}, {endlessList(), api.ErrMuch}, {list(make([]api.Value, 201)...), api.ErrMany},
			{list(), api.ErrType}, {list(right[i]), api.ErrType}, {list(null), api.ErrType},
		} {
			l := slices.Clone(right)
			l[i] = c.v
			refusesValues(t, x, l, c.want)
			// One by one: what is told of the first one comes first.
			for j := i + 1; j < len(l); j++ {
				l[j] = api.Value{Kind: -7}
				refusesValues(t, x, l, c.want)
				l[j] = list()
				refusesValues(t, x, l, c.want)
			}
		}
		l := slices.Clone(right)
		l[i] = null
		hits(t, x, l, 0)
	}
	hits(t, x, vals(null, null, null), 0)
	hits(t, x, vals(num(999999999999999999, 40), text(long(api.MaxText)), no), 0)
}

func TestJ2Hits(t *testing.T) {
	x := made(api.PolUnique, "a number, b text", "o number", "< 5 | - | 1", `[3..9] | "x" | a * 2`, `- | not("y") | 3`, "7 | - | a / 0", "> 8 | - | 1", "null | null | 6", "not(null) | - | 7", "- | > \"x\" | 8")
	hits(t, x, vals(num(1, 0), text("x")), 0, 2, 6)
	hits(t, x, vals(num(4, 0), text("x")), 0, 1, 2, 6)
	hits(t, x, vals(num(4, 0), text("y")), 0, 6, 7)
	hits(t, x, vals(num(5, 0), text("y")), 6, 7)
	hits(t, x, vals(num(7, 0), text("x")), 1, 2, 3, 6)
	hits(t, x, vals(num(9, 0), text("x")), 1, 2, 4, 6)
	hits(t, x, vals(num(12, 0), null), 2, 4, 6)
	// Whether null is below 5 is not known, and what is not known is no hit.
	hits(t, x, vals(null, text("x")), 2)
	hits(t, x, vals(null, text("y")), 7)
	hits(t, x, vals(null, null), 2, 5)
	y := made(api.PolFirst, "c boolean", "o boolean", "true | c", "false | c", "null | c", "not(true) | c", "- | c")
	hits(t, y, vals(yes), 0, 4)
	hits(t, y, vals(no), 1, 3, 4)
	hits(t, y, vals(null), 2, 3, 4)
}

func TestJ2WithoutHits(t *testing.T) {
	for _, policy := range policies() {
		for _, rules := range [][]string{nil, {"< 5 | 1"}, {"< 5 | 1", "null | 2", "[1..3] | 3"}} {
			x := made(policy, "a number", "o number", rules...)
			hits(t, x, vals(num(5, 0)))
			if policy == api.PolCount {
				decides(t, x, vals(num(5, 0)), num(0, 0))
			} else {
				decides(t, x, vals(num(5, 0)), null)
			}
		}
	}
}

// All inputs' tests count, and whether they are met hangs on no policy and no output.
func TestJ2AllTests(t *testing.T) {
	for _, policy := range policies() {
		x := made(policy, "a number, b number, c number", "o number", slices.Repeat([]string{"1 | 2 | 3 | null"}, 10)...)
		hits(t, x, vals(num(1, 0), num(2, 0), num(3, 0)), 0, 1, 2, 3, 4, 5, 6, 7, 8, 9)
		for i := range 3 {
			l := vals(num(1, 0), num(2, 0), num(3, 0))
			l[i] = num(9, 0)
			hits(t, x, l)
			l[i] = null
			hits(t, x, l)
		}
	}
}

// decides checks what is told, also where other fields mean nothing.
func decides(t *testing.T, x api.Table, l []api.Value, want api.Value) {
	t.Helper()
	got, err := table.Decide(x, l)
	if err != api.OK || !same(got, want) {
		t.Errorf("policy %d, %+v: %+v, %d comes, not %+v", x.Policy, l, got, err, want)
	}
	got, err = table.Decide(littered(x), litteredValues(l))
	if err != api.OK || !same(plain(got), want) {
		t.Errorf("policy %d, %+v, other fields: %+v, %d comes, not %+v", x.Policy, l, plain(got), err, want)
	}
}

// same knows that nil and a list without entries are the same.
func same(a, b api.Value) bool {
	if len(a.List) != len(b.List) {
		return false
	}
	for i := range a.List {
		if !same(a.List[i], b.List[i]) {
			return false
		}
	}
	a.List, b.List = nil, nil
	return reflect.DeepEqual(a, b)
}

func fails(t *testing.T, x api.Table, l []api.Value, want api.Errno) {
	t.Helper()
	for _, x := range []api.Table{x, littered(x)} {
		if got, err := table.Decide(x, l); !reflect.DeepEqual(got, none) || err != want {
			t.Errorf("policy %d, %+v: %+v, %d comes, not %d", x.Policy, l, got, err, want)
		}
	}
}

func with(x api.Table, policy int) api.Table {
	x.Policy = policy
	return x
}

func TestJ3Unique(t *testing.T) {
	x := made(api.PolUnique, "a number", "o number", "< 5 | a + 1", "[4..8] | a + 1", "9 | null")
	decides(t, x, vals(num(3, 0)), num(4, 0))
	decides(t, x, vals(num(7, 0)), num(8, 0))
	decides(t, x, vals(num(9, 0)), null)
	decides(t, x, vals(num(1, 1)), null)
	decides(t, x, vals(null), null)
	// The document's example: even if they say the same.
	fails(t, x, vals(num(4, 0)), api.ErrFit)
	y := made(api.PolUnique, "a number", "o number, p text, q boolean", `< 5 | a | "p" | a < 3`, "[4..8] | null | null | null")
	decides(t, y, vals(num(2, 0)), list(num(2, 0), text("p"), yes))
	decides(t, y, vals(num(6, 0)), list(null, null, null))
	decides(t, y, vals(num(9, 0)), null)
	fails(t, y, vals(num(4, 0)), api.ErrFit)
}

func TestJ3Any(t *testing.T) {
	x := made(api.PolAny, "a number", "o number", "- | 5", "> 1 | a", "> 2 | 10 - a", "> 20 | null", "> 30 | null")
	decides(t, x, vals(num(0, 0)), num(5, 0))
	decides(t, x, vals(num(5, 0)), num(5, 0))
	fails(t, x, vals(num(2, 0)), api.ErrFit)
	fails(t, x, vals(num(3, 0)), api.ErrFit)
	fails(t, x, vals(num(25, 0)), api.ErrFit)
	y := made(api.PolAny, "a number, b text", "o text, p number", "- | - | b | a", `> 1 | - | "x" | a`, `> 2 | - | b | 3`, "> 5 | - | null | null")
	decides(t, y, vals(num(1, 0), text("y")), list(text("y"), num(1, 0)))
	decides(t, y, vals(num(2, 0), text("x")), list(text("x"), num(2, 0)))
	decides(t, y, vals(num(3, 0), text("x")), list(text("x"), num(3, 0)))
	fails(t, y, vals(num(2, 0), text("y")), api.ErrFit)
	fails(t, y, vals(num(4, 0), text("x")), api.ErrFit)
	fails(t, y, vals(num(6, 0), text("x")), api.ErrFit)
	// Null is the same as null.
	z := made(api.PolAny, "a number", "o number, p boolean", "- | null | true", "- | a / 0 | 1 < 2", "- | a | true")
	decides(t, z, vals(null), list(null, yes))
	fails(t, z, vals(num(1, 0)), api.ErrFit)
}

func TestJ3First(t *testing.T) {
	x := made(api.PolFirst, "a number", "o number", "< 5 | 1", "< 8 | a * 2", "7 | 3", "null | null")
	decides(t, x, vals(num(4, 0)), num(1, 0))
	decides(t, x, vals(num(7, 0)), num(14, 0))
	decides(t, x, vals(num(9, 0)), null)
	decides(t, x, vals(null), null)
	y := made(api.PolFirst, "a number, b boolean", "o boolean, p number", "> 5 | - | b | a", "- | - | not(b) | -a")
	decides(t, y, vals(num(6, 0), yes), list(yes, num(6, 0)))
	decides(t, y, vals(num(5, 0), yes), list(no, num(-5, 0)))
	decides(t, y, vals(null, null), list(null, null))
}

func TestJ3Priority(t *testing.T) {
	x := made(api.PolPriority, "a number", "o text, p number", `< 5 | "low" | 1`, `< 5 | "high" | 2`, `< 4 | "high" | 3`, `< 3 | "none" | 1`, `< 2 | "other" | 4`, "- | null | 5", `7 | "low" | null`, `[7..8] | "low" | 9`)
	x.Outs[0].Order = vals(text("high"), text("low"), text("high"))
	row := func(s string, n int64) api.Value { return list(text(s), num(n, 0)) }
	// No order in the second column: all places are the same, and the first one comes.
	decides(t, x, vals(num(4, 0)), row("high", 2))
	decides(t, x, vals(num(3, 0)), row("high", 2))
	decides(t, x, vals(num(1, 0)), row("high", 2))
	decides(t, x, vals(num(7, 0)), list(text("low"), null))
	decides(t, x, vals(num(8, 0)), row("low", 9))
	decides(t, x, vals(num(9, 0)), list(null, num(5, 0)))
	// The second column counts where the first one's places are the same.
	x.Outs[1].Order = vals(num(9, 0), num(3, 0), num(2, 0), num(1, 0))
	decides(t, x, vals(num(4, 0)), row("high", 2))
	decides(t, x, vals(num(3, 0)), row("high", 3))
	decides(t, x, vals(num(7, 0)), row("low", 9))
	// Without an order in the first column the second one alone counts.
	x.Outs[0].Order = nil
	decides(t, x, vals(num(1, 0)), row("high", 3))
	decides(t, x, vals(num(4, 0)), row("high", 2))
	x.Outs[1].Order = vals(num(5, 0))
	decides(t, x, vals(num(1, 0)), list(null, num(5, 0)))
	// What stands in no order is behind all, and so is null: of these the first one comes, whatever they are.
	x.Outs[0].Order, x.Outs[1].Order = vals(text("zzz")), nil
	decides(t, x, vals(num(1, 0)), row("low", 1))
	decides(t, x, vals(num(8, 0)), list(null, num(5, 0)))
	x.Outs[1].Order = vals(num(4, 0), num(1, 0))
	decides(t, x, vals(num(1, 0)), row("other", 4))
	decides(t, x, vals(num(2, 0)), row("low", 1))
}

func TestJ3PriorityOfOne(t *testing.T) {
	x := made(api.PolPriority, "a number", "o boolean", "> 0 | null", "> 1 | true", "> 2 | false")
	decides(t, x, vals(num(3, 0)), null)
	x.Outs[0].Order = vals(no)
	decides(t, x, vals(num(1, 0)), null)
	decides(t, x, vals(num(2, 0)), null)
	decides(t, x, vals(num(3, 0)), no)
	x.Outs[0].Order = vals(yes, no)
	decides(t, x, vals(num(2, 0)), yes)
	decides(t, x, vals(num(3, 0)), yes)
	// The last one of an order is still ahead of what is in none.
	y := made(api.PolPriority, "a number", "o number", "- | 100", "- | a")
	for i := range int64(api.MaxOrder) {
		y.Outs[0].Order = append(y.Outs[0].Order, num(2*i+1, 0))
	}
	decides(t, y, vals(num(39, 0)), num(39, 0))
	decides(t, y, vals(num(41, 0)), num(1, 2))
	decides(t, y, vals(num(2, 0)), num(1, 2))
	// Three columns: the first one at which places differ counts, not how many are better.
	z := made(api.PolPriority, "a number", "o number, p number, q number", "- | 2 | 1 | 1", "- | 1 | 2 | 2", "- | 1 | 2 | 1", "- | 1 | 2 | 1")
	for i := range z.Outs {
		z.Outs[i].Order = vals(num(1, 0), num(2, 0))
	}
	decides(t, z, vals(num(0, 0)), list(num(1, 0), num(2, 0), num(1, 0)))
}

func TestJ3RuleAndCollect(t *testing.T) {
	x := made(api.PolRule, "a number", "o number", "- | 1", "> 1 | a", "> 2 | 3", "> 3 | null", "> 4 | 1", "> 5 | a / 0", "> 6 | a")
	three, one := num(3, 0), num(1, 0)
	for _, c := range []struct {
		a                   int64
		wantRule, wantOnces api.Value
	}{
		{0, list(one), list(one)},
		{2, list(one, num(2, 0)), list(one, num(2, 0))},
		{3, list(one, three, three), list(one, three)},
		{4, list(one, num(4, 0), three, null), list(one, num(4, 0), three, null)},
		{7, list(one, num(7, 0), three, null, one, null, num(7, 0)), list(one, num(7, 0), three, null)},
	} {
		decides(t, x, vals(num(c.a, 0)), c.wantRule)
		decides(t, with(x, api.PolCollect), vals(num(c.a, 0)), c.wantOnces)
	}
	y := made(api.PolRule, "a number", "o number, p text", `- | 1 | "p"`, `> 1 | a | "p"`, `> 2 | 1 | "p"`, `> 3 | 1 | null`, `> 4 | 1 | "q"`, `> 5 | 1 | null`)
	p, q := text("p"), text("q")
	decides(t, y, vals(num(0, 0)), list(list(one, p)))
	decides(t, y, vals(num(6, 0)), list(list(one, p), list(num(6, 0), p), list(one, p), list(one, null), list(one, q), list(one, null)))
	y.Policy = api.PolCollect
	decides(t, y, vals(num(0, 0)), list(list(one, p)))
	decides(t, y, vals(num(6, 0)), list(list(one, p), list(num(6, 0), p), list(one, null), list(one, q)))
}

func TestJ3Sum(t *testing.T) {
	x := made(api.PolSum, "a number", "o number", "- | a", "> 1 | 0.5", "> 2 | 0 - 10", "> 3 | null", "> 4 | 7")
	decides(t, x, vals(num(1, 0)), num(1, 0))
	decides(t, x, vals(num(2, 0)), num(25, -1))
	decides(t, x, vals(num(3, 0)), num(-65, -1))
	decides(t, x, vals(num(4, 0)), null)
	decides(t, x, vals(num(5, 0)), null)
	decides(t, x, vals(null), null)
	decides(t, made(api.PolSum, "a number", "o number", "- | 4", "- | 6"), vals(null), num(1, 1))
	decides(t, made(api.PolSum, "a number", "o number", "- | 4", "- | -4"), vals(null), num(0, 0))
	// From the first one on, each time the nearest.
	most := num(api.MaxCoef, 0)
	decides(t, made(api.PolSum, "a number", "o number", "- | a", "- | 0.4", "- | 0.4", "- | 0.4"), vals(most), most)
	decides(t, made(api.PolSum, "a number", "o number", "- | 0.4", "- | 0.4", "- | 0.4", "- | a"), vals(most), num(1, 18))
	// Too much on the way is null, even if it would be less in the end.
	most = num(api.MaxCoef, api.MaxExp)
	decides(t, made(api.PolSum, "a number", "o number", "- | a", "- | a"), vals(most), null)
	decides(t, made(api.PolSum, "a number", "o number", "- | a", "- | a", "- | -a", "- | -a"), vals(most), null)
	decides(t, made(api.PolSum, "a number", "o number", "- | a", "- | -a", "- | a"), vals(most), most)
}

func TestJ3MinAndMax(t *testing.T) {
	x := made(api.PolMin, "a number", "o number", "- | 3", "> 0 | a", "> 1 | 2.50", "> 2 | -7", "> 5 | null", "> 6 | -9")
	for _, c := range []struct{ a, least, most api.Value }{
		{num(0, 0), num(3, 0), num(3, 0)},
		{num(1, 0), num(1, 0), num(3, 0)},
		{num(2, 0), num(2, 0), num(3, 0)},
		{num(28, -1), num(-7, 0), num(3, 0)},
		{num(4, 0), num(-7, 0), num(4, 0)},
		{num(6, 0), null, null},
		{num(7, 0), null, null},
		{null, num(3, 0), num(3, 0)},
	} {
		decides(t, x, vals(c.a), c.least)
		decides(t, with(x, api.PolMax), vals(c.a), c.most)
	}
	// Numbers, not their digits, nor texts.
	y := made(api.PolMin, "a number, b number", "o number", "- | - | a", "- | - | b")
	for _, c := range [][2]api.Value{{num(9, 0), num(1, 1)}, {num(999999999999999999, -40), num(1, 40)}, {num(-1, 40), num(-1, -40)}, {num(-2, 0), num(1, 0)}, {num(9, -1), num(1, 0)}} {
		for _, l := range [][]api.Value{{c[0], c[1]}, {c[1], c[0]}} {
			decides(t, y, l, c[0])
			decides(t, with(y, api.PolMax), l, c[1])
		}
	}
	// Of two that are the same the first one is told, as it was handed in.
	a, b := num(5, 0), num(5, 0)
	a.Text, b.Text = "a", "b"
	for _, policy := range []int{api.PolMin, api.PolMax} {
		if v, err := table.Decide(with(y, policy), vals(a, b)); err != api.OK || !reflect.DeepEqual(v, a) {
			t.Errorf("%d: %+v, %d comes", policy, v, err)
		}
	}
}

func TestJ3Count(t *testing.T) {
	var rules []string
	for i := range 10 {
		rules = append(rules, fmt.Sprintf("> %d | %s", i, []string{"1", "null", "a / 0", tooLong}[i%4]))
	}
	x := made(api.PolCount, "a number", "o number", rules...)
	for i := range int64(10) {
		decides(t, x, vals(num(i, 0)), num(i, 0))
	}
	// Ten, as numbers are written.
	decides(t, x, vals(num(1, 1)), num(1, 1))
	decides(t, x, vals(null), num(0, 0))
	decides(t, made(api.PolCount, "a number", "o text", `- | "x"`, `5 | "x"`), vals(num(5, 0)), num(2, 0))
}

// tooLong comes to more nodes than may be, wideEnough to nearly as many as may be.
var (
	tooLong    = "count(for x in " + ones(70) + " return count(" + ones(70) + "))"
	wideEnough = "count(for x in " + ones(69) + " return count(" + ones(69) + "))"
)

func ones(n int) string { return "[" + strings.Repeat("1, ", n-1) + "1]" }

// Whatever the policy makes of the rows, all rules that hit say theirs; those that don't hit say nothing.
func TestJ3WhatTakesTooLong(t *testing.T) {
	for _, policy := range policies() {
		if policy == api.PolCount {
			continue
		}
		x := made(policy, "a number", "o number", "- | 1", "> 5 | 2", "> 7 | "+tooLong, "> 9 | 4")
		if policy == api.PolPriority {
			x.Outs[0].Order = vals(num(1, 0))
		}
		if _, err := table.Decide(x, vals(num(5, 0))); err != api.OK {
			t.Errorf("%d: %d comes", policy, err)
		}
		fails(t, x, vals(num(8, 0)), api.ErrMuch)
		fails(t, x, vals(num(1, 1)), api.ErrMuch)
		fails(t, made(policy, "a number", "o number", "- | "+tooLong), vals(null), api.ErrMuch)
		// Each expression has all steps for itself.
		y := made(policy, "a number", "o number", slices.Repeat([]string{"- | " + wideEnough}, 10)...)
		if policy == api.PolUnique {
			fails(t, y, vals(null), api.ErrFit)
		} else if v, err := table.Decide(y, vals(null)); err != api.OK || v.Kind == api.VNull {
			t.Errorf("%d: %+v, %d comes", policy, v, err)
		}
		if policy < api.PolSum {
			for _, outs := range []string{"1 | 2 | " + tooLong, "1 | " + tooLong + " | 2", tooLong + " | 1 | 2"} {
				fails(t, made(policy, "a number", "o number, p number, q number", "- | 1 | 2 | 3", "- | "+outs), vals(null), api.ErrMuch)
			}
		}
	}
}

// Names stand for the values, each for its own; inner ones hide them.
func TestJ3Names(t *testing.T) {
	x := made(api.PolFirst, "a number, b number, c text", "c number, a text, b number", "- | - | - | a - b | c + c | sum(for a in [b, b] return a * 10) + a")
	decides(t, x, vals(num(7, 0), num(2, 0), text("x")), list(num(5, 0), text("xx"), num(47, 0)))
	decides(t, x, vals(null, num(2, 0), null), list(null, null, null))
}

// As much as may be at once: it ends, and in good time.
func TestJ1J2J3AsMuchAsMayBe(t *testing.T) {
	var full func(deep int) api.Test
	full = func(deep int) api.Test {
		if deep == api.MaxNesting {
			return api.Test{Kind: api.TeIn, A: text(long(api.MaxText)), B: text(long(api.MaxText - 1))}
		}
		return api.Test{Kind: api.TeNot, Kids: slices.Repeat([]api.Test{full(deep + 1)}, api.MaxTests)}
	}
	x := made(api.PolCollect, "a text, b text, c text", "o number, p number, q number")
	for range api.MaxRules {
		x.Rules = append(x.Rules, api.Rule{Tests: slices.Repeat([]api.Test{full(1)}, 3), Outs: slices.Repeat([]api.Expr{expr(wideEnough)}, 3)})
	}
	l := vals(text("a"), text("a"), text("a"))
	hits(t, x, l, 0, 1, 2, 3, 4, 5, 6, 7, 8, 9)
	n := num(69, 0)
	decides(t, x, l, list(list(n, n, n)))
}

// The calls only read, and spare room is neither changed nor looked at.
func TestJ1J2J3OnlyRead(t *testing.T) {
	fill := func() (api.Table, []api.Value) {
		x := base()
		x.Ins = append(x.Ins, api.Column{Name: "spare"})
		x.Outs = append(x.Outs, api.Column{Name: "spare"})
		x.Rules = append(x.Rules, api.Rule{}, api.Rule{})
		for i := range x.Outs {
			x.Outs[i].Order = append(x.Outs[i].Order, none)
		}
		for i := range x.Rules {
			x.Rules[i].Tests = append(x.Rules[i].Tests, api.Test{})
			x.Rules[i].Outs = append(x.Rules[i].Outs, api.Expr{})
		}
		return x, vals(num(4, 0), text("x"), none)
	}
	cut := func(x api.Table) api.Table {
		x = copied(x)
		x.Ins, x.Outs, x.Rules = x.Ins[:2], x.Outs[:2], x.Rules[:3]
		for i := range x.Outs {
			x.Outs[i].Order = x.Outs[i].Order[:2]
		}
		for i := range x.Rules {
			x.Rules[i].Tests, x.Rules[i].Outs = x.Rules[i].Tests[:2], x.Rules[i].Outs[:2]
		}
		return x
	}
	// whole looks at the spare room again.
	whole := func(x api.Table) api.Table {
		x.Ins, x.Outs, x.Rules = x.Ins[:3], x.Outs[:3], x.Rules[:5]
		for i := range x.Outs[:2] {
			x.Outs[i].Order = x.Outs[i].Order[:3]
		}
		for i := range x.Rules[:3] {
			x.Rules[i].Tests, x.Rules[i].Outs = x.Rules[i].Tests[:3], x.Rules[i].Outs[:3]
		}
		return x
	}
	filled, l := fill()
	kept, keptVals := fill()
	x := cut(filled)
	for _, policy := range policies() {
		x.Policy = policy
		table.Wrong(x)
		table.Hits(x, l[:2])
		table.Decide(x, l[:2])
	}
	x.Policy = api.PolPriority
	accepts(t, "with spare room", x)
	hits(t, x, l[:2], 0, 1, 2)
	decides(t, x, l[:2], list(num(1, 0), text("x")))
	if !reflect.DeepEqual(whole(x), kept) || !reflect.DeepEqual(l, keptVals) {
		t.Errorf("%+v, %+v is left", x, l)
	}
}

// What is answered is the caller's: no later call sees what becomes of it, and no two lists of it are one.
func TestJ2J3AnswersAreNewMemory(t *testing.T) {
	x := made(api.PolRule, "a number, b text", "o number, p text", "- | - | a | b", "- | - | 1 | b", "- | - | a | b")
	l := vals(num(4, 0), text("x"))
	for _, policy := range []int{api.PolFirst, api.PolRule, api.PolCollect} {
		x.Policy = policy
		want, _ := table.Decide(x, l)
		got, _ := table.Decide(x, l)
		if policy != api.PolFirst {
			spoil(got.List[0].List)
			if reflect.DeepEqual(got.List[1], got.List[0]) || !reflect.DeepEqual(got.List[1:], want.List[1:]) {
				t.Errorf("%+v is left", got)
			}
		}
		spoil(got.List)
		if again, err := table.Decide(x, l); err != api.OK || !reflect.DeepEqual(again, want) {
			t.Errorf("%+v, %d comes, not %+v", again, err, want)
		}
	}
	got, _ := table.Hits(x, l)
	got = got[:cap(got)]
	for i := range got {
		got[i] = 77
	}
	hits(t, x, l, 0, 1, 2)
	if !reflect.DeepEqual(l, vals(num(4, 0), text("x"))) {
		t.Errorf("%+v is left", l)
	}
}

func spoil(l []api.Value) {
	l = l[:cap(l)]
	for i := range l {
		l[i] = api.Value{Kind: 77}
	}
}

func TestJ1J2J3AtOnce(t *testing.T) {
	x := base()
	l := vals(num(4, 0), text("x"))
	var wait sync.WaitGroup
	for range 8 {
		wait.Go(func() {
			for range 50 {
				accepts(t, "at once", x)
				hits(t, x, l, 0, 1, 2)
				decides(t, x, l, list(num(1, 0), text("x")))
			}
		})
	}
	wait.Wait()
}
