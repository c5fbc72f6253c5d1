package types_test

import (
	"math"
	"reflect"
	"strings"
	"testing"

	"verdict/api"
	"verdict/syn"
	"verdict/types"
)

func of(kind int) api.Type { return api.Type{Kind: kind} }

func listOf(t api.Type) api.Type { return api.Type{Kind: api.TyList, Elem: []api.Type{t}} }

// nested is t within that many lists.
func nested(t api.Type, lists int) api.Type {
	for range lists {
		t = listOf(t)
	}
	return t
}

// endless is a list of itself.
func endless() api.Type {
	l := make([]api.Type, 1)
	l[0] = api.Type{Kind: api.TyList, Elem: l}
	return l[0]
}

// endlessValue is a list that holds itself, that many times.
func endlessValue(n int) api.Value {
	l := make([]api.Value, n)
	for i := range l {
		l[i] = api.Value{Kind: api.VList, List: l}
	}
	return l[0]
}

func someVars() []api.Var {
	return []api.Var{
		{Name: "n", Type: of(api.TyText)}, // another one behind it has its name
		{Name: "n", Type: of(api.TyNum)},
		{Name: "s", Type: of(api.TyText)},
		{Name: "b", Type: of(api.TyBool)},
		{Name: "l", Type: listOf(of(api.TyNum))},
		{Name: "m", Type: nested(of(api.TyText), 2)},
		{Name: "a", Type: of(api.TyAny)},
		{Name: "z", Type: of(api.TyNull)},
	}
}

func read(t *testing.T, text string) api.Expr {
	t.Helper()
	x, fault := syn.Read(text)
	if fault.Err != api.OK {
		t.Fatalf("%s: %+v comes", text, fault)
	}
	return x
}

func TestE1Wrong(t *testing.T) {
	num := of(api.TyNum)
	for i, c := range []struct {
		t    api.Type
		want api.Errno
	}{
		{of(api.TyNull), api.OK},
		{of(api.TyBool), api.OK},
		{num, api.OK},
		{of(api.TyText), api.OK},
		{of(api.TyAny), api.OK},
		{api.Type{Kind: api.TyNum, Elem: []api.Type{}}, api.OK},
		{listOf(num), api.OK},
		{nested(num, api.MaxTypes-1), api.OK},
		{nested(num, api.MaxTypes), api.ErrMuch},
		{nested(num, 60000), api.ErrMuch},
		{endless(), api.ErrMuch},
		{of(0), api.ErrKind},
		{of(7), api.ErrKind},
		{of(-1), api.ErrKind},
		{of(math.MaxInt), api.ErrKind},
		{of(math.MinInt), api.ErrKind},
		{of(api.TyList), api.ErrMany},
		{api.Type{Kind: api.TyList, Elem: []api.Type{num, num}}, api.ErrMany},
		{api.Type{Kind: api.TyNum, Elem: []api.Type{num}}, api.ErrMany},
		{api.Type{Kind: api.TyNull, Elem: []api.Type{num}}, api.ErrMany},
		{api.Type{Kind: api.TyAny, Elem: []api.Type{num}}, api.ErrMany},
		// What lies outside is told ahead of what lies in it.
		{api.Type{Kind: 9, Elem: []api.Type{num}}, api.ErrKind},
		{api.Type{Kind: api.TyList, Elem: []api.Type{of(9), num}}, api.ErrMany},
		{api.Type{Kind: api.TyNum, Elem: []api.Type{of(9)}}, api.ErrMany},
		{api.Type{Kind: api.TyList, Elem: []api.Type{nested(num, 20), num}}, api.ErrMany},
		{listOf(of(9)), api.ErrKind},
		{listOf(of(api.TyList)), api.ErrMany},
		{listOf(api.Type{Kind: api.TyText, Elem: []api.Type{num}}), api.ErrMany},
		{nested(of(9), api.MaxTypes-1), api.ErrKind},
		{nested(of(api.TyList), api.MaxTypes-1), api.ErrMany},
		{nested(of(9), api.MaxTypes), api.ErrMuch},
		{nested(of(api.TyList), api.MaxTypes), api.ErrMuch},
	} {
		if got := types.Wrong(c.t); got != c.want {
			t.Errorf("%d: %d comes, not %d", i, got, c.want)
		}
	}
}

func TestE1FitsAndJoin(t *testing.T) {
	null, num, text, truth, open := of(api.TyNull), of(api.TyNum), of(api.TyText), of(api.TyBool), of(api.TyAny)
	for _, c := range []struct {
		a, b  api.Type
		fits  bool
		turns bool
		join  api.Type
	}{
		{null, null, true, true, null},
		{null, num, true, false, num},
		{null, listOf(num), true, false, listOf(num)},
		{null, open, true, false, open},
		{num, open, true, false, open},
		{listOf(num), open, true, false, open},
		{num, text, false, false, open},
		{truth, num, false, false, open},
		{num, listOf(num), false, false, open},
		{listOf(null), listOf(num), true, false, listOf(num)},
		{listOf(num), listOf(open), true, false, listOf(open)},
		{listOf(num), listOf(text), false, false, listOf(open)},
		{listOf(num), nested(num, 2), false, false, listOf(open)},
		{listOf(null), nested(num, 2), true, false, nested(num, 2)},
		{nested(num, 2), listOf(open), true, false, listOf(open)},
		{nested(num, 2), nested(text, 2), false, false, nested(open, 2)},
		{nested(num, 9), nested(text, 9), false, false, nested(open, 9)},
		{nested(num, 9), nested(null, 4), false, true, nested(num, 9)},
	} {
		if got := types.Fits(c.a, c.b); got != c.fits {
			t.Errorf("Fits(%s, %s): %t comes", saysName(c.a), saysName(c.b), got)
		}
		if got := types.Fits(c.b, c.a); got != c.turns {
			t.Errorf("Fits(%s, %s): %t comes", saysName(c.b), saysName(c.a), got)
		}
		for _, got := range []api.Type{types.Join(c.a, c.b), types.Join(c.b, c.a)} {
			if !reflect.DeepEqual(got, c.join) {
				t.Errorf("%s and %s are joined %s, not %s", saysName(c.a), saysName(c.b), saysName(got), saysName(c.join))
			}
		}
	}
}

func TestE1Has(t *testing.T) {
	null, num, text, truth := api.Value{Kind: api.VNull}, api.Value{Kind: api.VNum}, api.Value{Kind: api.VText}, api.Value{Kind: api.VBool}
	list := func(l ...api.Value) api.Value { return api.Value{Kind: api.VList, List: l} }
	for i, c := range []struct {
		v    api.Value
		t    api.Type
		want bool
	}{
		{null, of(api.TyNull), true},
		{null, of(api.TyNum), true},
		{null, listOf(of(api.TyNum)), true},
		{num, of(api.TyNum), true},
		{num, of(api.TyNull), false},
		{num, of(api.TyText), false},
		{num, of(api.TyAny), true},
		{num, listOf(of(api.TyNum)), false},
		{text, of(api.TyText), true},
		{text, of(api.TyNum), false},
		{truth, of(api.TyBool), true},
		{truth, of(api.TyNum), false},
		{list(), of(api.TyNull), false},
		{list(), of(api.TyNum), false},
		{list(), of(api.TyAny), true},
		{list(), listOf(of(api.TyNull)), true},
		{list(), nested(of(api.TyText), 9), true},
		{list(num, null, num), listOf(of(api.TyNum)), true},
		{list(num, null, text), listOf(of(api.TyNum)), false},
		{list(num, null, text), listOf(of(api.TyAny)), true},
		{list(null, null), listOf(of(api.TyNull)), true},
		{list(null, num), listOf(of(api.TyNull)), false},
		{list(list(num), null, list()), nested(of(api.TyNum), 2), true},
		{list(list(num), num), nested(of(api.TyNum), 2), false},
		{list(list(num), num), listOf(of(api.TyAny)), true},
		{list(list(num, text)), nested(of(api.TyNum), 2), false},
		{list(list(num), list(list(text))), nested(of(api.TyNum), 2), false},
		// Fields that a kind has not mean nothing.
		{api.Value{Kind: api.VNull, Yes: true, Text: "a", List: []api.Value{text}}, of(api.TyNull), true},
		{api.Value{Kind: api.VNum, Yes: true, Text: "a", List: []api.Value{text}}, of(api.TyText), false},
		{api.Value{Kind: api.VNum, Yes: true, Text: "a", List: []api.Value{text}}, listOf(of(api.TyText)), false},
		{api.Value{}, of(api.TyNum), false},
		{api.Value{Kind: 6}, listOf(of(api.TyAny)), false},
	} {
		if got := types.Has(c.v, c.t); got != c.want {
			t.Errorf("%d: %t comes", i, got)
		}
	}
}

// Of lists longer than a value may have it is told all the same.
func TestE1HasOfLongLists(t *testing.T) {
	long := make([]api.Value, 100000)
	for i := range long {
		long[i].Kind = api.VNum
	}
	v := api.Value{Kind: api.VList, List: long}
	if !types.Has(v, listOf(of(api.TyNum))) {
		t.Error("a list of numbers is none")
	}
	long[len(long)-1].Kind = api.VText
	if types.Has(v, listOf(of(api.TyNum))) {
		t.Error("a list whose last one is a text is one of numbers")
	}
}

// rowOf is a list of v, that many times.
func rowOf(v api.Value, n int) api.Value {
	l := make([]api.Value, n)
	for i := range l {
		l[i] = v
	}
	return api.Value{Kind: api.VList, List: l}
}

// Where lists are the same list many times, there are more values than can be gone over one by one.
func TestE1HasOfTheSameListManyTimes(t *testing.T) {
	row := api.Value{Kind: api.VNum}
	for lists := 1; lists < api.MaxTypes; lists++ {
		row = rowOf(row, 5000)
		for _, c := range []struct {
			t    api.Type
			want bool
		}{
			{nested(of(api.TyNum), lists), true},
			{nested(of(api.TyAny), lists), true},
			{nested(of(api.TyAny), lists-1), true},
			{nested(of(api.TyText), lists), false},
			{nested(of(api.TyNum), lists-1), false},
			{nested(of(api.TyNum), lists+1), false},
		} {
			if got := types.Has(row, c.t); got != c.want {
				t.Errorf("%d lists, %s: %t comes", lists, types.Name(c.t), got)
			}
		}
	}
	// The last one of all alone is of another type.
	v, text := api.Value{Kind: api.VNum}, api.Value{Kind: api.VText}
	for lists := 1; lists < api.MaxTypes; lists++ {
		other := rowOf(v, 5000)
		other.List[4999] = text
		if types.Has(other, nested(of(api.TyNum), lists)) || !types.Has(other, nested(of(api.TyAny), lists)) {
			t.Errorf("%d lists: it is of numbers, or not of any", lists)
		}
		v, text = rowOf(v, 5000), rowOf(text, 1)
	}
}

// What is known of a list says nothing of a longer one, nor of the same one where it is asked for another type.
func TestE1HasOfListsThatShare(t *testing.T) {
	list := func(l ...api.Value) api.Value { return api.Value{Kind: api.VList, List: l} }
	num, text := api.Value{Kind: api.VNum}, api.Value{Kind: api.VText}
	room := []api.Value{num, num, text, num}
	part := func(from, to int) api.Value { return list(room[from:to]...) }
	nested1 := list(list(num))
	deep := nested(of(api.TyNum), 2)
	for i, c := range []struct {
		v    api.Value
		t    api.Type
		want bool
	}{
		{list(part(0, 1), part(0, 2), part(1, 2), part(0, 0), part(3, 4)), deep, true},
		{list(part(0, 2), part(0, 1), part(0, 2)), deep, true},
		{list(part(0, 1), part(0, 2), part(0, 3)), deep, false},
		{list(part(0, 2), part(1, 3)), deep, false},
		{list(part(0, 2), part(2, 4)), deep, false},
		{list(part(0, 2), part(0, 4)), nested(of(api.TyAny), 2), true},
		{list(nested1, nested1), nested(of(api.TyNum), 3), true},
		{list(nested1, list(nested1)), nested(of(api.TyNum), 3), false},
		{list(list(nested1), nested1), nested(of(api.TyNum), 3), false},
		{list(nested1, list(nested1)), nested(of(api.TyAny), 3), true},
	} {
		if got := types.Has(c.v, c.t); got != c.want {
			t.Errorf("%d: %t comes", i, got)
		}
	}
}

func TestE1Name(t *testing.T) {
	for _, c := range []struct {
		t    api.Type
		want string
	}{
		{of(api.TyNull), "null"},
		{of(api.TyBool), "boolean"},
		{of(api.TyNum), "number"},
		{of(api.TyText), "text"},
		{of(api.TyAny), "any"},
		{listOf(of(api.TyNull)), "list of null"},
		{listOf(of(api.TyBool)), "list of boolean"},
		{nested(of(api.TyNum), 2), "list of list of number"},
		{nested(of(api.TyText), 9), strings.Repeat("list of ", 9) + "text"},
	} {
		if got := types.Name(c.t); got != c.want {
			t.Errorf("%q comes, not %q", got, c.want)
		}
	}
}

func TestE1WhatIsWrongDoesNotPanicAndEnds(t *testing.T) {
	num := of(api.TyNum)
	bad := []api.Type{
		{}, of(9), of(-1), of(api.TyList), {Kind: api.TyList, Elem: []api.Type{num, num}}, {Kind: api.TyNum, Elem: []api.Type{num}},
		listOf(of(api.TyList)), listOf(of(9)), nested(num, 10), nested(num, 60000), endless(), nested(endless(), 3), num, listOf(num),
	}
	vals := []api.Value{{}, {Kind: 9}, {Kind: api.VNum}, {Kind: api.VList}, {Kind: api.VList, List: make([]api.Value, 3)}, endlessValue(1), endlessValue(2), endlessValue(300)}
	for _, a := range bad {
		types.Wrong(a)
		types.Name(a)
		for _, b := range bad {
			types.Fits(a, b)
			types.Join(a, b)
		}
		for _, v := range vals {
			types.Has(v, a)
		}
		types.Type(api.Expr{Kind: api.XName, Name: "x"}, []api.Var{{Name: "x", Type: a}})
	}
	for _, kind := range []int{api.TyNum, api.TyAny} {
		if types.Has(endlessValue(200), nested(of(kind), 9)) != (kind == api.TyAny) {
			t.Errorf("%d: a list that holds itself is of it, or it is not", kind)
		}
	}
	types.Has(endlessValue(20), nested(of(api.TyAny), 60000))
}

func TestE2WhatIsAsked(t *testing.T) {
	one := api.Expr{Kind: api.XLit, Val: api.Value{Kind: api.VNum, Num: api.Dec{Coef: 1}}}
	num := of(api.TyNum)
	full := make([]api.Var, api.MaxVars)
	for i := range full {
		full[i] = api.Var{Name: "x", Type: num}
	}
	for i, c := range []struct {
		x    api.Expr
		vars []api.Var
		want api.Errno
	}{
		{one, nil, api.OK},
		{one, []api.Var{}, api.OK},
		{one, full, api.OK},
		{one, append(full, api.Var{Name: "x", Type: num}), api.ErrMany},
		{one, make([]api.Var, api.MaxVars+1), api.ErrMany},
		{api.Expr{}, make([]api.Var, api.MaxVars+1), api.ErrKind},
		{api.Expr{Kind: api.XNeg}, nil, api.ErrMany},
		{api.Expr{Kind: api.XName}, nil, api.ErrName},
		{api.Expr{Kind: api.XLit, Val: api.Value{Kind: api.VList}}, nil, api.ErrFit},
		{api.Expr{Kind: api.XLit, Val: api.Value{Kind: api.VNum, Num: api.Dec{Coef: 10}}}, nil, api.ErrForm},
		{one, []api.Var{{Name: "if", Type: num}}, api.ErrName},
		{one, []api.Var{{Name: "", Type: num}}, api.ErrName},
		{one, []api.Var{{Name: "if", Type: of(9)}}, api.ErrName},
		{one, []api.Var{{Name: "a b", Type: num}}, api.ErrName},
		{one, []api.Var{{Name: strings.Repeat("a", api.MaxName), Type: num}}, api.OK},
		{one, []api.Var{{Name: strings.Repeat("a", api.MaxName+1), Type: num}}, api.ErrName},
		{one, []api.Var{{Name: "x", Type: of(9)}}, api.ErrKind},
		{one, []api.Var{{Name: "x", Type: of(api.TyList)}}, api.ErrMany},
		{one, []api.Var{{Name: "x", Type: nested(num, api.MaxTypes)}}, api.ErrMuch},
		{one, []api.Var{{Name: "x", Type: nested(num, api.MaxTypes-1)}}, api.OK},
		// One by one: each one's type ahead of the next one's name.
		{one, []api.Var{{Name: "x", Type: of(9)}, {Name: "if", Type: num}}, api.ErrKind},
		{one, []api.Var{{Name: "x", Type: num}, {Name: "if", Type: num}, {Name: "x", Type: of(9)}}, api.ErrName},
		// What is wrong with vars comes ahead of what names stand for.
		{api.Expr{Kind: api.XName, Name: "y"}, []api.Var{{Name: "x", Type: of(9)}}, api.ErrKind},
		{api.Expr{Kind: api.XName, Name: "y"}, full, api.ErrName},
		{api.Expr{Kind: api.XName, Name: "x"}, full, api.OK},
	} {
		got, err := types.Type(c.x, c.vars)
		if err != c.want || err != api.OK && !reflect.DeepEqual(got, api.Type{}) {
			t.Errorf("%d: %v, %d comes, not %d", i, got, err, c.want)
		}
	}
}

func TestE2LastOneOfANameCounts(t *testing.T) {
	vars := []api.Var{{Name: "x", Type: of(api.TyNum)}, {Name: "y", Type: of(api.TyBool)}, {Name: "x", Type: listOf(of(api.TyText))}}
	got, err := types.Type(api.Expr{Kind: api.XName, Name: "x"}, vars)
	if err != api.OK || types.Name(got) != "list of text" {
		t.Errorf("%v, %d comes", got, err)
	}
}

// told holds what Type says of texts against what it must say: a type's name, or what is wrong.
func told(t *testing.T, rows [][2]string) {
	t.Helper()
	errs := map[string]api.Errno{"ErrName": api.ErrName, "ErrMany": api.ErrMany, "ErrType": api.ErrType}
	for _, row := range rows {
		got, err := types.Type(read(t, row[0]), someVars())
		want, wrong := errs[row[1]]
		switch {
		case wrong && (err != want || !reflect.DeepEqual(got, api.Type{})):
			t.Errorf("%s: %v, %d comes, not %s", row[0], got, err, row[1])
		case !wrong && (err != api.OK || types.Name(got) != row[1] || types.Wrong(got) != api.OK):
			t.Errorf("%s: %v, %d comes, not %s", row[0], got, err, row[1])
		}
	}
}

func TestE2FirstError(t *testing.T) {
	told(t, [][2]string{
		{"x", "ErrName"},
		{"x + -s", "ErrName"},
		{"-s + x", "ErrType"},
		{"foo()", "ErrName"},
		{"foo(x, -s)", "ErrName"},
		{"Not(b)", "ErrName"},
		{"n(1)", "ErrName"},
		// Of a call ahead of its kids.
		{"foo(-s)", "ErrName"},
		{"not()", "ErrMany"},
		{"not(x, -s)", "ErrMany"},
		{"not(b, b)", "ErrMany"},
		{"not(-s)", "ErrType"},
		{"not(x)", "ErrName"},
		{"not(not())", "ErrMany"},
		{"round(s, x)", "ErrName"},
		{"round(-s, x)", "ErrType"},
		{"round(x, -s)", "ErrName"},
		{"[-s, x, not()]", "ErrType"},
		{"[not(), -s, x]", "ErrMany"},
		{"s and x", "ErrName"},
		{"if s then x else 1", "ErrName"},
		{"if s then 1 else not()", "ErrMany"},
		{"if -s then x else 1", "ErrType"},
		// Where the first kid may not be a list, ahead of the second one.
		{"for i in n return x", "ErrType"},
		{"some i in s satisfies x", "ErrType"},
		{"every i in b satisfies not()", "ErrType"},
		{"for i in x return -s", "ErrName"},
		{"for i in l return x", "ErrName"},
		{"some i in l satisfies x", "ErrName"},
		{"every i in l satisfies not()", "ErrMany"},
	})
}

func TestE2NamesInside(t *testing.T) {
	told(t, [][2]string{
		{"for x in l return x", "list of number"},
		{"for x in l return [x]", "list of list of number"},
		{"for n in m return n", "list of list of text"},
		{"for n in n return 1", "ErrType"},
		{"for l in l return l + 1", "list of number"},
		{"for x in x return 1", "ErrName"},
		{"[for x in l return x, x]", "ErrName"},
		{"[for n in m return 1, n]", "list of any"},
		{"[[for n in m return 1], [n]]", "list of list of any"},
		{"(for s in l return s + 1) = [n] and s = \"\"", "boolean"},
		{"(for s in l return s + 1) = [n] and s = 1", "ErrType"},
		{"for x in m return for x in x return x", "list of list of text"},
		{"for x in m return [(for x in x return length(x)), x]", "list of list of list of any"},
		{"for x in m return for y in x return x", "list of list of list of text"},
		{"for x in m return some y in x satisfies y = x", "ErrType"},
		{"for x in m return some y in x satisfies y in x", "list of boolean"},
		{"for x in for x in l return x > 1 return not(x)", "list of boolean"},
		{"some x in m satisfies every x in x satisfies x = s", "boolean"},
		{"some x in l satisfies (every x in m satisfies x = [s]) and x = 1", "boolean"},
		{"some x in l satisfies (every x in m satisfies x = [s]) and x = s", "ErrType"},
		{"for x in a return x", "list of any"},
		{"for x in z return x", "list of null"},
		{"for x in z return x + 1", "list of number"},
		{"for x in [] return x", "list of null"},
	})
}

func TestE3ByKind(t *testing.T) {
	told(t, [][2]string{
		{"null", "null"}, {"true", "boolean"}, {"false", "boolean"}, {"1.5", "number"}, {`"a"`, "text"},
		{"n", "number"}, {"m", "list of list of text"}, {"z", "null"},
		{"-n", "number"}, {"-a", "number"}, {"-null", "number"}, {"-s", "ErrType"}, {"-l", "ErrType"}, {"-b", "ErrType"},
		{"n + n", "number"}, {"n + a", "number"}, {"z + n", "number"}, {"s + s", "text"}, {"a + s", "text"}, {"s + z", "text"},
		{"a + a", "any"}, {"a + z", "any"}, {"z + z", "any"}, {"n + s", "ErrType"}, {"l + l", "ErrType"}, {"b + b", "ErrType"}, {"b + a", "ErrType"}, {"a + l", "ErrType"},
		{"n - n", "number"}, {"a * z", "number"}, {"z / z", "number"}, {"s - s", "ErrType"}, {"n * s", "ErrType"}, {"l / n", "ErrType"},
		{"n = n", "boolean"}, {"n != s", "ErrType"}, {"l = l", "boolean"}, {"l = m", "ErrType"}, {"[a] = l", "boolean"}, {"[[]] = m", "boolean"}, {"l != z", "boolean"}, {"l = a", "boolean"}, {"l = n", "ErrType"}, {"[l] = m", "ErrType"},
		{"n < n", "boolean"}, {"s <= s", "boolean"}, {"a > a", "boolean"}, {"z >= s", "boolean"}, {"n < s", "ErrType"}, {"b < b", "ErrType"}, {"l < l", "ErrType"}, {"a < b", "ErrType"},
		{"n in l", "boolean"}, {"l in [l]", "boolean"}, {"z in l", "boolean"}, {"n in a", "boolean"}, {"m in z", "boolean"}, {"s in l", "ErrType"}, {"n in n", "ErrType"}, {"l in l", "ErrType"}, {"s in m", "ErrType"}, {"[s] in m", "boolean"}, {"n in []", "boolean"},
		{"b and b", "boolean"}, {"a or z", "boolean"}, {"b and n", "ErrType"}, {"s or b", "ErrType"}, {"l and b", "ErrType"},
		{"if b then n else n", "number"}, {"if a then n else null", "number"}, {"if z then l else [s]", "list of any"}, {"if b then n else s", "any"}, {"if n then 1 else 2", "ErrType"}, {"if l then 1 else 2", "ErrType"}, {"if b then z else z", "null"}, {"if b then n else a", "any"},
		{"[]", "list of null"}, {"[null]", "list of null"}, {"[1, null]", "list of number"}, {"[null, 1]", "list of number"}, {"[1, s]", "list of any"}, {"[1, s, 1]", "list of any"}, {"[[], l]", "list of list of number"}, {"[l, m]", "list of list of any"}, {"[a]", "list of any"}, {"[l, 1]", "list of any"},
		{"some x in l satisfies x > 1", "boolean"}, {"every x in l satisfies x", "ErrType"}, {"some x in l satisfies a", "boolean"}, {"every x in a satisfies x", "boolean"}, {"some x in z satisfies null", "boolean"}, {"some x in m satisfies x", "ErrType"},
	})
}

func TestE4Functions(t *testing.T) {
	told(t, [][2]string{
		{"not(b)", "boolean"}, {"not(a)", "boolean"}, {"not(null)", "boolean"}, {"not(n)", "ErrType"},
		{"floor(n)", "number"}, {"ceiling(a)", "number"}, {"abs(z)", "number"}, {"abs(s)", "ErrType"}, {"floor(l)", "ErrType"}, {"ceiling(b)", "ErrType"},
		{"round(n, n)", "number"}, {"round(a, z)", "number"}, {"round(n, s)", "ErrType"}, {"round(s, n)", "ErrType"}, {"round(n)", "ErrMany"}, {"round(n, n, n)", "ErrMany"},
		{"min(l)", "number"}, {"max(m)", "list of text"}, {"min(a)", "any"}, {"max(z)", "null"}, {"min([])", "null"}, {"max([b])", "boolean"}, {"min(n)", "ErrType"}, {"max(n, n)", "ErrMany"},
		{"item(l, 1)", "number"}, {"item(m, a)", "list of text"}, {"item(a, 1)", "any"}, {"item(l, s)", "ErrType"}, {"item(s, 1)", "ErrType"}, {"item(l)", "ErrMany"},
		{"sum(l)", "number"}, {"sum([])", "number"}, {"sum(a)", "number"}, {"sum(z)", "number"}, {"sum([a])", "number"}, {"sum(m)", "ErrType"}, {"sum([s])", "ErrType"}, {"sum(n)", "ErrType"}, {"sum([1, s])", "number"},
		{"count(l)", "number"}, {"count(m)", "number"}, {"count(a)", "number"}, {"count(s)", "ErrType"},
		{"reverse(l)", "list of number"}, {"distinct(m)", "list of list of text"}, {"sort(a)", "list of any"}, {"sort(z)", "list of null"}, {"reverse(s)", "ErrType"}, {"sort([b])", "list of boolean"}, {"distinct(n)", "ErrType"},
		{"concat(l, l)", "list of number"}, {"concat(l, [s])", "list of any"}, {"concat(l, a)", "list of any"}, {"concat(z, l)", "list of number"}, {"concat(z, z)", "list of null"}, {"concat([], m)", "list of list of text"}, {"concat([l], m)", "list of list of any"}, {"concat(l, n)", "ErrType"}, {"concat(s, s)", "ErrType"}, {"concat(l)", "ErrMany"},
		{"length(s)", "number"}, {"length(a)", "number"}, {"length(l)", "ErrType"}, {"length(n)", "ErrType"},
		{"upper(s)", "text"}, {"lower(z)", "text"}, {"upper(a)", "text"}, {"lower(n)", "ErrType"},
		{"substring(s, 1, 2)", "text"}, {"substring(a, z, a)", "text"}, {"substring(s, s, 1)", "ErrType"}, {"substring(s, 1, s)", "ErrType"}, {"substring(1, 1, 1)", "ErrType"}, {"substring(s, 1)", "ErrMany"},
		{"contains(s, s)", "boolean"}, {"starts(a, s)", "boolean"}, {"ends(s, z)", "boolean"}, {"contains(l, n)", "ErrType"}, {"starts(s, n)", "ErrType"}, {"ends(n, s)", "ErrType"},
		{"between(n, 1, 2)", "boolean"}, {"between(s, s, s)", "boolean"}, {"between(a, a, z)", "boolean"}, {"between(a, n, z)", "boolean"}, {"between(a, s, z)", "boolean"}, {"between(a, n, s)", "ErrType"}, {"between(b, b, b)", "ErrType"}, {"between(s, 1, 2)", "ErrType"}, {"between(1, 2, s)", "ErrType"}, {"between(n, n)", "ErrMany"}, {"between(l, l, l)", "ErrType"},
	})
}

// Expressions have types that are nested deeper than one that may be handed in.
func TestE3DeepTypes(t *testing.T) {
	for _, lists := range []int{9, 10, 11, 58} {
		text := strings.Repeat("[", lists) + "1" + strings.Repeat("]", lists)
		got, err := types.Type(read(t, text), nil)
		if err != api.OK || !reflect.DeepEqual(got, nested(of(api.TyNum), lists)) {
			t.Errorf("%d lists: %v, %d comes", lists, got, err)
		}
		if name := types.Name(got); name != saysName(got) || !types.Fits(got, got) || types.Fits(got, listOf(got)) {
			t.Errorf("%d lists: %s comes, or it does not fit itself", lists, name)
		}
		got, err = types.Type(read(t, "x = "+text), []api.Var{{Name: "x", Type: nested(of(api.TyNum), 9)}})
		if (err == api.OK) != (lists == 9) || err != api.OK && err != api.ErrType {
			t.Errorf("x = %d lists: %v, %d comes", lists, got, err)
		}
	}
	// Each name is of a type that is deeper by what stands around the one before it.
	x, lists := read(t, "[1]"), 1
	for range 40 {
		body := read(t, "[[[[[[[[[[x]]]]]]]]]]")
		x = api.Expr{Kind: api.XFor, Name: "x", Kids: []api.Expr{x, body}}
		lists += 10
	}
	got, err := types.Type(x, nil)
	if err != api.OK || !reflect.DeepEqual(got, nested(of(api.TyNum), lists)) {
		t.Errorf("%s, %d comes", types.Name(got), err)
	}
}

// Nothing that is handed in is changed, and what comes shares nothing with it.
func TestE2NothingIsChangedOrKept(t *testing.T) {
	vars := someVars()
	x := read(t, "if b then m else [upper(s)]")
	y := read(t, "m")
	joined := types.Join(vars[5].Type, vars[7].Type)
	one, _ := types.Type(y, vars)
	types.Type(x, vars)
	types.Type(read(t, "for n in l return [for b in m return s]"), vars)
	if !reflect.DeepEqual(vars, someVars()) || !reflect.DeepEqual(x, read(t, "if b then m else [upper(s)]")) {
		t.Error("something was changed")
	}
	two, _ := types.Type(y, vars)
	for _, got := range []api.Type{joined, one, two} {
		got.Elem[0].Elem[0].Kind = 9
		got.Elem[0].Kind = 9
	}
	if !reflect.DeepEqual(vars, someVars()) {
		t.Error("what came was not new")
	}
	// What is not of a list's length is not looked at.
	room := []api.Var{{Name: "x", Type: of(api.TyNum)}, {Name: "x", Type: of(9)}, {Name: "if"}}
	if got, err := types.Type(api.Expr{Kind: api.XName, Name: "x"}, room[:1]); err != api.OK || got.Kind != api.TyNum {
		t.Errorf("%v, %d comes", got, err)
	}
}

func FuzzType(f *testing.F) {
	for _, s := range []string{"x", "n + 1", "for x in l return x", "between(a, 1, z)", "concat(l, m)"} {
		f.Add(s)
	}
	f.Fuzz(func(t *testing.T, text string) {
		x, fault := syn.Read(text)
		if fault.Err != api.OK {
			return
		}
		holdAgainst(t, x, someVars())
	})
}
