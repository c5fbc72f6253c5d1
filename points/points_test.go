package points_test

import (
	"fmt"
	"math"
	"reflect"
	"slices"
	"strings"
	"sync"
	"testing"
	"unsafe"

	"verdict/api"
	"verdict/logic"
	"verdict/points"
	"verdict/trials"
)

var (
	yes  = api.Value{Kind: api.VBool, Yes: true}
	no   = api.Value{Kind: api.VBool}
	null = api.Value{Kind: api.VNull}
	none = api.Value{}

	anything = api.Test{Kind: api.TeAny}
	isNull   = test(api.TeIs, null)
	isTrue   = test(api.TeIs, yes)
	isOne    = test(api.TeIs, num(1, 0))
	isA      = test(api.TeIs, text("a"))
)

func kinds() []int { return []int{api.TyBool, api.TyNum, api.TyText} }

func num(coef int64, exp int) api.Value {
	return api.Value{Kind: api.VNum, Num: api.Dec{Coef: coef, Exp: exp}}
}

func text(s string) api.Value { return api.Value{Kind: api.VText, Text: s} }

func list(l ...api.Value) api.Value { return api.Value{Kind: api.VList, List: l} }

func test(kind int, a api.Value) api.Test { return api.Test{Kind: kind, A: a} }

func span(a, b api.Value) api.Test { return api.Test{Kind: api.TeIn, A: a, B: b} }

func or(kids ...api.Test) api.Test { return api.Test{Kind: api.TeOr, Kids: kids} }

func not(kids ...api.Test) api.Test { return api.Test{Kind: api.TeNot, Kids: kids} }

func numbers(wholes ...int64) []api.Value {
	var l []api.Value
	for _, n := range wholes {
		l = append(l, num(n, 0))
	}
	return l
}

func texts(l ...string) []api.Value {
	var vals []api.Value
	for _, s := range l {
		vals = append(vals, text(s))
	}
	return vals
}

func copies(t api.Test, n int) []api.Test { return slices.Repeat([]api.Test{t}, n) }

func long(n int) string { return strings.Repeat("a", n) }

// brief tells of tests and values that may be long, or hold themselves.
func brief(x any) string {
	s := ""
	switch x := x.(type) {
	case []api.Test:
		for _, one := range x[:min(len(x), 30)] {
			s += briefTest(one, 1) + "; "
		}
	case []api.Value:
		s = briefValue(list(x[:min(len(x), 30)]...), 1)
	case api.Test:
		s = briefTest(x, 1)
	case api.Value:
		s = briefValue(x, 1)
	}
	return s[:min(len(s), 500)]
}

func briefTest(x api.Test, deep int) string {
	s := fmt.Sprintf("%d(%s %s %v %v", x.Kind, briefValue(x.A, 1), briefValue(x.B, 1), x.OpenA, x.OpenB)
	if deep > api.MaxNesting {
		return s + " ..)"
	}
	for _, kid := range x.Kids[:min(len(x.Kids), 3)] {
		s += ", " + briefTest(kid, deep+1)
	}
	return s + ")"
}

func briefValue(v api.Value, deep int) string {
	s := fmt.Sprintf("%d{%v %v %q", v.Kind, v.Yes, v.Num, v.Text[:min(len(v.Text), 50)])
	if deep > 3 {
		return s + " ..}"
	}
	for _, one := range v.List[:min(len(v.List), 30)] {
		s += " " + briefValue(one, deep+1)
	}
	return s + "}"
}

// endless is a test that is its own kid, n times.
func endless(kind, n int) api.Test {
	kids := make([]api.Test, n)
	for i := range kids {
		kids[i] = api.Test{Kind: kind, Kids: kids}
	}
	return kids[0]
}

// endlessList holds itself.
func endlessList() api.Value {
	l := make([]api.Value, 2)
	for i := range l {
		l[i] = list(l...)
		l[i].List = l
	}
	return l[0]
}

// litteredValue has something in all fields that its kind has not.
func litteredValue(v api.Value) api.Value {
	l := api.Value{Kind: v.Kind, Yes: true, Num: api.Dec{Coef: 7, Exp: 1}, Text: "litter", List: make([]api.Value, 300)}
	switch v.Kind {
	case api.VBool:
		l.Yes = v.Yes
	case api.VNum:
		l.Num = v.Num
	case api.VText:
		l.Text = v.Text
	case api.VList:
		l.List = v.List
	}
	return l
}

// littered has something in all fields that its kind has not, of the kind that is asked for: none of it is an edge.
func littered(t api.Test, litter api.Value) api.Test {
	kids := []api.Test{test(api.TeIs, litter)}
	l := api.Test{Kind: t.Kind, A: litter, B: litter, OpenA: true, OpenB: true, Kids: kids}
	switch t.Kind {
	case api.TeIs, api.TeLt, api.TeLe, api.TeGt, api.TeGe:
		l.A = litteredValue(t.A)
	case api.TeIn:
		l.A, l.B, l.OpenA, l.OpenB = litteredValue(t.A), litteredValue(t.B), t.OpenA, t.OpenB
	case api.TeOr, api.TeNot:
		l.Kids = nil
		for _, kid := range t.Kids {
			l.Kids = append(l.Kids, littered(kid, litter))
		}
	}
	return l
}

// read is the tests that the texts are.
func read(t *testing.T, l ...string) []api.Test {
	t.Helper()
	var tests []api.Test
	for _, s := range l {
		x, fault := trials.Read(s)
		if fault.Err != api.OK {
			t.Fatalf("%q: %+v", s, fault)
		}
		tests = append(tests, x)
	}
	return tests
}

// has checks the points of tests, in any order and however they are nested, and where other fields mean nothing.
func has(t *testing.T, kind int, l []api.Test, want ...api.Value) {
	t.Helper()
	turned := slices.Clone(l)
	slices.Reverse(turned)
	ways := [][]api.Test{l, turned}
	for _, litter := range []api.Value{yes, num(777, 0), text("litter"), text(long(api.MaxText)), list(none)} {
		var all []api.Test
		for _, x := range l {
			all = append(all, littered(x, litter))
		}
		ways = append(ways, all)
	}
	if len(l) > 0 && len(l) < api.MaxTests {
		ways = append(ways, append(slices.Clone(l), l[0]), append(slices.Clone(l), anything, isNull)[:min(len(l)+2, api.MaxTests)])
	}
	if nested := or(l...); trials.Wrong(nested) == api.OK {
		ways = append(ways, []api.Test{nested}, []api.Test{nested, nested}, []api.Test{not(l...)})
	}
	if nested := not(or(l...), anything); trials.Wrong(nested) == api.OK {
		ways = append(ways, []api.Test{nested})
	}
	for _, way := range ways {
		if got, err := points.Points(kind, way); err != api.OK || !reflect.DeepEqual(got, want) {
			t.Errorf("%s, %d: %s, %d comes, not %s", brief(way), kind, brief(got), err, brief(want))
		}
	}
}

// refuses checks what is wrong, of both calls, whatever the value is.
func refuses(t *testing.T, kind int, l []api.Test, want api.Errno) {
	t.Helper()
	if got, err := points.Points(kind, l); len(got) > 0 || err != want {
		t.Errorf("%s, %d: %s, %d comes, not %d", brief(l), kind, brief(got), err, want)
	}
	for _, v := range []api.Value{yes, num(1, 0), text("a"), null, none, num(10, 0), endlessList()} {
		if got, err := points.Like(kind, l, v); got != 0 || err != want {
			t.Errorf("%s, %d, %s: %d, %d comes, not %d", brief(l), kind, brief(v), got, err, want)
		}
	}
}

func TestI1Kinds(t *testing.T) {
	for _, kind := range []int{0, -1, api.TyNull, api.TyList, api.TyAny, 7, math.MinInt, math.MaxInt} {
		refuses(t, kind, nil, api.ErrKind)
		refuses(t, kind, []api.Test{anything}, api.ErrKind)
		// The kind comes ahead of all else.
		refuses(t, kind, make([]api.Test, api.MaxTests+1), api.ErrKind)
		refuses(t, kind, []api.Test{{Kind: api.TeOr}}, api.ErrKind)
		refuses(t, kind, []api.Test{isOne, isA}, api.ErrKind)
	}
}

func TestI1Many(t *testing.T) {
	for _, kind := range kinds() {
		refuses(t, kind, copies(anything, api.MaxTests+1), api.ErrMany)
		refuses(t, kind, make([]api.Test, api.MaxTests+1), api.ErrMany)
		refuses(t, kind, copies(endless(api.TeOr, 2), api.MaxTests+1), api.ErrMany)
		refuses(t, kind, append(copies(isOne, api.MaxTests), isA), api.ErrMany)
		refuses(t, kind, copies(anything, 10000), api.ErrMany)
	}
	has(t, api.TyNum, copies(isOne, api.MaxTests), numbers(0, 1, 2)...)
	has(t, api.TyText, copies(isA, api.MaxTests), texts("", "a", "a\x00")...)
	has(t, api.TyBool, copies(isTrue, api.MaxTests), no, yes)
}

func TestI1WrongTests(t *testing.T) {
	for _, c := range []struct {
		x    api.Test
		want api.Errno
	}{
		{api.Test{}, api.ErrKind},
		{api.Test{Kind: 10}, api.ErrKind},
		{or(), api.ErrMany},
		{not(copies(anything, api.MaxTests+1)...), api.ErrMany},
		{or(or(or(or(anything)))), api.ErrMuch},
		{endless(api.TeNot, 1), api.ErrMuch},
		{endless(api.TeOr, api.MaxTests), api.ErrMuch},
		{test(api.TeIs, none), api.ErrKind},
		{test(api.TeLt, num(10, 0)), api.ErrForm},
		{test(api.TeLt, num(1000000001, 0)), api.ErrRange},
		{test(api.TeGe, num(1, -7)), api.ErrRange},
		{test(api.TeIs, list()), api.ErrFit},
		{test(api.TeIs, endlessList()), api.ErrMuch},
		{test(api.TeLt, yes), api.ErrType},
		{test(api.TeLt, null), api.ErrType},
		{span(num(1, 0), text("a")), api.ErrType},
		{test(api.TeIs, text("\xff")), api.ErrForm},
		{test(api.TeGt, text(long(api.MaxText+1))), api.ErrMuch},
		{or(anything, not(test(api.TeIs, none))), api.ErrKind},
	} {
		for _, kind := range kinds() {
			refuses(t, kind, []api.Test{c.x}, c.want)
			refuses(t, kind, []api.Test{anything, isNull, c.x, anything}, c.want)
			refuses(t, kind, append(copies(anything, api.MaxTests-1), c.x), c.want)
			// One by one: what is told of the first one comes first.
			refuses(t, kind, []api.Test{c.x, {Kind: -5}, or()}, c.want)
			refuses(t, kind, []api.Test{or(), c.x}, api.ErrMany)
			refuses(t, kind, []api.Test{isOther(kind), c.x}, api.ErrType)
			refuses(t, kind, []api.Test{c.x, isOther(kind)}, c.want)
		}
		// A text without room behind it comes last.
		refuses(t, api.TyText, []api.Test{test(api.TeIs, text(long(api.MaxText))), c.x}, c.want)
	}
}

// isOther is a right test that fits another kind alone.
func isOther(kind int) api.Test {
	if kind == api.TyText {
		return isOne
	}
	return isA
}

func TestI1TestsThatDoNotFit(t *testing.T) {
	fitting := map[int][]api.Test{
		api.TyBool: {isTrue, test(api.TeIs, no), not(isTrue, isNull)},
		api.TyNum:  {isOne, test(api.TeLt, num(5, 0)), span(num(1, 0), num(2, 0)), or(isOne, anything)},
		api.TyText: {isA, test(api.TeGe, text("")), span(text("a"), text("b")), not(isNull, isA)},
	}
	for _, kind := range kinds() {
		for of, l := range fitting {
			for _, x := range l {
				if of == kind {
					if _, err := points.Points(kind, []api.Test{x, anything, isNull}); err != api.OK {
						t.Errorf("%s, %d: %d comes", brief(x), kind, err)
					}
					continue
				}
				refuses(t, kind, []api.Test{x}, api.ErrType)
				refuses(t, kind, []api.Test{fitting[kind][0], isNull, x}, api.ErrType)
				refuses(t, kind, []api.Test{or(fitting[kind][0], x)}, api.ErrType)
				refuses(t, kind, []api.Test{or(anything, not(anything, x))}, api.ErrType)
				refuses(t, kind, []api.Test{x, or()}, api.ErrType)
			}
		}
	}
	refuses(t, api.TyText, []api.Test{test(api.TeIs, text(long(api.MaxText))), isOne}, api.ErrType)
}

func TestI1Truths(t *testing.T) {
	for _, l := range [][]api.Test{nil, {}, {anything}, {isNull}, {isTrue}, {test(api.TeIs, no)}, {not(isTrue)}, {isTrue, isTrue, or(isNull, anything)}} {
		has(t, api.TyBool, l, no, yes)
	}
}

func TestI1WithoutEdges(t *testing.T) {
	for _, l := range [][]api.Test{nil, {}, {anything}, {isNull}, {anything, isNull}, {not(anything)}, {or(isNull, not(isNull, anything))}, copies(anything, api.MaxTests)} {
		has(t, api.TyNum, l, num(0, 0))
		has(t, api.TyText, l, text(""))
	}
}

func TestI1Numbers(t *testing.T) {
	// The document's example.
	has(t, api.TyNum, read(t, "< 5"), numbers(4, 5, 6)...)
	for _, s := range []string{"5", "< 5", "<= 5", "> 5", ">= 5", "[5..5]", "(5..5)", "not(5)", "5, > 5", "not([5..5), (5..5])"} {
		has(t, api.TyNum, read(t, s), numbers(4, 5, 6)...)
	}
	for _, s := range []string{"[1..3]", "(1..3)", "[3..1]", "(3..1]", "not([1..3))", "< 1, > 3", "3, 1, 3"} {
		has(t, api.TyNum, read(t, s), numbers(0, 1, 2, 3, 4)...)
	}
	for _, c := range []struct {
		l    []string
		want []api.Value
	}{
		{[]string{"0"}, numbers(-1, 0, 1)},
		{[]string{"-1"}, []api.Value{num(-2, 0), num(-1, 0), num(0, 0)}},
		{[]string{"1"}, []api.Value{num(0, 0), num(1, 0), num(2, 0)}},
		{[]string{"9"}, []api.Value{num(8, 0), num(9, 0), num(1, 1)}},
		{[]string{"11"}, []api.Value{num(1, 1), num(11, 0), num(12, 0)}},
		{[]string{"0.1"}, []api.Value{num(-9, -1), num(1, -1), num(11, -1)}},
		{[]string{"1", "2"}, []api.Value{num(0, 0), num(1, 0), num(15, -1), num(2, 0), num(3, 0)}},
		{[]string{"-1", "1"}, numbers(-2, -1, 0, 1, 2)},
		{[]string{"10", "9"}, []api.Value{num(8, 0), num(9, 0), num(95, -1), num(1, 1), num(11, 0)}},
		{[]string{"-5.5", "1000000000"}, []api.Value{num(-65, -1), num(-55, -1), num(49999999725, -2), num(1, 9), num(1000000001, 0)}},
		{[]string{"1", "[2..5)", "not(3)", "null", "-"}, []api.Value{num(0, 0), num(1, 0), num(15, -1), num(2, 0), num(25, -1), num(3, 0), num(4, 0), num(5, 0), num(6, 0)}},
		{[]string{"< 1.50", "1.5", "1"}, []api.Value{num(0, 0), num(1, 0), num(125, -2), num(15, -1), num(25, -1)}},
	} {
		has(t, api.TyNum, read(t, c.l...), c.want...)
	}
}

// The limits of numbers in tests: whatever lies between is told to the last digit.
func TestI1NumbersAtTheirLimits(t *testing.T) {
	for _, c := range []struct {
		l    []string
		want []api.Value
	}{
		{[]string{"1000000000"}, []api.Value{num(999999999, 0), num(1, 9), num(1000000001, 0)}},
		{[]string{"-1000000000"}, []api.Value{num(-1000000001, 0), num(-1, 9), num(-999999999, 0)}},
		{[]string{"[-1000000000..1000000000]"}, []api.Value{num(-1000000001, 0), num(-1, 9), num(0, 0), num(1, 9), num(1000000001, 0)}},
		{[]string{"0.000001"}, []api.Value{num(-999999, -6), num(1, -6), num(1000001, -6)}},
		{[]string{"0", "0.000001"}, []api.Value{num(-1, 0), num(0, 0), num(5, -7), num(1, -6), num(1000001, -6)}},
		{[]string{"999999999.999999", "1000000000"}, []api.Value{num(999999998999999, -6), num(999999999999999, -6), num(9999999999999995, -7), num(1, 9), num(1000000001, 0)}},
		{[]string{"-999999999.999999", "-999999999.999998"}, []api.Value{num(-1000000000999999, -6), num(-999999999999999, -6), num(-9999999999999985, -7), num(-999999999999998, -6), num(-999999998999998, -6)}},
		{[]string{"-1000000000", "0.000001"}, []api.Value{num(-1000000001, 0), num(-1, 9), num(-4999999999999995, -7), num(1, -6), num(1000001, -6)}},
	} {
		has(t, api.TyNum, read(t, c.l...), c.want...)
	}
}

func TestI1Texts(t *testing.T) {
	for _, s := range []string{`"a"`, `< "a"`, `<= "a"`, `> "a"`, `>= "a"`, `["a".."a"]`, `("a".."a")`, `not("a")`, `"a", "a"`} {
		has(t, api.TyText, read(t, s), texts("", "a", "a\x00")...)
	}
	for _, s := range []string{`["a".."b"]`, `["b".."a")`, `not("b", < "a")`} {
		has(t, api.TyText, read(t, s), texts("", "a", "a\x00", "b", "b\x00")...)
	}
	for _, c := range []struct {
		edges, want []string
	}{
		{[]string{""}, []string{"", "\x00"}},
		{[]string{"", "a"}, []string{"", "\x00", "a", "a\x00"}},
		{[]string{"\x00"}, []string{"", "\x00", "\x00\x00"}},
		{[]string{"", "\x00"}, []string{"", "\x00", "\x00\x00"}},
		{[]string{"", "\x00\x00"}, []string{"", "\x00", "\x00\x00", "\x00\x00\x00"}},
		{[]string{"a\x00", "a"}, []string{"", "a", "a\x00", "a\x00\x00"}},
		{[]string{"a\x00\x00", "a"}, []string{"", "a", "a\x00", "a\x00\x00", "a\x00\x00\x00"}},
		{[]string{"a\x01", "a"}, []string{"", "a", "a\x00", "a\x01", "a\x01\x00"}},
		{[]string{"é", "z", "Z", "ab", "a"}, []string{"", "Z", "Z\x00", "a", "a\x00", "ab", "ab\x00", "z", "z\x00", "é", "é\x00"}},
		{[]string{"10", "9"}, []string{"", "10", "10\x00", "9", "9\x00"}},
		{[]string{"\uffff", "\U00010000"}, []string{"", "\uffff", "\uffff\x00", "\U00010000", "\U00010000\x00"}},
	} {
		var l []api.Test
		for _, edge := range c.edges {
			l = append(l, test(api.TeLt, text(edge)))
		}
		has(t, api.TyText, l, texts(c.want...)...)
		has(t, api.TyText, append(l, anything, isNull), texts(c.want...)...)
	}
}

func TestI1TextsWithoutRoom(t *testing.T) {
	most := long(api.MaxText - 1)
	has(t, api.TyText, []api.Test{test(api.TeIs, text(most))}, texts("", most, most+"\x00")...)
	for _, s := range []string{long(api.MaxText), strings.Repeat("é", api.MaxText/2), strings.Repeat("\x00", api.MaxText)} {
		for _, x := range []api.Test{test(api.TeIs, text(s)), test(api.TeGt, text(s)), span(text("a"), text(s)), span(text(s), text("a")), not(isA, or(test(api.TeIs, text(s))))} {
			refuses(t, api.TyText, []api.Test{x}, api.ErrMuch)
			refuses(t, api.TyText, []api.Test{isA, anything, x, isNull}, api.ErrMuch)
		}
	}
	// Where kinds have no such field it is none.
	if got, err := points.Points(api.TyText, []api.Test{{Kind: api.TeAny, A: text(long(api.MaxText))}, {Kind: api.TeLt, A: text("a"), B: text(long(api.MaxText))}}); err != api.OK || len(got) != 3 {
		t.Errorf("%s, %d comes", brief(got), err)
	}
}

// All that may be there at once: as many tests as may be, as deep as may be, no two of the same value.
func TestI1AsMuchAsMayBe(t *testing.T) {
	n := int64(0)
	var full func(deep int) api.Test
	full = func(deep int) api.Test {
		if deep == api.MaxNesting {
			n += 2
			return api.Test{Kind: api.TeIn, A: api.Value{Kind: api.VNum, Num: api.Dec{Coef: 10*n + 1, Exp: -6}}, B: api.Value{Kind: api.VNum, Num: api.Dec{Coef: -10*n - 1, Exp: -6}}}
		}
		kids := make([]api.Test, api.MaxTests)
		for i := range kids {
			kids[i] = full(deep + 1)
		}
		return api.Test{Kind: api.TeNot, Kids: kids}
	}
	var l []api.Test
	for range api.MaxTests {
		l = append(l, full(1))
	}
	got, err := points.Points(api.TyNum, l)
	if err != api.OK || int64(len(got)) != 2*n+1 {
		t.Fatalf("%d points, %d comes, not %d", len(got), err, 2*n+1)
	}
	for i := 1; i < len(got); i++ {
		if !logic.Less(got[i-1], got[i]).Yes {
			t.Fatalf("%d is not more than what is ahead of it", i)
		}
	}
	if at, err := points.Like(api.TyNum, l, num(0, 0)); err != api.OK || int64(at) != n {
		t.Errorf("%d, %d comes, not %d", at, err, n)
	}
}

// like checks which of the points stands for v, also where other fields mean nothing.
func like(t *testing.T, kind int, l []api.Test, v api.Value, want int) {
	t.Helper()
	for _, v := range []api.Value{v, litteredValue(v)} {
		if got, err := points.Like(kind, l, v); err != api.OK || got != want {
			t.Errorf("%s, %d, %s: %d, %d comes, not %d", brief(l), kind, brief(v), got, err, want)
		}
	}
}

func TestI2WrongValues(t *testing.T) {
	fitting := map[int][]api.Test{api.TyBool: {isTrue}, api.TyNum: {isOne}, api.TyText: {isA}}
	right := map[int]api.Value{api.TyBool: yes, api.TyNum: num(1, 0), api.TyText: text("a")}
	refusesValue := func(kind int, v api.Value, want api.Errno) {
		t.Helper()
		for _, l := range [][]api.Test{nil, {}, {anything}, {isNull}, fitting[kind]} {
			if got, err := points.Like(kind, l, v); got != 0 || err != want {
				t.Errorf("%s, %d, %s: %d, %d comes, not %d", brief(l), kind, brief(v), got, err, want)
			}
		}
	}
	for _, kind := range kinds() {
		for _, c := range []struct {
			v    api.Value
			want api.Errno
		}{
			{none, api.ErrKind},
			{api.Value{Kind: 6}, api.ErrKind},
			{api.Value{Kind: -1}, api.ErrKind},
			{num(10, 0), api.ErrForm},
			{num(1, 41), api.ErrRange},
			{num(api.MaxCoef+1, 0), api.ErrRange},
			{text("a\xff"), api.ErrForm},
			{text(long(api.MaxText + 1)), api.ErrMuch},
			// What is wrong comes ahead of what kind it is.
			{list(none), api.ErrKind},
			{list(num(10, 0)), api.ErrForm},
			{api.Value{Kind: api.VList, List: make([]api.Value, api.MaxList+1)}, api.ErrMany},
			{endlessList(), api.ErrMuch},
			{null, api.ErrType},
			{list(), api.ErrType},
			{list(right[kind]), api.ErrType},
		} {
			refusesValue(kind, c.v, c.want)
		}
		for of, v := range right {
			if of != kind {
				refusesValue(kind, v, api.ErrType)
			}
		}
	}
}

func TestI2Truths(t *testing.T) {
	for _, l := range [][]api.Test{nil, {anything}, {isTrue}, {not(isTrue)}, {test(api.TeIs, no), isNull}} {
		like(t, api.TyBool, l, no, 0)
		like(t, api.TyBool, l, yes, 1)
	}
}

func TestI2Numbers(t *testing.T) {
	for _, v := range []api.Value{num(0, 0), num(1, 0), num(-1, 0), num(api.MaxCoef, api.MaxExp), num(-api.MaxCoef, api.MaxExp), num(1, -api.MaxExp)} {
		like(t, api.TyNum, nil, v, 0)
		like(t, api.TyNum, []api.Test{anything, isNull}, v, 0)
	}
	five := read(t, "< 5")
	// 4, 5, 6
	for _, v := range []api.Value{num(4, 0), num(3, 0), num(0, 0), num(-1, 2), num(499999, -5), num(4999999, -6), num(49999999999999999, -16), num(-api.MaxCoef, api.MaxExp), num(1, -api.MaxExp)} {
		like(t, api.TyNum, five, v, 0)
	}
	like(t, api.TyNum, five, num(5, 0), 1)
	for _, v := range []api.Value{num(6, 0), num(7, 0), num(5000001, -6), num(500000000000000001, -17), num(1, 1), num(1, 40)} {
		like(t, api.TyNum, five, v, 2)
	}
	some := read(t, "[2..5)", "not(3)", "-1.5")
	// -2.5, -1.5, 0.25, 2, 2.5, 3, 4, 5, 6
	for _, c := range []struct {
		v    api.Value
		want int
	}{
		{num(-1, 40), 0}, {num(-25, -1), 0}, {num(-2, 0), 0}, {num(-15000001, -7), 0},
		{num(-15, -1), 1},
		{num(-14999999, -7), 2}, {num(-1, -40), 2}, {num(0, 0), 2}, {num(25, -2), 2}, {num(1, 0), 2}, {num(19999999, -7), 2},
		{num(2, 0), 3},
		{num(20000001, -7), 4}, {num(25, -1), 4}, {num(26, -1), 4}, {num(29999999, -7), 4},
		{num(3, 0), 5},
		{num(31, -1), 6}, {num(4, 0), 6}, {num(49, -1), 6},
		{num(5, 0), 7},
		{num(51, -1), 8}, {num(6, 0), 8}, {num(1, 40), 8},
	} {
		like(t, api.TyNum, some, c.v, c.want)
	}
	edge := read(t, "-1000000000", "1000000000")
	for i, v := range []api.Value{num(-1000000000000001, -6), num(-1, 9), num(-999999999999999, -6), num(1, 9), num(1000000000000001, -6)} {
		like(t, api.TyNum, edge, v, i)
	}
}

func TestI2Texts(t *testing.T) {
	for _, s := range []string{"", "\x00", "a", "\U0010ffff", long(api.MaxText)} {
		like(t, api.TyText, nil, text(s), 0)
		like(t, api.TyText, []api.Test{anything, isNull}, text(s), 0)
	}
	l := []api.Test{isA, test(api.TeGt, text("b")), not(test(api.TeIs, text("")))}
	// "", "\x00", "a", "a\x00", "b", "b\x00"
	for _, c := range []struct {
		s    string
		want int
	}{
		{"", 0}, {"\x00", 1}, {"\x00\x00", 1}, {"A", 1}, {"`zzz", 1}, {"`" + long(api.MaxText-1), 1},
		{"a", 2}, {"a\x00", 3}, {"a\x00\x00", 3}, {"a\x01", 3}, {"aa", 3}, {"a\U0010ffff", 3}, {long(api.MaxText), 3},
		{"b", 4}, {"b\x00", 5}, {"ba", 5}, {"c", 5}, {"é", 5}, {"\U0010ffff", 5},
	} {
		like(t, api.TyText, l, text(c.s), c.want)
	}
	most := long(api.MaxText - 1)
	for s, want := range map[string]int{long(api.MaxText - 2): 0, most: 1, most + "\x00": 2, most + "a": 2, "b": 2, "": 0} {
		like(t, api.TyText, []api.Test{test(api.TeIs, text(most))}, text(s), want)
	}
}

// The calls only read, and spare room is neither changed nor looked at.
func TestI1I2OnlyRead(t *testing.T) {
	fill := func() []api.Test {
		return []api.Test{isA, span(text("c"), text("b")), not(isA, isNull), {Kind: 99}, {Kind: api.TeIs, A: text("spare")}}
	}
	room, kept := fill(), fill()
	kids := []api.Test{isA, {Kind: api.TeIs, A: text("spare")}}
	room[2].Kids, kept[2].Kids = kids[:1], kids[:1]
	l := room[:3]
	if got, err := points.Points(api.TyText, l); err != api.OK || !reflect.DeepEqual(got, texts("", "a", "a\x00", "b", "b\x00", "c", "c\x00")) {
		t.Errorf("%+v, %d comes", got, err)
	}
	like(t, api.TyText, l, text("spare"), 6)
	if !reflect.DeepEqual(room, kept) || !reflect.DeepEqual(kids, []api.Test{isA, test(api.TeIs, text("spare"))}) {
		t.Errorf("%+v is left", room)
	}
}

// What is answered is the caller's: no later call sees what becomes of it, and nothing of what was handed in is in it.
func TestI1AnswersAreNewMemory(t *testing.T) {
	edge := strings.Repeat("edge", 3)
	asked := map[int][]api.Test{api.TyBool: {isTrue}, api.TyNum: {isOne}, api.TyText: {test(api.TeIs, text(edge))}}
	for kind, l := range asked {
		for _, l := range [][]api.Test{nil, l} {
			want, _ := points.Points(kind, l)
			got, _ := points.Points(kind, l)
			got = got[:cap(got)]
			for i := range got {
				got[i] = api.Value{Kind: 77}
			}
			if again, err := points.Points(kind, l); err != api.OK || !reflect.DeepEqual(again, want) {
				t.Errorf("%+v, %d comes, not %+v", again, err, want)
			}
		}
	}
	got, _ := points.Points(api.TyText, asked[api.TyText])
	for _, v := range got {
		if v.Text != "" && unsafe.StringData(v.Text) == unsafe.StringData(edge) {
			t.Errorf("%q lies in what was handed in", v.Text)
		}
	}
}

func TestI1I2AtOnce(t *testing.T) {
	l := read(t, "1", "[2..5)", "not(3)")
	want, _ := points.Points(api.TyNum, l)
	var wait sync.WaitGroup
	for range 8 {
		wait.Go(func() {
			for range 200 {
				if got, err := points.Points(api.TyNum, l); err != api.OK || !reflect.DeepEqual(got, want) {
					t.Errorf("%+v, %d comes", got, err)
				}
				like(t, api.TyNum, l, num(25, -1), 4)
			}
		})
	}
	wait.Wait()
}
