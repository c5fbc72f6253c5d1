package trials_test

import (
	"fmt"
	"math"
	"reflect"
	"slices"
	"strings"
	"sync"
	"testing"

	"verdict/api"
	"verdict/trials"
)

var (
	yes  = api.Value{Kind: api.VBool, Yes: true}
	no   = api.Value{Kind: api.VBool}
	null = api.Value{Kind: api.VNull}
	none = api.Value{}

	one      = num(1, 0)
	two      = num(2, 0)
	five     = num(5, 0)
	isOne    = test(api.TeIs, one)
	anything = api.Test{Kind: api.TeAny}
)

func num(coef int64, exp int) api.Value {
	return api.Value{Kind: api.VNum, Num: api.Dec{Coef: coef, Exp: exp}}
}

func text(s string) api.Value { return api.Value{Kind: api.VText, Text: s} }

func list(l ...api.Value) api.Value { return api.Value{Kind: api.VList, List: l} }

func test(kind int, a api.Value) api.Test { return api.Test{Kind: kind, A: a} }

func span(a, b api.Value, openA, openB bool) api.Test {
	return api.Test{Kind: api.TeIn, A: a, B: b, OpenA: openA, OpenB: openB}
}

func or(kids ...api.Test) api.Test { return api.Test{Kind: api.TeOr, Kids: kids} }

func not(kids ...api.Test) api.Test { return api.Test{Kind: api.TeNot, Kids: kids} }

func copies(t api.Test, n int) []api.Test {
	l := make([]api.Test, n)
	for i := range l {
		l[i] = t
	}
	return l
}

// bounds are the kinds of tests that ask whether something is less or more.
func bounds() []int { return []int{api.TeLt, api.TeLe, api.TeGt, api.TeGe} }

// wrap nests t in that many tests of the kind.
func wrap(kind int, t api.Test, times int) api.Test {
	for range times {
		t = api.Test{Kind: kind, Kids: []api.Test{t}}
	}
	return t
}

// deep is how deep t is nested.
func deep(t api.Test) int {
	below := 0
	for _, kid := range t.Kids {
		below = max(below, deep(kid))
	}
	return below + 1
}

// within is those of the tests that are not nested too deep.
func within(l ...api.Test) []api.Test {
	return slices.DeleteFunc(l, func(t api.Test) bool { return deep(t) > api.MaxNesting })
}

// brief tells of something that may be long.
func brief(x any) string {
	s := fmt.Sprintf("%+v", x)
	return s[:min(len(s), 300)]
}

// endless is a test that is its own kid, n times.
func endless(kind, n int) api.Test {
	kids := make([]api.Test, n)
	for i := range kids {
		kids[i] = api.Test{Kind: kind, Kids: kids}
	}
	return kids[0]
}

// endlessList holds itself.
func endlessList(n int) api.Value {
	l := make([]api.Value, n)
	for i := range l {
		l[i] = api.Value{Kind: api.VList, List: l}
	}
	return l[0]
}

// litteredValue has something in all fields that its kind has not.
func litteredValue(v api.Value) api.Value {
	l := api.Value{Kind: v.Kind, Yes: true, Num: api.Dec{Coef: 10, Exp: 99}, Text: "\xff", List: make([]api.Value, 300)}
	switch v.Kind {
	case api.VBool:
		l.Yes = v.Yes
	case api.VNum:
		l.Num = v.Num
	case api.VText:
		l.Text = v.Text
	case api.VList:
		l.List = v.List
	}
	return l
}

// littered has something in all fields that its kind has not.
func littered(t api.Test) api.Test {
	l := api.Test{Kind: t.Kind, A: endlessList(2), B: none, OpenA: true, OpenB: true, Kids: make([]api.Test, 30)}
	switch t.Kind {
	case api.TeIs, api.TeLt, api.TeLe, api.TeGt, api.TeGe:
		l.A = litteredValue(t.A)
	case api.TeIn:
		l.A, l.B, l.OpenA, l.OpenB = litteredValue(t.A), litteredValue(t.B), t.OpenA, t.OpenB
	case api.TeOr, api.TeNot:
		l.Kids = nil
		for _, kid := range t.Kids {
			l.Kids = append(l.Kids, littered(kid))
		}
	}
	return l
}

// refuses checks that something is wrong with a test, and that each call that tells what is wrong tells it.
func refuses(t *testing.T, what string, x api.Test, want api.Errno) {
	t.Helper()
	if got := trials.Wrong(x); got != want {
		t.Errorf("%s: %d comes, not %d", what, got, want)
	}
	if got, err := trials.Print(x); got != "" || err != want {
		t.Errorf("%s: Print tells %q, %d, not %d", what, got, err, want)
	}
	for _, v := range []api.Value{one, none} {
		if got, err := trials.Does(x, v); !reflect.DeepEqual(got, none) || err != want {
			t.Errorf("%s: Does tells %+v, %d, not %d", what, got, err, want)
		}
	}
	trials.Fits(x, api.Type{Kind: api.TyAny})
}

// isRight checks that nothing is wrong with a test, nor with it as a kid that stands beside others.
func isRight(t *testing.T, what string, x api.Test) {
	t.Helper()
	for _, x := range []api.Test{x, littered(x)} {
		if got := trials.Wrong(x); got != api.OK {
			t.Errorf("%s: %d comes", what, got)
		}
		if _, err := trials.Does(x, one); err != api.OK {
			t.Errorf("%s: Does tells %d", what, err)
		}
	}
}

func TestH1Kinds(t *testing.T) {
	for _, kind := range []int{0, -1, 10, 11, math.MinInt, math.MaxInt} {
		x := api.Test{Kind: kind, A: one, B: two, Kids: []api.Test{isOne}}
		refuses(t, "no kind", x, api.ErrKind)
		refuses(t, "a kid of no kind", or(isOne, x), api.ErrKind)
		refuses(t, "a kid of no kind", not(x), api.ErrKind)
	}
	isRight(t, "anything", anything)
	isRight(t, "or", or(isOne, anything))
	isRight(t, "not", not(isOne, anything))
	isRight(t, "in", span(one, two, true, false))
	for kind := api.TeIs; kind <= api.TeGe; kind++ {
		isRight(t, "a number", test(kind, one))
		isRight(t, "a text", test(kind, text("a")))
	}
	for _, v := range []api.Value{null, yes, no} {
		isRight(t, "is", test(api.TeIs, v))
	}
}

func TestH1Nesting(t *testing.T) {
	for _, kind := range []int{api.TeOr, api.TeNot} {
		for deep := range api.MaxNesting {
			isRight(t, "nested", wrap(kind, isOne, deep))
		}
		for _, deep := range []int{api.MaxNesting, api.MaxNesting + 1, 50} {
			refuses(t, "too deep", wrap(kind, isOne, deep), api.ErrMuch)
		}
		// What is too deep is not looked at, whatever it is.
		refuses(t, "too deep, and no kind", wrap(kind, api.Test{}, api.MaxNesting), api.ErrMuch)
		refuses(t, "too deep, and no kids", wrap(kind, or(), api.MaxNesting), api.ErrMuch)
		refuses(t, "no kids as deep as may be", wrap(kind, or(), api.MaxNesting-1), api.ErrMany)
		for _, n := range []int{1, 2, api.MaxTests} {
			refuses(t, "its own kid", endless(kind, n), api.ErrMuch)
		}
		refuses(t, "its own kid too often", endless(kind, api.MaxTests+1), api.ErrMany)
	}
	// All that may be there at once.
	full := isOne
	for range api.MaxNesting - 1 {
		full = not(copies(full, api.MaxTests)...)
	}
	isRight(t, "full", full)
}

func TestH1Kids(t *testing.T) {
	for _, kind := range []int{api.TeOr, api.TeNot} {
		for _, n := range []int{1, 2, api.MaxTests} {
			isRight(t, "kids", api.Test{Kind: kind, Kids: copies(isOne, n)})
		}
		refuses(t, "nil", api.Test{Kind: kind}, api.ErrMany)
		refuses(t, "empty", api.Test{Kind: kind, Kids: []api.Test{}}, api.ErrMany)
		refuses(t, "no kids, but A", api.Test{Kind: kind, A: one, B: two}, api.ErrMany)
		refuses(t, "too many", api.Test{Kind: kind, Kids: copies(isOne, api.MaxTests+1)}, api.ErrMany)
		refuses(t, "too many, of no kind", api.Test{Kind: kind, Kids: make([]api.Test, api.MaxTests+1)}, api.ErrMany)
		refuses(t, "the last one", api.Test{Kind: kind, Kids: append(copies(isOne, api.MaxTests-1), api.Test{})}, api.ErrKind)
		// One by one, each with all that is in it.
		deep := wrap(kind, isOne, api.MaxNesting-1)
		refuses(t, "too deep first", or(deep, api.Test{}), api.ErrMuch)
		refuses(t, "no kind first", or(api.Test{}, deep), api.ErrKind)
		refuses(t, "in the first one", or(not(isOne, test(api.TeLt, yes)), or()), api.ErrType)
		refuses(t, "the second one", or(not(isOne, isOne), or(), test(api.TeLt, yes)), api.ErrMany)
	}
}

// wrongValues are values that may stand in no test, each with what is wrong.
func wrongValues() []struct {
	v    api.Value
	want api.Errno
} {
	nested := null
	for range api.MaxDepth {
		nested = list(nested)
	}
	return []struct {
		v    api.Value
		want api.Errno
	}{
		{none, api.ErrKind},
		{api.Value{Kind: 6}, api.ErrKind},
		{api.Value{Kind: -1}, api.ErrKind},
		{num(10, 0), api.ErrForm},
		{num(0, 1), api.ErrForm},
		{num(api.MaxCoef+1, 0), api.ErrRange},
		{num(math.MinInt64, math.MinInt), api.ErrRange},
		{num(1, api.MaxExp+1), api.ErrRange},
		{num(1, -api.MaxExp-1), api.ErrRange},
		{text(strings.Repeat("a", api.MaxText+1)), api.ErrMuch},
		{text(strings.Repeat("\xff", api.MaxText+1)), api.ErrMuch},
		{text("a\xff"), api.ErrForm},
		{list(), api.ErrFit},
		{list(one), api.ErrFit},
		{list(list(), text("a")), api.ErrFit},
		{list(none), api.ErrKind},
		{list(one, num(10, 0)), api.ErrForm},
		{list(num(1, 30)), api.ErrFit},
		{nested, api.ErrMuch},
		{endlessList(1), api.ErrMuch},
		{endlessList(api.MaxList), api.ErrMuch},
		{endlessList(api.MaxList + 1), api.ErrMany},
		{num(1, 10), api.ErrRange},
		{num(1000000001, 0), api.ErrRange},
		{num(-1000000001, 0), api.ErrRange},
		{num(1000000000000001, -6), api.ErrRange},
		{num(-1000000000000001, -6), api.ErrRange},
		{num(11, 8), api.ErrRange},
		{num(-2, 9), api.ErrRange},
		{num(api.MaxCoef, api.MaxExp), api.ErrRange},
		{num(1, -7), api.ErrRange},
		{num(-1, -7), api.ErrRange},
		{num(12345678, -7), api.ErrRange},
		{num(1, -40), api.ErrRange},
	}
}

// rightValues may stand in each test; A and B of one that has both are of one kind.
func rightValues() []api.Value {
	return []api.Value{
		num(0, 0), one, num(-1, 0), num(1, 9), num(-1, 9), num(999999999999999, -6), num(-999999999999999, -6), num(999999999, 0), num(9, 8), num(1, -6), num(-1, -6), num(123456789, -6),
		text(""), text("a"), text("é\n\"\\"), text(strings.Repeat("a", api.MaxText)), text("\x00"), text("\ufffd"),
	}
}

// The numbers of wrongValues and rightValues are told with noughts taken away.
func TestH1MaxNumber(t *testing.T) {
	if api.MaxNumber != 1e9 || api.MaxPlaces != 6 {
		t.Error("the tests know other limits")
	}
}

func TestH1Values(t *testing.T) {
	for kind := api.TeIs; kind <= api.TeGe; kind++ {
		for _, c := range wrongValues() {
			refuses(t, "A", test(kind, c.v), c.want)
			refuses(t, "a kid's A", or(isOne, not(test(kind, c.v))), c.want)
		}
		for _, v := range rightValues() {
			isRight(t, "A", test(kind, v))
		}
	}
	for _, a := range wrongValues() {
		refuses(t, "A of two", span(a.v, one, false, false), a.want)
		refuses(t, "B of two", span(one, a.v, false, false), a.want)
		refuses(t, "B beside a text", span(text("a"), a.v, true, true), a.want)
		// What is wrong with B comes ahead of what A may be.
		refuses(t, "B beside null", span(null, a.v, false, false), a.want)
		for _, b := range wrongValues() {
			refuses(t, "A ahead of B", span(a.v, b.v, false, false), a.want)
		}
	}
	for _, a := range rightValues() {
		for _, b := range rightValues() {
			x := span(a, b, true, false)
			if a.Kind == b.Kind {
				isRight(t, "A and B", x)
			} else {
				refuses(t, "of two kinds", x, api.ErrType)
			}
		}
	}
}

func TestH1Types(t *testing.T) {
	for _, v := range []api.Value{null, yes, no} {
		for _, kind := range bounds() {
			refuses(t, "no number, no text", test(kind, v), api.ErrType)
		}
		for _, w := range []api.Value{null, yes, no, one, text("a")} {
			refuses(t, "A of two", span(v, w, false, true), api.ErrType)
			refuses(t, "B of two", span(w, v, false, true), api.ErrType)
		}
	}
}

// does checks what a test says of a value, also where other fields mean nothing.
func does(t *testing.T, x api.Test, v, want api.Value) {
	t.Helper()
	for _, x := range append(within(or(x), or(or(x)), or(x, x), not(not(x))), x, littered(x)) {
		for _, v := range []api.Value{v, litteredValue(v)} {
			if got, err := trials.Does(x, v); err != api.OK || !reflect.DeepEqual(got, want) {
				t.Errorf("%s of %s: %s, %d comes, not %s", brief(x), brief(v), brief(got), err, brief(want))
			}
		}
	}
}

func TestH2Any(t *testing.T) {
	for _, v := range []api.Value{null, yes, no, one, text(""), list(), list(null)} {
		does(t, anything, v, yes)
		does(t, not(anything), v, no)
	}
}

func TestH2Is(t *testing.T) {
	values := []api.Value{null, yes, no, one, two, num(1, -1), text("a"), text("b")}
	for i, a := range values {
		for j, v := range values {
			want := no
			switch {
			case i == j:
				want = yes
			case a.Kind != v.Kind && a.Kind != api.VNull && v.Kind != api.VNull:
				want = null
			}
			does(t, test(api.TeIs, a), v, want)
		}
	}
	does(t, test(api.TeIs, null), list(), no)
	does(t, isOne, list(one), null)
}

func TestH2LessAndMore(t *testing.T) {
	rising := [][]api.Value{
		{num(-1, 9), num(-35, -1), num(-1, -6), num(0, 0), num(1, -6), num(9, -1), one, num(9, 0), num(1, 1), num(1, 9)},
		{text(""), text("A"), text("a"), text("a\x00"), text("aa"), text("b"), text("é")},
	}
	is := func(yes bool) api.Value { return api.Value{Kind: api.VBool, Yes: yes} }
	for _, row := range rising {
		for i, a := range row {
			for j, v := range row {
				does(t, test(api.TeLt, a), v, is(j < i))
				does(t, test(api.TeLe, a), v, is(j <= i))
				does(t, test(api.TeGt, a), v, is(j > i))
				does(t, test(api.TeGe, a), v, is(j >= i))
			}
			for _, v := range []api.Value{null, yes, no, list(), list(a)} {
				for _, kind := range bounds() {
					does(t, test(kind, a), v, null)
				}
			}
		}
	}
	for _, kind := range bounds() {
		does(t, test(kind, one), text("a"), null)
		does(t, test(kind, text("a")), one, null)
	}
	// Values may have what numbers in tests may not.
	does(t, test(api.TeLt, num(1, 9)), num(1, 40), no)
	does(t, test(api.TeGt, num(0, 0)), num(1, -40), yes)
}

func TestH2In(t *testing.T) {
	for _, c := range []struct {
		x    api.Test
		v    api.Value
		want api.Value
	}{
		{span(one, five, false, false), one, yes},
		{span(one, five, false, false), five, yes},
		{span(one, five, false, true), one, yes},
		// The document's example.
		{span(one, five, false, true), five, no},
		{span(one, five, true, false), one, no},
		{span(one, five, true, false), five, yes},
		{span(one, five, true, true), one, no},
		{span(one, five, true, true), five, no},
		{span(one, five, true, true), two, yes},
		{span(one, five, true, true), num(1000001, -6), yes},
		{span(one, five, false, false), num(0, 0), no},
		{span(one, five, false, false), num(6, 0), no},
		{span(one, one, false, false), one, yes},
		{span(one, one, false, true), one, no},
		{span(one, one, true, false), one, no},
		{span(five, one, false, false), two, no},
		{span(five, one, false, false), one, no},
		{span(five, one, false, false), five, no},
		{span(text("a"), text("c"), true, false), text("a"), no},
		{span(text("a"), text("c"), true, false), text("a\x00"), yes},
		{span(text("a"), text("c"), true, false), text("c"), yes},
		{span(text("a"), text("c"), true, false), text("ca"), no},
		{span(one, five, false, false), null, null},
		{span(one, five, false, false), yes, null},
		{span(one, five, false, false), text("b"), null},
		{span(one, five, false, false), list(two), null},
		{span(text("a"), text("c"), false, false), two, null},
	} {
		does(t, c.x, c.v, c.want)
	}
}

func TestH2OrAndNot(t *testing.T) {
	isA, isNull, moreThanTwo := test(api.TeIs, text("a")), test(api.TeIs, null), test(api.TeGt, two)
	for _, c := range []struct {
		kids []api.Test
		v    api.Value
		want api.Value
	}{
		{[]api.Test{isOne}, one, yes},
		{[]api.Test{isOne}, two, no},
		{[]api.Test{isOne}, text("a"), null},
		{[]api.Test{isOne, moreThanTwo}, one, yes},
		{[]api.Test{isOne, moreThanTwo}, five, yes},
		{[]api.Test{isOne, moreThanTwo}, two, no},
		// What is not known does not hide what is true, wherever it stands.
		{[]api.Test{isOne, isA}, text("a"), yes},
		{[]api.Test{isA, isOne}, text("a"), yes},
		{[]api.Test{isA, isOne, isOne}, one, yes},
		{[]api.Test{isA, isOne}, two, null},
		{[]api.Test{isOne, isA}, two, null},
		{[]api.Test{isOne, isNull}, null, yes},
		{[]api.Test{isOne, isNull}, yes, null},
		{[]api.Test{isOne, isA}, null, no},
		{[]api.Test{moreThanTwo, isNull}, null, yes},
		{[]api.Test{moreThanTwo, isOne}, null, null},
		{[]api.Test{isA, anything}, two, yes},
		{[]api.Test{not(isOne), isOne}, two, yes},
		{[]api.Test{not(isOne), not(anything)}, one, no},
		{copies(isOne, api.MaxTests), two, no},
		{append(copies(isOne, api.MaxTests-1), test(api.TeIs, two)), two, yes},
	} {
		does(t, or(c.kids...), c.v, c.want)
		opposite := map[bool]api.Value{true: no, false: yes}[c.want.Yes]
		if c.want.Kind == api.VNull {
			opposite = null
		}
		does(t, not(c.kids...), c.v, opposite)
	}
}

func TestH2WrongValues(t *testing.T) {
	for _, c := range []struct {
		v    api.Value
		want api.Errno
	}{
		{none, api.ErrKind},
		{num(10, 0), api.ErrForm},
		{num(1, 41), api.ErrRange},
		{text("\xff"), api.ErrForm},
		{text(strings.Repeat("a", api.MaxText+1)), api.ErrMuch},
		{list(one, none), api.ErrKind},
		{endlessList(2), api.ErrMuch},
		{endlessList(api.MaxList + 1), api.ErrMany},
	} {
		for _, x := range []api.Test{anything, isOne, or(isOne, anything), not(isOne), span(one, two, true, true)} {
			if got, err := trials.Does(x, c.v); !reflect.DeepEqual(got, none) || err != c.want {
				t.Errorf("%+v: %+v, %d comes, not %d", c.v, got, err, c.want)
			}
		}
	}
	// What is wrong with the test comes first: refuses looks at it, too.
	if _, err := trials.Does(or(), text("\xff")); err != api.ErrMany {
		t.Errorf("%d comes", err)
	}
}

func TestH2Fits(t *testing.T) {
	typeOf := map[int]int{api.VBool: api.TyBool, api.VNum: api.TyNum, api.VText: api.TyText}
	types := []int{api.TyNull, api.TyBool, api.TyNum, api.TyText, api.TyList, api.TyAny}
	fits := func(x api.Test, typ int, want bool) {
		t.Helper()
		for _, x := range append(within(or(x), not(x), not(or(anything, x)), or(anything, x), or(x, test(api.TeIs, null), x)), x, littered(x)) {
			for _, elem := range [][]api.Type{nil, {{Kind: api.TyNum}}, {{}, {}}} {
				if got := trials.Fits(x, api.Type{Kind: typ, Elem: elem}); got != want {
					t.Errorf("%s, %d: %v comes", brief(x), typ, got)
				}
			}
		}
	}
	for _, typ := range append(types, 0, -1, 7) {
		fits(anything, typ, true)
		fits(test(api.TeIs, null), typ, true)
		for _, a := range []api.Value{yes, no, one, text("a")} {
			want := typ == api.TyAny || typ == typeOf[a.Kind]
			fits(test(api.TeIs, a), typ, want)
			if a.Kind != api.VBool {
				fits(span(a, a, true, false), typ, want)
				for _, kind := range bounds() {
					fits(test(kind, a), typ, want)
				}
			}
		}
		isA := test(api.TeIs, text("a"))
		for _, x := range []api.Test{or(isOne, isA), or(isA, isOne), not(isOne, isA), not(isA, anything, isOne), or(not(isOne), isA), not(or(anything, isA), isOne)} {
			fits(x, typ, typ == api.TyAny)
		}
	}
}

// Of what is wrong nothing is promised, but that the call ends.
func TestH2FitsOfWhatIsWrongEnds(t *testing.T) {
	for _, x := range []api.Test{{}, endless(api.TeOr, 2), endless(api.TeNot, api.MaxTests), endless(api.TeOr, 1000), test(api.TeIs, endlessList(3)), wrap(api.TeNot, isOne, 10000)} {
		trials.Fits(x, api.Type{Kind: api.TyNum})
	}
}

func reads(t *testing.T, s string, want api.Test) {
	t.Helper()
	if got, fault := trials.Read(s); fault != (api.Fault{}) || !reflect.DeepEqual(got, want) {
		t.Errorf("%q: %+v, %+v comes, not %+v", s, got, fault, want)
	}
}

func faults(t *testing.T, s string, err api.Errno, at int) {
	t.Helper()
	got, fault := trials.Read(s)
	if fault != (api.Fault{Err: err, At: at}) || !reflect.DeepEqual(got, api.Test{}) {
		t.Errorf("%q: %+v, %+v comes, not %d at %d", s, got, fault, err, at)
	}
}

func TestH3Values(t *testing.T) {
	for _, c := range []struct {
		s string
		v api.Value
	}{
		{"5", five},
		{"5.10", num(51, -1)},
		{"0", num(0, 0)},
		{"-0", num(0, 0)},
		{"-5", num(-5, 0)},
		{"- 5", num(-5, 0)},
		{"-\n\t5.5 ", num(-55, -1)},
		{"1000000000", num(1, 9)},
		{"-1000000000", num(-1, 9)},
		{"0.000001", num(1, -6)},
		{"-0.000001", num(-1, -6)},
		{"999999999.999999", num(999999999999999, -6)},
		{`"a"`, text("a")},
		{`""`, text("")},
		{`"-"`, text("-")},
		{`"not"`, text("not")},
		{`"a\n\"\\b, é"`, text("a\n\"\\b, é")},
		{"null", null},
		{"true", yes},
		{"false", no},
	} {
		reads(t, c.s, test(api.TeIs, c.v))
		reads(t, " "+c.s+"\n", test(api.TeIs, c.v))
		reads(t, c.s+", 1", or(test(api.TeIs, c.v), isOne))
		reads(t, "not("+c.s+")", not(test(api.TeIs, c.v)))
		if c.v.Kind != api.VNum && c.v.Kind != api.VText {
			faults(t, "< "+c.s, api.ErrType, 0)
			faults(t, "1, ["+c.s+"..1]", api.ErrType, 0)
			continue
		}
		reads(t, "<"+c.s, test(api.TeLt, c.v))
		reads(t, "<= "+c.s, test(api.TeLe, c.v))
		reads(t, ">  "+c.s, test(api.TeGt, c.v))
		reads(t, ">="+c.s, test(api.TeGe, c.v))
		reads(t, "["+c.s+".."+c.s+"]", span(c.v, c.v, false, false))
		reads(t, "("+c.s+" .. "+c.s+"]", span(c.v, c.v, true, false))
		reads(t, "[ "+c.s+".. "+c.s+")", span(c.v, c.v, false, true))
		reads(t, "( "+c.s+" .."+c.s+" )", span(c.v, c.v, true, true))
	}
}

func TestH3Any(t *testing.T) {
	for _, s := range []string{"-", " -", "-\n", "\t- "} {
		reads(t, s, anything)
	}
	faults(t, "--", api.ErrForm, 1)
	faults(t, "- -", api.ErrForm, 2)
	faults(t, "-, 1", api.ErrForm, 1)
	faults(t, "1, -", api.ErrForm, 4)
	faults(t, "not(-)", api.ErrForm, 5)
	faults(t, "not -", api.ErrForm, 0)
	faults(t, "(-)", api.ErrForm, 2)
}

func TestH3Lists(t *testing.T) {
	three := test(api.TeIs, num(3, 0))
	reads(t, "1, 3", or(isOne, three))
	reads(t, "1,3,1", or(isOne, three, isOne))
	reads(t, "1, [1..2), > 5, \"a\", null", or(isOne, span(one, two, false, true), test(api.TeGt, five), test(api.TeIs, text("a")), test(api.TeIs, null)))
	reads(t, "not(1)", not(isOne))
	reads(t, "not ( 1,3 ) ", not(isOne, three))
	reads(t, "not((1..2))", not(span(one, two, true, true)))
	reads(t, "not([1..2), < 5)", not(span(one, two, false, true), test(api.TeLt, five)))
	reads(t, "1, 1", or(isOne, isOne))
	// What can't be is a test, too.
	reads(t, "[5..1]", span(five, one, false, false))
}

func TestH3Tokens(t *testing.T) {
	faults(t, strings.Repeat(" ", api.MaxSource)+"1", api.ErrMuch, 0)
	reads(t, strings.Repeat(" ", api.MaxSource-1)+"1", isOne)
	faults(t, "1 \xff", api.ErrForm, 2)
	faults(t, "x #", api.ErrForm, 2)
	faults(t, "x 1, \"a", api.ErrForm, 7)
	faults(t, "[1...5]", api.ErrForm, 4)
	faults(t, "x "+strings.Repeat("1", api.MaxDigits+1), api.ErrMuch, 2)
}

func TestH3Form(t *testing.T) {
	for _, c := range []struct {
		s  string
		at int
	}{
		{"", 0}, {"  ", 2}, {"\n", 1},
		{"x", 0}, {"Null", 0}, {"nulls", 0}, {"_", 0}, {"if", 0},
		{"=", 0}, {"!= 1", 0}, {"= 1", 0}, {"+1", 0}, {"*", 0}, {"/", 0}, {"..", 0}, {",", 0}, {")", 0}, {"]", 0}, {"..1", 0},
		{"5 5", 2}, {"5 x", 2}, {"5 -", 2}, {"5 <", 2}, {"1..5", 1}, {"5)", 1}, {"5]", 1}, {"1 + 2", 2}, {"1 - 2", 2}, {"5 not(1)", 2},
		{"1,", 2}, {"1, ", 3}, {"1,,2", 2}, {", 1", 0}, {"1, x", 3}, {"1, )", 3}, {"1, not(2)", 3},
		{"<", 1}, {"<=  ", 4}, {"< <", 2}, {"< x", 2}, {"< [1..2]", 2}, {"> -", 3}, {"> - \"a\"", 4}, {">= -null", 4}, {"< 1 2", 4}, {"< 1 > 2", 4}, {"< = 1", 2},
		{"-x", 1}, {"-\"a\"", 1}, {"-null", 1}, {"-true", 1}, {"-(1..2)", 1}, {"- < 1", 2}, {"-[", 1},
		{"[", 1}, {"[1", 2}, {"[1..", 4}, {"[1..5", 5}, {"[1..]", 4}, {"[..5]", 1}, {"[1, 5]", 2}, {"[1]", 2}, {"[1.5]", 4}, {"[]", 1}, {"()", 1}, {"(1)", 2}, {"(1..5", 5}, {"(1..5]]", 6}, {"[1..5] 1", 7}, {"[1..5..6]", 5}, {"[[1..2]..3]", 1}, {"[< 1..2]", 1}, {"[1..< 2]", 4}, {"]1..2[", 0}, {"(1 ..5 , 6)", 7}, {"[1 5]", 3}, {"[1..5(", 5}, {"[-..5]", 2}, {"[1..-]", 5},
		{"not(1", 5}, {"not(", 4}, {"not()", 4}, {"not(1,)", 6}, {"not(1, 2", 8}, {"not(1 2)", 6}, {"not(1)1", 6}, {"not(1))", 6}, {"not(1), 2", 6}, {"not(1..2)", 5}, {"not(not(1))", 4}, {"not(1]", 5}, {"not(x)", 4}, {"not(1, not(2))", 7}, {"not((1..2)", 10},
		// Without its bracket `not` is no beginning: the document's tests tell so of `not` alone.
		{"not", 0}, {" not", 1}, {"not 5", 0}, {"not[1..2]", 0}, {"not, 1", 0}, {"not not(1)", 0}, {"Not(1)", 0}, {"\"not\"(1)", 5}, {"not \"(\" 1)", 0},
	} {
		faults(t, c.s, api.ErrForm, c.at)
	}
}

func TestH3Many(t *testing.T) {
	ones := func(n int) string { return strings.TrimSuffix(strings.Repeat("1, ", n), ", ") }
	reads(t, ones(api.MaxTests), or(copies(isOne, api.MaxTests)...))
	reads(t, "not("+ones(api.MaxTests)+")", not(copies(isOne, api.MaxTests)...))
	full := ones(api.MaxTests)
	at := len(full) + len(", ")
	for _, s := range []string{"1", "1, 1", "-1", "- ", "< 5", "<", "<= x", "> 1", ">= 1", "[1..2]", "[x", "(1..2)", "(", "\"a\"", "null", "true", "false", "1 x", "1000000001", "< true"} {
		faults(t, full+", "+s, api.ErrMany, at)
		faults(t, "not("+full+", "+s, api.ErrMany, 4+at)
	}
	faults(t, ones(2*api.MaxTests+5), api.ErrMany, at)
	faults(t, full+",\n\t 1", api.ErrMany, at+2)
	// Where none begins, there is not one more.
	for _, s := range []string{"", "x", ")", "]", "..", ",", "not(1)", "="} {
		faults(t, full+", "+s, api.ErrForm, at)
		faults(t, "not("+full+", "+s, api.ErrForm, 4+at)
	}
	// What is met ahead of it comes first, and what Wrong says comes last.
	faults(t, "1 x, "+full, api.ErrForm, 2)
	faults(t, "< true, "+full, api.ErrMany, len(full)+len("< true, ")-len("1"))
	faults(t, full+" 1", api.ErrForm, at-1)
	faults(t, full+")", api.ErrForm, at-2)
}

func TestH3WhatWrongSays(t *testing.T) {
	for _, c := range []struct {
		s   string
		err api.Errno
	}{
		{"1000000001", api.ErrRange},
		{"-1000000001", api.ErrRange},
		{"1000000000.000001", api.ErrRange},
		{"0.0000001", api.ErrRange},
		{" 1, 2, > -0.0000001", api.ErrRange},
		{"[1..1000000001)", api.ErrRange},
		{"1" + strings.Repeat("0", 40), api.ErrRange},
		{"< true", api.ErrType},
		{"1, >= null", api.ErrType},
		{"not(1, <= false)", api.ErrType},
		{"[1..\"a\"]", api.ErrType},
		{"(\"a\"..1]", api.ErrType},
		{"[null..null]", api.ErrType},
		{"[1..true]", api.ErrType},
		{"\"" + strings.Repeat("a", api.MaxText+1) + "\"", api.ErrMuch},
		{"not(> \"" + strings.Repeat("é", api.MaxText/2) + "a\")", api.ErrMuch},
		// Test by test, A ahead of B.
		{"< true, 1000000001", api.ErrType},
		{"1000000001, < true", api.ErrRange},
		{"[true..1000000001]", api.ErrRange},
		{"[1000000001..\"" + strings.Repeat("a", api.MaxText+1) + "\"]", api.ErrRange},
	} {
		faults(t, c.s, c.err, 0)
	}
	reads(t, "\""+strings.Repeat("a", api.MaxText)+"\"", test(api.TeIs, text(strings.Repeat("a", api.MaxText))))
	// Where it can't go on, that comes first.
	faults(t, "1000000001 x", api.ErrForm, 11)
	faults(t, "< true,", api.ErrForm, 7)
}

func prints(t *testing.T, x api.Test, want string) {
	t.Helper()
	for _, x := range []api.Test{x, littered(x)} {
		if got, err := trials.Print(x); err != api.OK || got != want {
			t.Errorf("%+v: %q, %d comes, not %q", x, got, err, want)
		}
	}
	reads(t, want, x)
}

func TestH4AsItIsRead(t *testing.T) {
	prints(t, anything, "-")
	for _, c := range []struct {
		v api.Value
		s string
	}{
		{five, "5"}, {num(-5, 0), "-5"}, {num(0, 0), "0"}, {num(15, -1), "1.5"}, {num(-15, -1), "-1.5"}, {num(1, 9), "1000000000"}, {num(-1, 9), "-1000000000"}, {num(1, -6), "0.000001"}, {num(12, 3), "12000"},
		{text(""), `""`}, {text("a"), `"a"`}, {text("a\"\\\nb"), `"a\"\\\nb"`}, {text("é\t"), "\"é\t\""}, {text("-"), `"-"`},
	} {
		prints(t, test(api.TeIs, c.v), c.s)
		prints(t, test(api.TeLt, c.v), "< "+c.s)
		prints(t, test(api.TeLe, c.v), "<= "+c.s)
		prints(t, test(api.TeGt, c.v), "> "+c.s)
		prints(t, test(api.TeGe, c.v), ">= "+c.s)
		prints(t, span(c.v, c.v, false, false), "["+c.s+".."+c.s+"]")
		prints(t, span(c.v, c.v, true, false), "("+c.s+".."+c.s+"]")
		prints(t, span(c.v, c.v, false, true), "["+c.s+".."+c.s+")")
		prints(t, span(c.v, c.v, true, true), "("+c.s+".."+c.s+")")
		prints(t, or(test(api.TeIs, c.v), test(api.TeGt, c.v)), c.s+", > "+c.s)
		prints(t, not(test(api.TeIs, c.v), span(c.v, c.v, true, true)), "not("+c.s+", ("+c.s+".."+c.s+"))")
		prints(t, not(test(api.TeLt, c.v)), "not(< "+c.s+")")
	}
	for s, v := range map[string]api.Value{"null": null, "true": yes, "false": no} {
		prints(t, test(api.TeIs, v), s)
		prints(t, or(test(api.TeIs, v), test(api.TeIs, v)), s+", "+s)
		prints(t, not(test(api.TeIs, v)), "not("+s+")")
	}
	prints(t, span(one, two, false, false), "[1..2]")
	prints(t, or(copies(isOne, api.MaxTests)...), strings.Repeat("1, ", api.MaxTests-1)+"1")
	prints(t, not(copies(isOne, api.MaxTests)...), "not("+strings.Repeat("1, ", api.MaxTests-1)+"1)")
}

func TestH4WhatIsNotWritten(t *testing.T) {
	for _, x := range []api.Test{
		or(isOne), or(anything), or(or(isOne, isOne)), or(not(isOne)),
		or(anything, isOne), or(isOne, anything), or(isOne, or(isOne, isOne)), or(isOne, isOne, not(isOne)), or(anything, anything),
		not(anything), not(isOne, anything), not(or(isOne, isOne)), not(not(isOne)), not(isOne, or(isOne)), not(isOne, isOne, not(isOne, isOne)),
		or(append(copies(isOne, api.MaxTests-1), anything)...),
	} {
		isRight(t, "nested", x)
		if got, err := trials.Print(x); got != "" || err != api.ErrFit {
			t.Errorf("%+v: %q, %d comes", x, got, err)
		}
	}
	// What is wrong comes first.
	refuses(t, "wrong within", or(anything, test(api.TeLt, yes)), api.ErrType)
	refuses(t, "wrong within", or(or()), api.ErrMany)
	// What doesn't fit comes ahead of what is too much.
	long := test(api.TeIs, text(strings.Repeat("a", api.MaxText)))
	if got, err := trials.Print(or(append(copies(long, 10), anything)...)); got != "" || err != api.ErrFit {
		t.Errorf("%q, %d comes", got, err)
	}
}

func TestH4Much(t *testing.T) {
	// Three texts of a thousand, one of the rest.
	long := func(n int) api.Test { return test(api.TeIs, text(strings.Repeat("a", n))) }
	frame := 3*(api.MaxText+4) + 2
	row := func(n int) []api.Test { return append(copies(long(api.MaxText), 3), long(n-frame)) }
	got, err := trials.Print(or(row(api.MaxSource)...))
	if err != api.OK || len(got) != api.MaxSource {
		t.Errorf("%d bytes, %d comes", len(got), err)
	}
	reads(t, got, or(row(api.MaxSource)...))
	if got, err := trials.Print(or(row(api.MaxSource + 1)...)); got != "" || err != api.ErrMuch {
		t.Errorf("%d bytes, %d comes", len(got), err)
	}
	got, err = trials.Print(not(row(api.MaxSource - len("not()"))...))
	if err != api.OK || len(got) != api.MaxSource {
		t.Errorf("%d bytes, %d comes", len(got), err)
	}
	if got, err := trials.Print(not(row(api.MaxSource + 1 - len("not()"))...)); got != "" || err != api.ErrMuch {
		t.Errorf("%d bytes, %d comes", len(got), err)
	}
	// A text whose every byte is written as two: one such may be twice as long as it is.
	quotes := text(strings.Repeat("\"", api.MaxText))
	if got, err := trials.Print(span(quotes, quotes, false, false)); got != "" || err != api.ErrMuch {
		t.Errorf("%d bytes, %d comes", len(got), err)
	}
	prints(t, test(api.TeIs, quotes), `"`+strings.Repeat(`\"`, api.MaxText)+`"`)
}

// The calls only read, spare room is left alone, and what is answered is the caller's.
func TestH2H3H4NothingIsChangedOrShared(t *testing.T) {
	make := func() []api.Test {
		return []api.Test{isOne, span(one, two, true, false), test(api.TeIs, text("a")), {Kind: 99, Kids: []api.Test{anything}}}
	}
	room, kept := make(), make()
	x := not(room[:3]...)
	x.Kids = room[:3]
	v := list(one, text("a"))
	trials.Wrong(x)
	trials.Does(x, v)
	trials.Fits(x, api.Type{Kind: api.TyList, Elem: []api.Type{{Kind: api.TyNum}}})
	trials.Print(x)
	if !reflect.DeepEqual(room, kept) || !reflect.DeepEqual(v, list(one, text("a"))) {
		t.Errorf("%+v is left", room)
	}
	first, _ := trials.Read("1, 2, 3")
	for _, kids := range [][]api.Test{first.Kids, first.Kids[:cap(first.Kids)]} {
		for i := range kids {
			kids[i] = api.Test{Kind: 77}
		}
	}
	reads(t, "1, 2, 3", or(isOne, test(api.TeIs, two), test(api.TeIs, num(3, 0))))
}

func TestH2H3AtOnce(t *testing.T) {
	x, _ := trials.Read("not(1, [2..5), \"a\")")
	var wait sync.WaitGroup
	for range 8 {
		wait.Go(func() {
			for range 200 {
				if got, err := trials.Does(x, five); err != api.OK || got.Kind != api.VNull {
					t.Errorf("%+v, %d comes", got, err)
				}
				reads(t, "not(1, [2..5), \"a\")", x)
			}
		})
	}
	wait.Wait()
}

func FuzzH3H4(f *testing.F) {
	for _, s := range []string{"-", "not(1, [2..3))", "< -5", "\"a\\\"\", null, true", "(\"a\"..\"b\"]", "1,"} {
		f.Add(s)
	}
	f.Fuzz(func(t *testing.T, s string) {
		x, fault := trials.Read(s)
		if fault.Err != api.OK {
			if !reflect.DeepEqual(x, api.Test{}) || fault.At < 0 || fault.At > len(s) {
				t.Errorf("%q: %+v, %+v comes", s, x, fault)
			}
			return
		}
		if got := trials.Wrong(x); got != api.OK {
			t.Errorf("%q: %d is wrong", s, got)
		}
		out, err := trials.Print(x)
		if err == api.ErrMuch && len(s) > api.MaxSource-2*api.MaxTests {
			return
		}
		if err != api.OK {
			t.Errorf("%q: %d comes", s, err)
		}
		reads(t, out, x)
	})
}
