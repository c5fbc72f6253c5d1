package gaps_test

import (
	"fmt"
	"math"
	"reflect"
	"slices"
	"strings"
	"sync"
	"testing"

	"verdict/api"
	"verdict/gaps"
	"verdict/syn"
	"verdict/table"
	"verdict/trials"
)

var (
	yes  = api.Value{Kind: api.VBool, Yes: true}
	no   = api.Value{Kind: api.VBool}
	null = api.Value{Kind: api.VNull}
)

func num(coef int64, exp int) api.Value {
	return api.Value{Kind: api.VNum, Num: api.Dec{Coef: coef, Exp: exp}}
}

func text(s string) api.Value { return api.Value{Kind: api.VText, Text: s} }

func vals(l ...api.Value) []api.Value { return l }

func long(n int) string { return strings.Repeat("a", n) }

// test is what the text says: one that can't be read is a mistake in these tests.
func test(s string) api.Test {
	x, fault := trials.Read(s)
	if fault.Err != api.OK {
		panic(s)
	}
	return x
}

func expr(s string) api.Expr {
	x, fault := syn.Read(s)
	if fault.Err != api.OK {
		panic(s)
	}
	return x
}

// made is a table whose inputs are of the kinds (b, n, t), and whose rules are tests with ` | ` between.
func made(kinds string, rules ...string) api.Table {
	t := api.Table{Name: "t", Policy: api.PolFirst, Outs: []api.Column{{Name: "o", Kind: api.TyNum}}}
	for i, kind := range kinds {
		t.Ins = append(t.Ins, api.Column{Name: string(rune('a' + i)), Kind: map[rune]int{'b': api.TyBool, 'n': api.TyNum, 't': api.TyText}[kind]})
	}
	for _, s := range rules {
		r := api.Rule{Outs: []api.Expr{expr("1")}}
		for _, piece := range strings.Split(s, " | ") {
			r.Tests = append(r.Tests, test(piece))
		}
		t.Rules = append(t.Rules, r)
	}
	return t
}

// opens checks the first list that is open.
func opens(t *testing.T, x api.Table, want ...api.Value) {
	t.Helper()
	if got, ok, err := gaps.Gap(x); err != api.OK || !ok || !reflect.DeepEqual(got, want) {
		t.Errorf("%+v, %v, %d comes, not %+v", got, ok, err, want)
	}
}

// closed checks that nothing is open.
func closed(t *testing.T, x api.Table) {
	t.Helper()
	if got, ok, err := gaps.Gap(x); err != api.OK || ok || len(got) > 0 {
		t.Errorf("%+v, %v, %d comes", got, ok, err)
	}
}

// meet checks the first list that both rules hit, whichever of them is named first.
func meet(t *testing.T, x api.Table, i, j int, want ...api.Value) {
	t.Helper()
	for _, pair := range [][2]int{{i, j}, {j, i}} {
		if got, ok, err := gaps.Overlap(x, pair[0], pair[1]); err != api.OK || !ok || !reflect.DeepEqual(got, want) {
			t.Errorf("%v: %+v, %v, %d comes, not %+v", pair, got, ok, err, want)
		}
	}
}

func apart(t *testing.T, x api.Table, i, j int) {
	t.Helper()
	for _, pair := range [][2]int{{i, j}, {j, i}} {
		if got, ok, err := gaps.Overlap(x, pair[0], pair[1]); err != api.OK || ok || len(got) > 0 {
			t.Errorf("%v: %+v, %v, %d comes", pair, got, ok, err)
		}
	}
}

func unique(t *testing.T, x api.Table, want bool) {
	t.Helper()
	if got, err := gaps.Unique(x); err != api.OK || got != want {
		t.Errorf("%v, %d comes, not %v", got, err, want)
	}
}

func masked(t *testing.T, x api.Table, want ...int) {
	t.Helper()
	if got, err := gaps.Masked(x); err != api.OK || !slices.Equal(got, want) {
		t.Errorf("%v, %d comes, not %v", got, err, want)
	}
}

// outOfRange checks rules that are none.
func outOfRange(t *testing.T, x api.Table, i, j int) {
	t.Helper()
	for _, pair := range [][2]int{{i, j}, {j, i}} {
		if got, ok, err := gaps.Overlap(x, pair[0], pair[1]); err != api.ErrRange || ok || len(got) > 0 {
			t.Errorf("%v: %+v, %v, %d comes", pair, got, ok, err)
		}
	}
}

// refuses checks that all four calls tell what is wrong, whichever rules are asked for, and nothing beside it.
func refuses(t *testing.T, x api.Table, want api.Errno) {
	t.Helper()
	if l, ok, err := gaps.Gap(x); err != want || ok || len(l) > 0 {
		t.Errorf("Gap: %+v, %v, %d comes, not %d", l, ok, err, want)
	}
	for _, pair := range [][2]int{{0, 1}, {1, 0}, {0, 0}, {-1, 5}, {math.MaxInt, math.MinInt}} {
		if l, ok, err := gaps.Overlap(x, pair[0], pair[1]); err != want || ok || len(l) > 0 {
			t.Errorf("Overlap: %+v, %v, %d comes, not %d", l, ok, err, want)
		}
	}
	if ok, err := gaps.Unique(x); err != want || ok {
		t.Errorf("Unique: %v, %d comes, not %d", ok, err, want)
	}
	if l, err := gaps.Masked(x); err != want || len(l) > 0 {
		t.Errorf("Masked: %v, %d comes, not %d", l, err, want)
	}
}

// Whatever is wrong with a table comes first; here one fault of each kind, and some at once.
func TestK1WrongTables(t *testing.T) {
	base := func() api.Table { return made("nt", `< 5 | "a"`, `- | not("a")`) }
	endless := make([]api.Test, api.MaxTests)
	for i := range endless {
		endless[i] = api.Test{Kind: api.TeNot, Kids: endless}
	}
	for i, c := range []struct {
		spoil func(x *api.Table)
		want  api.Errno
	}{
		{func(x *api.Table) { *x = api.Table{} }, api.ErrName},
		{func(x *api.Table) { x.Name = "if" }, api.ErrName},
		{func(x *api.Table) { x.Policy = 11 }, api.ErrKind},
		{func(x *api.Table) { x.Ins = nil }, api.ErrMany},
		{func(x *api.Table) { x.Ins = slices.Repeat(x.Ins, 2) }, api.ErrMany},
		{func(x *api.Table) { x.Ins[1].Name = "a" }, api.ErrName},
		{func(x *api.Table) { x.Ins[1].Kind = api.TyAny }, api.ErrKind},
		{func(x *api.Table) { x.Ins[0].Order = vals(null) }, api.ErrMany},
		{func(x *api.Table) { x.Outs = nil }, api.ErrMany},
		{func(x *api.Table) { x.Outs[0].Order = vals(num(1, 0)) }, api.ErrMany},
		{func(x *api.Table) { x.Policy, x.Outs[0].Kind = api.PolSum, api.TyText }, api.ErrFit},
		{func(x *api.Table) { x.Rules = slices.Repeat(x.Rules, 6) }, api.ErrMany},
		{func(x *api.Table) { x.Rules[1].Tests = nil }, api.ErrMany},
		{func(x *api.Table) { x.Rules[1].Outs = nil }, api.ErrMany},
		{func(x *api.Table) { x.Rules[0].Tests[0] = test("true") }, api.ErrType},
		{func(x *api.Table) { x.Rules[1].Tests[1] = test("5") }, api.ErrType},
		{func(x *api.Table) { x.Rules[1].Tests[1] = api.Test{} }, api.ErrKind},
		{func(x *api.Table) { x.Rules[1].Tests[0] = api.Test{Kind: api.TeLt, A: num(1, -7)} }, api.ErrRange},
		{func(x *api.Table) { x.Rules[1].Tests[0] = api.Test{Kind: api.TeOr} }, api.ErrMany},
		{func(x *api.Table) { x.Rules[1].Tests[0] = endless[0] }, api.ErrMuch},
		{func(x *api.Table) { x.Rules[1].Outs[0] = expr("c") }, api.ErrName},
		{func(x *api.Table) { x.Rules[1].Outs[0] = expr(`"x"`) }, api.ErrType},
		{func(x *api.Table) { x.Rules[1].Outs[0] = api.Expr{} }, api.ErrKind},
	} {
		x := base()
		c.spoil(&x)
		if err := table.Wrong(x); err != c.want {
			t.Fatalf("%d: %d is wrong, not %d", i, err, c.want)
		}
		refuses(t, x, c.want)
		// Ahead of what Points says: here a text is too long.
		x = base()
		x.Rules[0].Tests[1] = test(`"` + long(api.MaxText) + `"`)
		c.spoil(&x)
		refuses(t, x, c.want)
	}
	opens(t, base(), num(5, 0), text("a"))
}

// Texts that have no room for one byte more have no points.
func TestK1TextsWithoutRoom(t *testing.T) {
	full, most := text(long(api.MaxText)), text(long(api.MaxText-1))
	for _, place := range []func(v api.Value) api.Test{
		func(v api.Value) api.Test { return api.Test{Kind: api.TeIs, A: v} },
		func(v api.Value) api.Test { return api.Test{Kind: api.TeGe, A: v} },
		func(v api.Value) api.Test { return api.Test{Kind: api.TeIn, A: text(""), B: v} },
		func(v api.Value) api.Test {
			return api.Test{Kind: api.TeNot, Kids: []api.Test{test("-"), {Kind: api.TeOr, Kids: []api.Test{{Kind: api.TeIn, A: v, B: text("b")}}}}}
		},
	} {
		for input := range 3 {
			for rule := range 2 {
				x := made("ttt", "- | - | -", "- | - | -")
				x.Rules[rule].Tests[input] = place(full)
				refuses(t, x, api.ErrMuch)
				x.Rules[rule].Tests[input] = place(most)
				closed(t, x)
			}
		}
	}
	// What stands in fields that a kind has not is no text of the test.
	x := made("t", "-", `not("a")`)
	x.Rules[0].Tests[0].A, x.Rules[1].Tests[0].B = full, full
	meet(t, x, 0, 1, text(""))
	x = made("n", "-")
	x.Rules[0].Tests[0].Kids = []api.Test{{Kind: api.TeIs, A: full}}
	closed(t, x)
}

// wide is a test of the values v(0) up to v(n-1), that is true of these.
func wide(n int, v func(i int) api.Value) api.Test {
	t := api.Test{Kind: api.TeOr}
	each := (n + api.MaxTests - 1) / api.MaxTests
	for from := 0; from < n; from += each {
		part := api.Test{Kind: api.TeOr}
		for i := from; i < min(from+each, n); i += api.MaxTests {
			few := api.Test{Kind: api.TeOr}
			for j := i; j < min(i+api.MaxTests, from+each, n); j++ {
				few.Kids = append(few.Kids, api.Test{Kind: api.TeIs, A: v(j)})
			}
			part.Kids = append(part.Kids, few)
		}
		t.Kids = append(t.Kids, part)
	}
	return t
}

// whole is the i-th whole number, as it must be written.
func whole(i int) api.Value {
	v := num(int64(i), 0)
	for v.Num.Coef != 0 && v.Num.Coef%10 == 0 {
		v.Num.Coef, v.Num.Exp = v.Num.Coef/10, v.Num.Exp+1
	}
	return v
}

// lettered is the i-th of many texts, of which the first one is empty.
func lettered(i int) api.Value {
	if i == 0 {
		return text("")
	}
	return text(fmt.Sprintf("x%05d", i))
}

// hasEdges makes the input have n edges, of v, shared among some rules.
func hasEdges(x *api.Table, input, n int, v func(i int) api.Value) {
	for rule := 0; n > 0; rule++ {
		part := min(n, 4000)
		n -= part
		from := n
		x.Rules[rule].Tests[input] = wide(part, func(i int) api.Value { return v(from + i) })
	}
}

// Numbers have one point more than two for each edge, texts likewise, but that the empty one is there already, truths always two.
func TestK1Cells(t *testing.T) {
	three := func(kinds string) api.Table {
		rule := strings.Repeat("- | ", len(kinds)-1) + "-"
		return made(kinds, rule, rule, rule)
	}
	ahead := func(i int) api.Value { return lettered(i + 1) }
	for _, c := range []struct {
		kinds    string
		edges    []int
		v        []func(i int) api.Value
		isInside bool
	}{
		{"n", []int{9999}, []func(int) api.Value{whole}, true},
		{"n", []int{10000}, []func(int) api.Value{whole}, false},
		{"t", []int{10000}, []func(int) api.Value{lettered}, true},
		{"t", []int{10000}, []func(int) api.Value{ahead}, false},
		{"t", []int{9999}, []func(int) api.Value{ahead}, true},
		{"t", []int{10001}, []func(int) api.Value{lettered}, false},
		{"tb", []int{5000, 0}, []func(int) api.Value{lettered, nil}, true},
		{"tb", []int{5000, 0}, []func(int) api.Value{ahead, nil}, false},
		{"bt", []int{0, 5000}, []func(int) api.Value{nil, lettered}, true},
		{"bt", []int{0, 5000}, []func(int) api.Value{nil, ahead}, false},
		{"bn", []int{0, 4999}, []func(int) api.Value{nil, whole}, true},
		{"bn", []int{0, 5000}, []func(int) api.Value{nil, whole}, false},
		{"nt", []int{12, 400}, []func(int) api.Value{whole, lettered}, true},
		{"nt", []int{12, 400}, []func(int) api.Value{whole, ahead}, false},
		{"nt", []int{62, 80}, []func(int) api.Value{whole, lettered}, true},
		{"tnb", []int{50, 0, 0}, []func(int) api.Value{lettered, nil, nil}, true},
		{"tnb", []int{200, 12, 0}, []func(int) api.Value{lettered, whole, nil}, true},
		{"btn", []int{0, 200, 12}, []func(int) api.Value{nil, lettered, whole}, true},
		{"btn", []int{0, 200, 13}, []func(int) api.Value{nil, lettered, whole}, false},
		{"btn", []int{0, 201, 12}, []func(int) api.Value{nil, lettered, whole}, false},
		{"nnn", []int{13, 13, 13}, []func(int) api.Value{whole, whole, whole}, true},
		{"nnn", []int{13, 13, 14}, []func(int) api.Value{whole, whole, whole}, false},
		{"nnn", []int{14, 13, 13}, []func(int) api.Value{whole, whole, whole}, false},
		{"ttb", []int{50, 50, 0}, []func(int) api.Value{lettered, lettered, nil}, true},
		{"nnn", []int{15000, 15000, 15000}, []func(int) api.Value{whole, whole, whole}, false},
	} {
		x := three(c.kinds)
		x.Rules = append(x.Rules, x.Rules[0], x.Rules[0])
		for i := range x.Rules {
			x.Rules[i].Tests = slices.Clone(x.Rules[i].Tests)
		}
		for input, n := range c.edges {
			hasEdges(&x, input, n, c.v[input])
		}
		if !c.isInside {
			refuses(t, x, api.ErrMuch)
			continue
		}
		closed(t, x)
		unique(t, x, false)
		if _, ok, err := gaps.Overlap(x, 3, 4); !ok || err != api.OK {
			t.Errorf("%s, %v: %v, %d comes", c.kinds, c.edges, ok, err)
		}
		outOfRange(t, x, 0, 5)
	}
}

// Edges count once, whichever rules have them.
func TestK1EdgesOfAllRules(t *testing.T) {
	x := made("n", "1", "1", "1", "1", "1", "1", "1", "1", "1", "1")
	for i := range x.Rules {
		x.Rules[i].Tests[0] = wide(8000, whole)
	}
	opens(t, x, num(-1, 0))
	x.Rules[9].Tests[0] = wide(2000, func(i int) api.Value { return whole(8000 + i) })
	refuses(t, x, api.ErrMuch)
	x.Rules[9].Tests[0] = wide(2000, func(i int) api.Value { return whole(7999 + i) })
	opens(t, x, num(-1, 0))
	meet(t, x, 0, 9, num(7999, 0))
	masked(t, x, 1, 2, 3, 4, 5, 6, 7, 8)
}

// The first input's points come slowest, each input's in their order.
func TestK1Order(t *testing.T) {
	meet(t, made("bnt", "- | - | -", "- | - | -"), 0, 1, no, num(0, 0), text(""))
	x := made("nn", "< 1 | -", "- | < 1", "1 | 1")
	opens(t, x, num(1, 0), num(2, 0))
	meet(t, x, 0, 1, num(0, 0), num(0, 0))
	y := made("nn", "3 | 1", "1 | 3", "> 0 | > 0")
	opens(t, y, num(-1, 0), num(-1, 0))
	meet(t, y, 0, 2, num(3, 0), num(1, 0))
	meet(t, y, 1, 2, num(1, 0), num(3, 0))
	apart(t, y, 0, 1)
	// Two lists are open: the one with less of the first input comes first, whatever the last one is.
	opens(t, made("bb", "false | false", "true | true"), no, yes)
	opens(t, made("bb", "false | true", "true | false"), no, no)
	opens(t, made("bbb", "false | false | -", "false | true | false", "true | - | true"), no, yes, yes)
	opens(t, made("bbb", "false | - | -", "true | false | -", "true | - | false"), yes, yes, yes)
}

// The points are those of the chapter ahead of this one.
func TestK1Points(t *testing.T) {
	for _, c := range []struct {
		kinds, rule string
		want        api.Value
	}{
		{"n", "< 5, > 5", num(5, 0)},
		{"n", "<= 5, >= 6", num(55, -1)},
		{"n", "not((5..6))", num(55, -1)},
		{"n", "[1..2)", num(0, 0)},
		{"n", "<= 1, (2..3]", num(15, -1)},
		{"n", "< 2.5", num(25, -1)},
		{"n", "<= 2.5", num(35, -1)},
		{"n", "<= 1000000000", num(1000000001, 0)},
		{"n", ">= -1000000000", num(-1000000001, 0)},
		{"n", "not((999999999.999999..1000000000))", num(9999999999999995, -7)},
		{"n", "null", num(0, 0)},
		{"t", "null", text("")},
		{"t", `"a"`, text("")},
		{"t", `< "a", > "a"`, text("a")},
		{"t", `<= "a"`, text("a\x00")},
		{"t", `not(("a".."b"))`, text("a\x00")},
		{"t", `"", >= "a"`, text("\x00")},
		{"b", "null", no},
		{"b", "false", yes},
		{"b", "true", no},
		{"b", "not(true)", yes},
	} {
		opens(t, made(c.kinds, c.rule), c.want)
	}
	for _, rule := range []string{"-", "not(null)", "< 5, >= 5", "<= 5, > 5", "not(1), 1", "[1..2], < 1, > 2"} {
		x := made("n", "null")
		x.Rules[0].Tests[0] = readKids(rule)
		closed(t, x)
	}
	closed(t, made("b", "true, false"))
	closed(t, made("b", "not(null)"))
	closed(t, made("t", `< "a", >= "a"`))
	closed(t, made("t", `>= ""`))
}

// readKids is a list of tests of which each may be a not by itself.
func readKids(s string) api.Test {
	t := api.Test{Kind: api.TeOr}
	for _, piece := range strings.Split(s, ", ") {
		t.Kids = append(t.Kids, test(piece))
	}
	return t
}

func TestK2Gap(t *testing.T) {
	opens(t, made("n"), num(0, 0))
	opens(t, made("t"), text(""))
	opens(t, made("b"), no)
	opens(t, made("btn"), no, text(""), num(0, 0))
	opens(t, made("n", "< 5", "> 5"), num(5, 0))
	closed(t, made("n", "< 5", ">= 5"))
	closed(t, made("n", "< 5", "> 5", "5"))
	closed(t, made("n", "> 5", "-"))
	opens(t, made("n", "< 0", "[0..10)", "[10..20]", "> 25"), num(225, -1))
	opens(t, made("bn", "true | < 5", "false | -"), yes, num(5, 0))
	opens(t, made("nb", "< 5 | true", "- | false"), num(5, 0), yes)
	closed(t, made("bn", "true | < 5", "false | -", "- | >= 5"))
	opens(t, made("tb", `"a" | -`, "- | true", `> "a" | false`), text(""), no)
	opens(t, made("nnn", "- | - | < 3", "- | < 3 | -", "< 3 | - | -"), num(3, 0), num(3, 0), num(3, 0))
	closed(t, made("t", `"a"`, `not("a")`))
	// Null is no point: what is open for it alone is not told.
	closed(t, made("n", "< 5", ">= 5"))
	opens(t, made("n", "null"), num(0, 0))
}

func TestK2Overlap(t *testing.T) {
	x := made("n", "<= 5", ">= 5", "[7..9]", "3")
	meet(t, x, 0, 1, num(5, 0))
	meet(t, x, 1, 2, num(7, 0))
	meet(t, x, 0, 3, num(3, 0))
	apart(t, x, 0, 2)
	apart(t, x, 1, 3)
	apart(t, x, 2, 3)
	meet(t, made("n", "(1..2)", "(1..3)"), 0, 1, num(15, -1))
	apart(t, made("n", "(1..2)", "[2..3)"), 0, 1)
	apart(t, made("n", "null", "null"), 0, 1)
	apart(t, made("n", "-", "null"), 0, 1)
	apart(t, made("n", "-", "[3..2]"), 0, 1)
	y := made("bn", "true | < 5", "false | -", "- | >= 5")
	apart(t, y, 0, 1)
	meet(t, y, 1, 2, no, num(5, 0))
	apart(t, y, 0, 2)
	z := made("tb", `"a" | -`, "- | true", `> "a" | false`)
	meet(t, z, 0, 1, text("a"), yes)
	apart(t, z, 0, 2)
	// Both rules hit a list only if each of its inputs suits both.
	apart(t, made("nn", "< 5 | < 5", "> 5 | -"), 0, 1)
	apart(t, made("nn", "< 5 | < 5", "- | > 5"), 0, 1)
	// Others that hit it too don't matter.
	meet(t, made("n", "-", "-", "-"), 0, 2, num(0, 0))
	ten := slices.Repeat([]string{"-"}, api.MaxRules)
	meet(t, made("n", ten...), 0, 9, num(0, 0))
}

func TestK2OverlapOfNoRules(t *testing.T) {
	for n := range api.MaxRules + 1 {
		x := made("n", slices.Repeat([]string{"-"}, n)...)
		for _, i := range []int{-1, n, n + 1, 16, 64, 1 << 32, math.MinInt, math.MaxInt} {
			for _, j := range []int{-1, 0, n - 1, n, i} {
				outOfRange(t, x, i, j)
			}
		}
		for i := range n {
			outOfRange(t, x, i, i)
			for j := range i {
				meet(t, x, i, j, num(0, 0))
			}
		}
	}
}

func TestK2Unique(t *testing.T) {
	unique(t, made("n"), true)
	unique(t, made("n", "-"), true)
	unique(t, made("n", "-", "-"), false)
	unique(t, made("n", "< 5", ">= 5"), true)
	unique(t, made("n", "<= 5", ">= 5"), false)
	unique(t, made("n", "< 5", "> 5"), true)
	unique(t, made("n", "-", "null"), true)
	unique(t, made("b", "true", "false"), true)
	unique(t, made("b", "true", "not(false)"), false)
	unique(t, made("bn", "true | < 5", "false | -", "true | >= 5"), true)
	unique(t, made("bn", "true | < 5", "false | -", "- | >= 5"), false)
	unique(t, made("n", "< 1", "[1..2)", "[2..3)", "[3..4)", "[4..5)", "[5..6)", "[6..7)", "[7..8)", "[8..9)", ">= 9"), true)
	unique(t, made("n", "< 1", "[1..2)", "[2..3)", "[3..4)", "[4..5)", "[5..6)", "[6..7)", "[7..8)", "[8..9]", ">= 9"), false)
	unique(t, made("t", `< "a"`, `"a"`, `> "a"`), true)
	unique(t, made("t", `< "a"`, `"a"`, `"a", "b"`), false)
}

func TestK2Masked(t *testing.T) {
	masked(t, made("n"))
	masked(t, made("n", "-"))
	masked(t, made("n", "-", "1", "[2..3]"), 1, 2)
	masked(t, made("n", "1", "[2..3]", "-"))
	masked(t, made("n", "1", "1"), 1)
	// Together those ahead may hide what none of them hides by itself.
	masked(t, made("n", "< 5", ">= 5", "-"), 2)
	masked(t, made("n", "< 5", "> 5", "-"))
	masked(t, made("n", "< 5", "> 5", "-", "-"), 3)
	masked(t, made("n", "< 5", "> 5", "[1..5]", "5"), 3)
	masked(t, made("n", "null", "-"), 0)
	masked(t, made("n", "-", "null"), 1)
	masked(t, made("n", "[2..1]", "(1..1)", "[1..1)", "[1..1]"), 0, 1, 2)
	masked(t, made("bn", "true | -", "- | < 5", "false | 3", "false | > 3", "true | 3"), 2, 4)
	masked(t, made("tb", `"a" | -`, "- | true", `> "a" | false`))
	masked(t, made("n", slices.Repeat([]string{"-"}, api.MaxRules)...), 1, 2, 3, 4, 5, 6, 7, 8, 9)
	masked(t, made("n", "1", "2", "3", "4", "5", "6", "7", "8", "9", "-"))
	masked(t, made("n", "1", "2", "3", "4", "5", "6", "7", "8", "not(1, 2, 3, 4, 5, 6, 7, 8)", "-"), 9)
}

// Tests in tests come out as they would by themselves.
func TestK2Nested(t *testing.T) {
	or := func(kids ...api.Test) api.Test { return api.Test{Kind: api.TeOr, Kids: kids} }
	not := func(kids ...api.Test) api.Test { return api.Test{Kind: api.TeNot, Kids: kids} }
	one := func(x api.Test) api.Table {
		l := made("n", "-")
		l.Rules[0].Tests[0] = x
		return l
	}
	opens(t, one(not(or(test("1"), not(test("[1..2]"))))), num(0, 0))
	opens(t, one(or(test("< 1"), not(not(test("1"))), test("> 2"))), num(15, -1))
	opens(t, one(or(test("< 1"), not(test("[1..2)"), not(test("(0..3]"))))), num(1, 0))
	opens(t, one(not(test("-"))), num(0, 0))
	opens(t, one(not(not(not(test("-"))))), num(0, 0))
	closed(t, one(not(not(test("-")))))
	closed(t, one(or(not(test("-")), test("-"))))
	closed(t, one(or(not(test("1")), test("1"))))
	closed(t, one(not(not(or(test("< 1"), test(">= 1"))))))
}

// The policy, what comes out, and the order of outputs don't matter.
func TestK2Rest(t *testing.T) {
	many := "[1" + strings.Repeat(", 1", 69) + "]"
	tooLong := expr("count(for x in " + many + " return count(" + many + "))")
	for policy := api.PolUnique; policy <= api.PolCount; policy++ {
		x := made("n", "<= 5", "[5..7)", "> 7")
		x.Policy = policy
		for i := range x.Rules {
			x.Rules[i].Outs = []api.Expr{tooLong}
		}
		if policy == api.PolPriority {
			x.Outs[0].Order = vals(num(1, 0), num(2, 0))
		}
		opens(t, x, num(7, 0))
		meet(t, x, 0, 1, num(5, 0))
		unique(t, x, false)
		masked(t, x)
	}
}

// littered has something in all fields that its kind has not, of what would be an edge.
func littered(t api.Test) api.Test {
	litter := api.Value{Kind: api.VNum, Num: api.Dec{Coef: 777}}
	l := api.Test{Kind: t.Kind, A: litter, B: litter, OpenA: true, OpenB: true, Kids: []api.Test{{Kind: api.TeIs, A: litter}}}
	value := func(v api.Value) api.Value {
		return api.Value{Kind: v.Kind, Yes: true, Num: v.Num, Text: "litter", List: make([]api.Value, 300)}
	}
	switch t.Kind {
	case api.TeIs, api.TeLt, api.TeLe, api.TeGt, api.TeGe:
		l.A = value(t.A)
	case api.TeIn:
		l.A, l.B, l.OpenA, l.OpenB = value(t.A), value(t.B), t.OpenA, t.OpenB
	case api.TeOr, api.TeNot:
		l.Kids = nil
		for _, kid := range t.Kids {
			l.Kids = append(l.Kids, littered(kid))
		}
	}
	return l
}

func TestK1K2Littered(t *testing.T) {
	x := made("nn", "< 5 | -", "not(3, [4..9)) | > 1", "- | null", "[5..9) | (0..2), 7")
	for i := range x.Rules {
		for j := range x.Rules[i].Tests {
			x.Rules[i].Tests[j] = littered(x.Rules[i].Tests[j])
		}
	}
	opens(t, x, num(5, 0), num(-1, 0))
	meet(t, x, 0, 1, num(2, 0), num(15, -1))
	apart(t, x, 0, 2)
	apart(t, x, 1, 3)
	unique(t, x, false)
	masked(t, x, 2)
}

// The calls only read, and spare room is neither changed nor looked at.
func TestK1K2OnlyRead(t *testing.T) {
	fill := func() api.Table {
		x := made("nt", `< 5 | "a"`, `> 3, 2 | not("b")`, `- | -`)
		x.Ins = append(x.Ins, api.Column{Name: "spare"})
		x.Outs = append(x.Outs, api.Column{Name: "spare"})
		x.Rules = append(x.Rules, api.Rule{})
		for i := range x.Rules {
			x.Rules[i].Tests = append(x.Rules[i].Tests, api.Test{})
			x.Rules[i].Outs = append(x.Rules[i].Outs, api.Expr{})
		}
		return x
	}
	x := fill()
	cut, rules := x, slices.Clone(x.Rules)
	for i := range rules[:2] {
		rules[i].Tests, rules[i].Outs = rules[i].Tests[:2], rules[i].Outs[:1]
	}
	cut.Ins, cut.Outs, cut.Rules = x.Ins[:2], x.Outs[:1], rules[:2]
	opens(t, cut, num(1, 0), text(""))
	meet(t, cut, 0, 1, num(2, 0), text("a"))
	unique(t, cut, false)
	masked(t, cut)
	if !reflect.DeepEqual(x, fill()) || !reflect.DeepEqual(rules[2:], x.Rules[2:]) {
		t.Errorf("%+v, %+v is left", x, rules)
	}
}

// What is answered is the caller's: no later call sees what becomes of it.
func TestK2AnswersAreNewMemory(t *testing.T) {
	x := made("nt", `< 5 | -`, `< 7 | "a"`, `4 | -`)
	for range 2 {
		gap, _, _ := gaps.Gap(x)
		both, _, _ := gaps.Overlap(x, 0, 1)
		hidden, _ := gaps.Masked(x)
		if !reflect.DeepEqual(gap, vals(num(5, 0), text(""))) || !reflect.DeepEqual(both, vals(num(3, 0), text("a"))) || !slices.Equal(hidden, []int{2}) {
			t.Errorf("%+v, %+v, %v comes", gap, both, hidden)
		}
		for _, l := range [][]api.Value{gap, both} {
			l = l[:cap(l)]
			for i := range l {
				l[i] = api.Value{Kind: 77}
			}
		}
		hidden = hidden[:cap(hidden)]
		for i := range hidden {
			hidden[i] = 77
		}
	}
}

// As much as may be at once: it ends, and in good time.
func TestK1K2AsMuchAsMayBe(t *testing.T) {
	ten := slices.Repeat([]string{"-"}, api.MaxRules)
	number := func(i int) api.Value { return num(int64(10*i+1), 0) }
	// Texts that differ at their ends alone.
	name := func(i int) api.Value { return text(long(api.MaxText-6) + fmt.Sprintf("%05d", i)) }
	for kinds, v := range map[string]func(int) api.Value{"n": number, "t": name} {
		x := made(kinds, ten...)
		for i := range x.Rules {
			x.Rules[i].Tests[0] = wide(8000, func(j int) api.Value { return v(j + i*200) })
			for j, part := range x.Rules[i].Tests[0].Kids {
				for k := range part.Kids {
					x.Rules[i].Tests[0].Kids[j].Kids[k] = turned(part.Kids[k])
				}
			}
		}
		closed(t, x)
		unique(t, x, false)
		masked(t, x, 1, 2, 3, 4, 5, 6, 7, 8, 9)
		if _, ok, err := gaps.Overlap(x, 8, 9); !ok || err != api.OK {
			t.Errorf("%v, %d comes", ok, err)
		}
		for i := range x.Rules {
			for j := range x.Rules[i].Tests[0].Kids {
				x.Rules[i].Tests[0].Kids[j].Kind = api.TeNot
			}
			x.Rules[i].Tests[0].Kind = api.TeNot
		}
		if _, ok, err := gaps.Gap(x); err != api.OK || ok {
			t.Errorf("%v, %d comes", ok, err)
		}
	}
}

// turned is true of all that none of the kids is.
func turned(t api.Test) api.Test {
	t.Kind = api.TeNot
	return t
}

func TestK1K2AtOnce(t *testing.T) {
	x := made("ntb", `< 5 | "a" | -`, `> 3, 2 | not("b") | true`, `9 | - | -`)
	var wait sync.WaitGroup
	for range 8 {
		wait.Go(func() {
			for range 20 {
				opens(t, x, num(1, 0), text(""), no)
				meet(t, x, 0, 1, num(2, 0), text("a"), yes)
				unique(t, x, false)
				masked(t, x)
			}
		})
	}
	wait.Wait()
}
