package table_test

import (
	"fmt"
	"math/big"
	"math/rand"
	"slices"
	"strings"
	"testing"

	"verdict/api"
	"verdict/code"
	"verdict/dec"
	"verdict/logic"
	"verdict/syn"
	"verdict/table"
	"verdict/trials"
	"verdict/types"
)

// The chapter's words once more, by other ways: faults are gathered, tests come out as numbers, rows are held against each other one by one, and expressions run as instructions.

// gathered is what is wrong, in the order in which it was found.
type gathered []api.Errno

func (g *gathered) say(wrong bool, err api.Errno) {
	if wrong {
		*g = append(*g, err)
	}
}

func (g *gathered) first() api.Errno {
	return append(*g, api.OK)[0]
}

func (g *gathered) columns(l []api.Column, ordered bool) {
	g.say(len(l) == 0 || len(l) > 3, api.ErrMany)
	names := map[string]int{}
	for _, c := range l {
		names[c.Name]++
		g.say(!syn.Named(c.Name) || names[c.Name] > 1, api.ErrName)
		g.say(!strings.Contains(" 2 3 4 ", fmt.Sprintf(" %d ", c.Kind)), api.ErrKind)
		g.say(len(c.Order) > 20 || !ordered && len(c.Order) > 0, api.ErrMany)
		for _, v := range c.Order {
			err := logic.Wrong(v)
			g.say(err != api.OK, err)
			// The kinds of values and of their types have the same numbers.
			g.say(v.Kind != c.Kind, api.ErrType)
		}
	}
}

// kindsIn are the kinds of all values that a right test has.
func kindsIn(t api.Test) []int {
	switch t.Kind {
	case api.TeAny:
		return nil
	case api.TeOr, api.TeNot:
		var all []int
		for _, kid := range t.Kids {
			all = append(all, kindsIn(kid)...)
		}
		return all
	}
	return []int{t.A.Kind}
}

func (g *gathered) rule(t api.Table, r api.Rule) {
	if len(r.Tests) != len(t.Ins) || len(r.Outs) != len(t.Outs) {
		g.say(true, api.ErrMany)
		return
	}
	var vars []api.Var
	for i, c := range t.Ins {
		vars = append(vars, api.Var{Name: c.Name, Type: api.Type{Kind: c.Kind}})
		err := trials.Wrong(r.Tests[i])
		g.say(err != api.OK, err)
		if err == api.OK {
			g.say(slices.ContainsFunc(kindsIn(r.Tests[i]), func(kind int) bool { return kind != api.VNull && kind != c.Kind }), api.ErrType)
		}
	}
	for i, c := range t.Outs {
		is, err := types.Type(r.Outs[i], vars)
		g.say(err != api.OK, err)
		g.say(is.Kind != api.TyNull && is.Kind != c.Kind, api.ErrType)
	}
}

func wantWrong(t api.Table) api.Errno {
	g := gathered{}
	g.say(!syn.Named(t.Name), api.ErrName)
	g.say(!slices.Contains(policies(), t.Policy), api.ErrKind)
	g.columns(t.Ins, false)
	g.columns(t.Outs, t.Policy == api.PolPriority)
	if t.Policy >= api.PolSum {
		g.say(len(t.Outs) != 1 || t.Policy != api.PolCount && t.Outs[0].Kind != api.TyNum, api.ErrFit)
	}
	g.say(len(t.Rules) > 10, api.ErrMany)
	for _, r := range t.Rules {
		g.rule(t, r)
	}
	return g.first()
}

// How a test comes out: 0 is false, 1 not known, 2 true.
func comesOut(t api.Test, v api.Value) int {
	below, same, above := sides(v, t.A)
	switch t.Kind {
	case api.TeIs:
		if v.Kind == api.VNull || t.A.Kind == api.VNull {
			return 2 * one(v.Kind == t.A.Kind)
		}
		if v.Kind != t.A.Kind {
			return 1
		}
		return 2 * one(plainText(v) == plainText(t.A))
	case api.TeLt:
		return below
	case api.TeLe:
		return max(below, same)
	case api.TeGt:
		return above
	case api.TeGe:
		return max(above, same)
	case api.TeIn:
		kinds := [2][2]int{{api.TeGe, api.TeGt}, {api.TeLe, api.TeLt}}
		return min(comesOut(api.Test{Kind: kinds[0][one(t.OpenA)], A: t.A}, v), comesOut(api.Test{Kind: kinds[1][one(t.OpenB)], A: t.B}, v))
	case api.TeOr, api.TeNot:
		most := 0
		for _, kid := range t.Kids {
			most = max(most, comesOut(kid, v))
		}
		if t.Kind == api.TeNot {
			return 2 - most
		}
		return most
	}
	return 2
}

func one(yes bool) int {
	if yes {
		return 1
	}
	return 0
}

func plainText(v api.Value) string { return fmt.Sprintf("%+v", plain(v)) }

func rational(v api.Value) *big.Rat {
	r, _ := new(big.Rat).SetString(fmt.Sprintf("%de%d", v.Num.Coef, v.Num.Exp))
	return r
}

// sides tells whether v is less than a, the same, or more.
func sides(v, a api.Value) (below, same, above int) {
	order := 0
	switch {
	case v.Kind == api.VNum && a.Kind == api.VNum:
		order = rational(v).Cmp(rational(a))
	case v.Kind == api.VText && a.Kind == api.VText:
		order = strings.Compare(v.Text, a.Text)
	default:
		return 1, 1, 1
	}
	return 2 * one(order < 0), 2 * one(order == 0), 2 * one(order > 0)
}

func wantHits(t api.Table, l []api.Value) ([]int, api.Errno) {
	g := gathered{}
	err := wantWrong(t)
	g.say(err != api.OK, err)
	g.say(len(l) != len(t.Ins), api.ErrMany)
	if len(g) > 0 {
		return nil, g.first()
	}
	for i, v := range l {
		err := logic.Wrong(v)
		g.say(err != api.OK, err)
		g.say(v.Kind != api.VNull && v.Kind != t.Ins[i].Kind, api.ErrType)
	}
	if len(g) > 0 {
		return nil, g.first()
	}
	var hits []int
	for i, r := range t.Rules {
		least := 2
		for j, x := range r.Tests {
			least = min(least, comesOut(x, l[j]))
		}
		if least == 2 {
			hits = append(hits, i)
		}
	}
	return hits, api.OK
}

func wantRows(t api.Table, hits []int, l []api.Value) ([][]api.Value, api.Errno) {
	var rows [][]api.Value
	var binds []api.Bind
	for i, c := range t.Ins {
		binds = append(binds, api.Bind{Name: c.Name, Val: l[i]})
	}
	for _, i := range hits {
		var row []api.Value
		for _, x := range t.Rules[i].Outs {
			v, err := code.Run(x, binds)
			if err != api.OK {
				return nil, err
			}
			row = append(row, v)
		}
		rows = append(rows, row)
	}
	return rows, api.OK
}

func told(row []api.Value) api.Value {
	if len(row) == 1 {
		return row[0]
	}
	return list(row...)
}

// sameRows: values of an output are null or of one kind, so they are the same if they look the same.
func sameRows(a, b []api.Value) bool { return plainText(list(a...)) == plainText(list(b...)) }

func isAhead(t api.Table, a, b []api.Value) bool {
	for i, c := range t.Outs {
		place := func(v api.Value) int {
			for j, one := range c.Order {
				if plainText(one) == plainText(v) {
					return j
				}
			}
			return 1000
		}
		if place(a[i]) != place(b[i]) {
			return place(a[i]) < place(b[i])
		}
	}
	return false
}

func wantDecided(t api.Table, l []api.Value) (api.Value, api.Errno) {
	hits, err := wantHits(t, l)
	if err != api.OK {
		return none, err
	}
	if t.Policy == api.PolCount {
		return []api.Value{num(0, 0), num(1, 0), num(2, 0), num(3, 0), num(4, 0), num(5, 0), num(6, 0), num(7, 0), num(8, 0), num(9, 0), num(1, 1)}[len(hits)], api.OK
	}
	rows, err := wantRows(t, hits, l)
	if err != api.OK {
		return none, err
	}
	if len(rows) == 0 {
		return null, api.OK
	}
	if t.Policy >= api.PolSum {
		return wantNumber(t.Policy, rows), api.OK
	}
	return wantPicked(t, rows)
}

func wantPicked(t api.Table, rows [][]api.Value) (api.Value, api.Errno) {
	all, once := list(), list()
	alike, ahead := true, -1
	for i, row := range rows {
		all.List = append(all.List, told(row))
		if !slices.ContainsFunc(rows[:i], func(other []api.Value) bool { return sameRows(row, other) }) {
			once.List = append(once.List, told(row))
		}
		alike = alike && sameRows(row, rows[0])
		if ahead < 0 && !slices.ContainsFunc(rows, func(other []api.Value) bool { return isAhead(t, other, row) }) {
			ahead = i
		}
	}
	switch {
	case t.Policy == api.PolUnique && len(rows) > 1, t.Policy == api.PolAny && !alike:
		return none, api.ErrFit
	case t.Policy == api.PolPriority:
		return told(rows[ahead]), api.OK
	case t.Policy == api.PolRule:
		return all, api.OK
	case t.Policy == api.PolCollect:
		return once, api.OK
	}
	return told(rows[0]), api.OK
}

func wantNumber(policy int, rows [][]api.Value) api.Value {
	var numbers []api.Value
	for _, row := range rows {
		if row[0].Kind == api.VNull {
			return null
		}
		numbers = append(numbers, row[0])
	}
	if policy == api.PolSum {
		sum := api.Dec{}
		for _, v := range numbers {
			next, err := dec.Add(sum, v.Num)
			if err != api.OK {
				return null
			}
			sum = next
		}
		return api.Value{Kind: api.VNum, Num: sum}
	}
	slices.SortStableFunc(numbers, func(a, b api.Value) int { return rational(a).Cmp(rational(b)) })
	if policy == api.PolMin {
		return numbers[0]
	}
	return numbers[len(numbers)-1]
}

// dice makes things up, the same ones each time.
type dice struct {
	*rand.Rand
}

func pick[E any](d dice, l ...E) E { return l[d.Intn(len(l))] }

// value is one of so few that many are the same.
func (d dice) value(kind int) api.Value {
	switch kind {
	case api.TyBool:
		return pick(d, yes, no)
	case api.TyNum:
		return pick(d, num(0, 0), num(1, 0), num(2, 0), num(3, 0), num(-1, 0), num(25, -1), num(1, 1))
	}
	return pick(d, text(""), text("x"), text("y"), text("é"), text("xx"))
}

func (d dice) test(kind, deep int) api.Test {
	if deep > 0 && d.Intn(3) == 0 {
		t := api.Test{Kind: pick(d, api.TeOr, api.TeNot)}
		for range 1 + d.Intn(3) {
			t.Kids = append(t.Kids, d.test(kind, deep-1))
		}
		return t
	}
	if d.Intn(3) == 0 {
		return api.Test{Kind: api.TeAny}
	}
	if kind == api.TyBool || d.Intn(4) == 0 {
		return api.Test{Kind: api.TeIs, A: pick(d, null, d.value(kind), d.value(kind), d.value(kind))}
	}
	return api.Test{Kind: pick(d, api.TeLt, api.TeLe, api.TeGt, api.TeGe, api.TeIn), A: d.value(kind), B: d.value(kind), OpenA: d.Intn(2) == 0, OpenB: d.Intn(2) == 0}
}

// expr is of the kind, if the inputs are number a, text b, boolean c; else it may be wrong.
func (d dice) expr(kind int, ins []api.Column) api.Expr {
	named := slices.DeleteFunc(slices.Clone(ins), func(c api.Column) bool { return c.Kind != kind })
	if len(named) > 0 && d.Intn(3) == 0 {
		return api.Expr{Kind: api.XName, Name: pick(d, named...).Name}
	}
	if d.Intn(8) == 0 {
		return expr("null")
	}
	if d.Intn(60) == 0 {
		return expr(map[int]string{api.TyBool: tooLong + " > 5", api.TyNum: tooLong, api.TyText: "if " + tooLong + ` > 5 then "x" else "y"`}[kind])
	}
	first := ins[0].Name
	switch kind {
	case api.TyBool:
		return expr(pick(d, "true", "false", "1 < 2", first+" = null", "not("+first+" != null)", "null > 3"))
	case api.TyNum:
		return expr(pick(d, "1", "2", "0.5", "0 - 1", "10", "count(["+first+"])", "1 / 0", strings.Repeat("9", 18)+strings.Repeat("0", 40), "item([3, 1, 2], 2)"))
	}
	return expr(pick(d, `"x"`, `"y"`, `""`, `upper("x")`, `if `+first+` = null then "x" else "y"`, `"x" + "x"`))
}

func (d dice) columns(names ...string) []api.Column {
	var l []api.Column
	for i := range 1 + d.Intn(3) {
		l = append(l, api.Column{Name: names[i], Kind: pick(d, api.TyBool, api.TyNum, api.TyText)})
	}
	return l
}

func (d dice) table() api.Table {
	t := api.Table{Name: "t", Policy: pick(d, policies()...), Ins: d.columns("a", "b", "c"), Outs: d.columns("o", "a", "q")}
	if t.Policy >= api.PolSum {
		t.Outs = []api.Column{{Name: "o", Kind: api.TyNum}}
	}
	for i := range t.Outs {
		for t.Policy == api.PolPriority && d.Intn(4) > 0 {
			t.Outs[i].Order = append(t.Outs[i].Order, d.value(t.Outs[i].Kind))
		}
		t.Outs[i].Order = t.Outs[i].Order[:min(len(t.Outs[i].Order), 20)]
	}
	for range d.Intn(11) {
		r := api.Rule{}
		for _, c := range t.Ins {
			r.Tests = append(r.Tests, d.test(c.Kind, 2))
		}
		for _, c := range t.Outs {
			r.Outs = append(r.Outs, d.expr(c.Kind, t.Ins))
		}
		t.Rules = append(t.Rules, r)
	}
	return t
}

// spoil makes something of t that may be wrong.
func (d dice) spoil(t *api.Table) {
	column := &pick(d, t.Ins, t.Outs)[0]
	odd := pick(d, null, none, list(), num(10, 0), num(1, 0), text("x"), yes)
	switch d.Intn(12) {
	case 0:
		t.Name = pick(d, "", "if", "a b", "é")
	case 1:
		t.Policy = d.Intn(13) - 1
	case 2:
		column.Name = pick(d, "", "in", "b", "q", "z")
	case 3:
		column.Kind = d.Intn(9) - 1
	case 4:
		column.Order = append(column.Order, odd)
	case 5:
		t.Ins = pick(d, t.Ins[1:], append(t.Ins, t.Ins...), append(t.Ins, api.Column{Name: "z", Kind: api.TyNum}))
	case 6:
		t.Outs = pick(d, t.Outs[1:], append(t.Outs, t.Outs...), append(t.Outs, api.Column{Name: "z", Kind: api.TyNum}))
	case 7:
		t.Rules = pick(d, append(t.Rules, api.Rule{}), slices.Repeat(t.Rules, 2))
	default:
		d.spoilRule(t, odd)
	}
}

func (d dice) spoilRule(t *api.Table, odd api.Value) {
	if len(t.Rules) == 0 || len(t.Ins) == 0 || len(t.Outs) == 0 {
		return
	}
	r := &t.Rules[d.Intn(len(t.Rules))]
	switch d.Intn(4) {
	case 0:
		r.Tests = append(r.Tests[:0:0], r.Tests[min(1, len(r.Tests)):]...)
	case 1:
		r.Outs = append(r.Outs[:0:0], r.Outs[min(1, len(r.Outs)):]...)
	case 2:
		if len(r.Tests) > 0 {
			r.Tests[d.Intn(len(r.Tests))] = api.Test{Kind: d.Intn(12) - 1, A: odd, B: odd}
		}
	case 3:
		if len(r.Outs) > 0 {
			r.Outs[d.Intn(len(r.Outs))] = api.Expr{Kind: d.Intn(24) - 1, Val: odd, Name: pick(d, "a", "o", "if", "count"), Kids: pick(d, nil, []api.Expr{expr("1")}, []api.Expr{expr("1"), expr("a")})}
		}
	}
}

func (d dice) values(t api.Table) []api.Value {
	var l []api.Value
	for _, c := range t.Ins {
		l = append(l, pick(d, null, d.value(c.Kind), d.value(c.Kind), d.value(c.Kind), d.value(c.Kind)))
	}
	if len(l) > 0 && d.Intn(15) == 0 {
		l[d.Intn(len(l))] = pick(d, none, list(), num(10, 0), d.value(api.TyNum), d.value(api.TyText))
	}
	if len(l) > 0 && d.Intn(30) == 0 {
		l = pick(d, l[1:], append(l, null))
	}
	return l
}

// holds checks all calls against the chapter, and tells how Decide came out.
func holds(t *testing.T, x api.Table, l []api.Value) api.Errno {
	t.Helper()
	if err, want := table.Wrong(x), wantWrong(x); err != want {
		t.Fatalf("%+v: %d comes, not %d", x, err, want)
	}
	hits, err := table.Hits(x, l)
	if want, wantErr := wantHits(x, l); err != wantErr || !slices.Equal(hits, want) {
		t.Fatalf("%+v, %+v: %v, %d comes, not %v, %d", x, l, hits, err, want, wantErr)
	}
	v, err := table.Decide(x, l)
	if want, wantErr := wantDecided(x, l); err != wantErr || !same(v, want) {
		t.Fatalf("%+v, %+v: %+v, %d comes, not %+v, %d", x, l, v, err, want, wantErr)
	}
	if wrong := logic.Wrong(v); err == api.OK && wrong != api.OK {
		t.Fatalf("%+v, %+v: %+v is no value: %d", x, l, v, wrong)
	}
	return err
}

func TestJ1J2J3AgainstTheChapter(t *testing.T) {
	d := dice{rand.New(rand.NewSource(10))}
	wrong, came := map[api.Errno]int{}, map[[2]int]int{}
	for range 5000 {
		x := d.table()
		if d.Intn(2) == 0 {
			for range 1 + d.Intn(2) {
				if len(x.Ins) > 0 && len(x.Outs) > 0 {
					d.spoil(&x)
				}
			}
		}
		err := table.Wrong(x)
		wrong[err]++
		for range 5 {
			if told := holds(t, x, d.values(x)); err == api.OK {
				came[[2]int{x.Policy, int(told)}]++
			}
		}
	}
	for _, err := range []api.Errno{api.OK, api.ErrKind, api.ErrForm, api.ErrMany, api.ErrName, api.ErrFit, api.ErrType} {
		if wrong[err] < 10 {
			t.Errorf("%d comes but %d times", err, wrong[err])
		}
	}
	for _, policy := range policies() {
		if came[[2]int{policy, 0}] < 300 || policy != api.PolCount && came[[2]int{policy, int(api.ErrMuch)}] < 10 {
			t.Errorf("policy %d: %v", policy, came)
		}
	}
	for _, policy := range []int{api.PolUnique, api.PolAny} {
		if came[[2]int{policy, int(api.ErrFit)}] < 100 {
			t.Errorf("policy %d: %v", policy, came)
		}
	}
}

// Several faults at once, of those that the tests of single faults make, in any order.
func TestJ1AgainstTheChapter(t *testing.T) {
	d := dice{rand.New(rand.NewSource(11))}
	l := faults()
	for range 3000 {
		x := copied(base())
		for range d.Intn(4) {
			f := l[d.Intn(len(l))]
			func() {
				// Some faults take away what others would change.
				defer func() { recover() }()
				f.make(&x)
			}()
		}
		if err, want := table.Wrong(x), wantWrong(x); err != want {
			t.Fatalf("%d comes, not %d", err, want)
		}
	}
}

// Tables of a trade, one for each of some policies; the document's example of a grade among them.
func TestJ3TablesOfTheTrade(t *testing.T) {
	grade := made(api.PolFirst, "points number", "mark text", `>= 90 | "A"`, `>= 80 | "B"`, `>= 70 | "C"`, `- | "F"`)
	for points, want := range map[int64]string{95: "A", 91: "A", 89: "B", 85: "B", 79: "C", 69: "F", 0: "F", -3: "F"} {
		decides(t, grade, vals(num(points, 0)), text(want))
	}
	decides(t, grade, vals(null), text("F"))
	tax := made(api.PolSum, "income number", "part number", "- | 0", "> 10000 | (income - 10000) * 0.1", "> 50000 | (income - 50000) * 0.2", "> 100000 | (income - 100000) * 0.1")
	decides(t, tax, vals(num(5, 3)), num(0, 0))
	decides(t, tax, vals(num(6, 4)), num(7, 3))
	decides(t, tax, vals(num(2, 5)), num(59, 3))
	risk := made(api.PolPriority, "age number, score number", "level text", `- | < 300 | "high"`, `< 25 | < 600 | "medium"`, `[25..65] | - | "low"`, `> 65 | < 600 | "medium"`, `- | >= 600 | "low"`, `< 25 | - | "medium"`)
	risk.Outs[0].Order = vals(text("high"), text("medium"), text("low"))
	decides(t, risk, vals(num(2, 1), num(7, 2)), text("medium"))
	decides(t, risk, vals(num(3, 1), num(2, 2)), text("high"))
	decides(t, risk, vals(num(3, 1), num(5, 2)), text("low"))
	decides(t, risk, vals(null, null), null)
	sign := made(api.PolUnique, "x number", "s text, n number", `< 0 | "negative" | -1`, `0 | "zero" | 0`, `> 0 | "positive" | 1`)
	decides(t, sign, vals(num(-5, -9)), list(text("negative"), num(-1, 0)))
	decides(t, sign, vals(num(0, 0)), list(text("zero"), num(0, 0)))
	decides(t, sign, vals(null), null)
}
