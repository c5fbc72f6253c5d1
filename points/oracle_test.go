package points_test

import (
	"fmt"
	"math/big"
	"math/rand"
	"reflect"
	"slices"
	"sort"
	"strings"
	"testing"

	"verdict/api"
	"verdict/logic"
	"verdict/points"
	"verdict/trials"
)

// The chapter's words once more, by other ways: fractions of any size, lists without maps, and all looked through from the first one on.

// valuesOf are all A and B that the tests have, as far as they are of that kind.
func valuesOf(kind int, l []api.Test) []api.Value {
	var out []api.Value
	for todo := slices.Clone(l); len(todo) > 0; todo = todo[1:] {
		t := todo[0]
		switch {
		case t.Kind == api.TeOr || t.Kind == api.TeNot:
			todo = append(todo, t.Kids...)
		case t.Kind == api.TeIn:
			out = append(out, t.A, t.B)
		case t.Kind != api.TeAny:
			out = append(out, t.A)
		}
	}
	return slices.DeleteFunc(out, func(v api.Value) bool { return v.Kind != kind })
}

func rational(d api.Dec) *big.Rat {
	r, _ := new(big.Rat).SetString(fmt.Sprintf("%de%d", d.Coef, d.Exp))
	return r
}

// decimal is a fraction as a number, all digits of it.
func decimal(t *testing.T, r *big.Rat) api.Dec {
	t.Helper()
	tenth := big.NewRat(1, 10)
	scaled, exp := new(big.Rat).Mul(r, big.NewRat(10000000000, 1)), -10
	if !scaled.IsInt() {
		t.Fatalf("%s has too many digits", r)
	}
	for scaled.Sign() != 0 {
		next := new(big.Rat).Mul(scaled, tenth)
		if !next.IsInt() {
			return api.Dec{Coef: scaled.Num().Int64(), Exp: exp}
		}
		scaled = next
		exp++
	}
	return api.Dec{}
}

func rationalEdges(l []api.Test) []*big.Rat {
	var edges []*big.Rat
	for _, v := range valuesOf(api.VNum, l) {
		edges = append(edges, rational(v.Num))
	}
	sort.Slice(edges, func(i, j int) bool { return edges[i].Cmp(edges[j]) < 0 })
	return slices.CompactFunc(edges, func(a, b *big.Rat) bool { return a.Cmp(b) == 0 })
}

func wantNumbers(t *testing.T, l []api.Test) []api.Value {
	edges := rationalEdges(l)
	if len(edges) == 0 {
		return numbers(0)
	}
	one := big.NewRat(1, 1)
	fractions := append([]*big.Rat{new(big.Rat).Sub(edges[0], one), new(big.Rat).Add(edges[len(edges)-1], one)}, edges...)
	for i := range edges[1:] {
		sum := new(big.Rat).Add(edges[i], edges[i+1])
		fractions = append(fractions, sum.Mul(sum, big.NewRat(1, 2)))
	}
	sort.Slice(fractions, func(i, j int) bool { return fractions[i].Cmp(fractions[j]) < 0 })
	var out []api.Value
	for _, r := range fractions {
		out = append(out, api.Value{Kind: api.VNum, Num: decimal(t, r)})
	}
	return out
}

// wantTexts tells too much by nothing.
func wantTexts(l []api.Test) []api.Value {
	all := []string{""}
	for _, v := range valuesOf(api.VText, l) {
		if len(v.Text) >= 1000 {
			return nil
		}
		all = append(all, v.Text, v.Text+string(rune(0)))
	}
	sort.Strings(all)
	return texts(slices.Compact(all)...)
}

func wantError(kind int, l []api.Test) api.Errno {
	if !strings.Contains(" 2 3 4 ", fmt.Sprintf(" %d ", kind)) {
		return api.ErrKind
	}
	if len(l) > 20 {
		return api.ErrMany
	}
	for _, x := range l {
		if err := trials.Wrong(x); err != api.OK {
			return err
		}
		for of, typ := range map[int]int{api.VBool: api.TyBool, api.VNum: api.TyNum, api.VText: api.TyText} {
			if typ != kind && len(valuesOf(of, []api.Test{x})) > 0 {
				return api.ErrType
			}
		}
	}
	return api.OK
}

func wantPoints(t *testing.T, kind int, l []api.Test) ([]api.Value, api.Errno) {
	if err := wantError(kind, l); err != api.OK {
		return nil, err
	}
	switch kind {
	case api.TyNum:
		return wantNumbers(t, l), api.OK
	case api.TyText:
		if want := wantTexts(l); want != nil {
			return want, api.OK
		}
		return nil, api.ErrMuch
	}
	return []api.Value{no, yes}, api.OK
}

// sides tells of each edge whether it is below, the same or above.
func sides(edges []*big.Rat, d api.Dec) string {
	out := ""
	for _, edge := range edges {
		out += fmt.Sprintf("%+d", edge.Cmp(rational(d)))
	}
	return out
}

// wantLike is the only point that stands on the same side of all edges, or the last text that is not more.
func wantLike(t *testing.T, kind int, l, all []api.Value, tests []api.Test) []int {
	edges := rationalEdges(tests)
	var out []int
	for _, v := range l {
		found := -1
		for i, p := range all {
			switch {
			case kind == api.TyBool && p.Yes == v.Yes, kind == api.TyText && p.Text <= v.Text:
				found = i
			case kind == api.TyNum && sides(edges, p.Num) == sides(edges, v.Num):
				if found >= 0 {
					t.Fatalf("%s and %s stand for %s", brief(all[found]), brief(p), brief(v))
				}
				found = i
			}
		}
		out = append(out, found)
	}
	return out
}

// dice makes things up, the same ones each time.
type dice struct {
	*rand.Rand
}

func (d dice) number() api.Value {
	switch d.Intn(4) {
	case 0:
		return num(int64(d.Intn(19)-9), 0)
	case 1:
		return api.Value{Kind: api.VNum, Num: trimmed(d.Int63n(2000000000000001)-1000000000000000, -6)}
	case 2:
		return api.Value{Kind: api.VNum, Num: trimmed(int64(d.Intn(21)-10), -6)}
	}
	return []api.Value{num(1, 9), num(-1, 9), num(999999999999999, -6), num(-999999999999999, -6), num(5, -1), num(1, 1), num(0, 0)}[d.Intn(7)]
}

func trimmed(coef int64, exp int) api.Dec {
	if coef == 0 {
		return api.Dec{}
	}
	for coef%10 == 0 {
		coef, exp = coef/10, exp+1
	}
	return api.Dec{Coef: coef, Exp: exp}
}

func (d dice) text() api.Value {
	runes := []rune{0, 1, 'a', 'b', 'é', 0x10ffff}
	s := ""
	for range d.Intn(4) {
		s += string(runes[d.Intn(len(runes))])
	}
	if d.Intn(200) == 0 {
		s = strings.Repeat("a", 997) + s
	}
	return text(s[:min(len(s), 1000)])
}

func (d dice) value(kind int) api.Value {
	switch kind {
	case api.TyNum:
		return d.number()
	case api.TyText:
		v := d.text()
		if logic.Wrong(v) == api.OK {
			return v
		}
		return text("")
	}
	return []api.Value{no, yes}[d.Intn(2)]
}

// test fits the kind; it is wrong only if it is nested too deep.
func (d dice) test(kind, deep int) api.Test {
	t := api.Test{A: d.value(kind), B: d.value(kind), OpenA: d.Intn(2) == 0, OpenB: d.Intn(2) == 0}
	choices := []int{api.TeAny, api.TeIs, api.TeIs, api.TeIs}
	if kind != api.TyBool {
		choices = append(choices, api.TeLt, api.TeLe, api.TeGt, api.TeGe, api.TeIn, api.TeIn)
	}
	if deep > 0 {
		choices = append(choices, api.TeOr, api.TeNot)
	}
	t.Kind = choices[d.Intn(len(choices))]
	if t.Kind == api.TeIs && d.Intn(6) == 0 {
		t.A = null
	}
	if deep > 0 {
		for range 1 + d.Intn(3) {
			t.Kids = append(t.Kids, d.test(kind, deep-1))
		}
	}
	return t
}

func (d dice) tests(kind int) []api.Test {
	var l []api.Test
	for range d.Intn(6) {
		l = append(l, d.test(kind, d.Intn(4)))
	}
	return l
}

// spoiled may be wrong in some way.
func (d dice) spoiled(kind int, l []api.Test) []api.Test {
	odd := []api.Test{{}, {Kind: 10}, or(), not(isA, isOne), isOne, isA, isTrue, test(api.TeLt, yes), test(api.TeIs, list()), test(api.TeGe, num(1, -7)), or(or(or(or(isNull)))), test(api.TeIs, text(long(1000))), test(api.TeIs, text(long(1001))), test(api.TeIs, text("\xff"))}
	for range d.Intn(3) {
		l = slices.Insert(l, d.Intn(len(l)+1), odd[d.Intn(len(odd))])
	}
	if d.Intn(5) == 0 {
		for len(l) < 19+d.Intn(3) {
			l = append(l, d.test(kind, 1))
		}
	}
	return l
}

func TestI1AgainstTheChapter(t *testing.T) {
	d := dice{rand.New(rand.NewSource(9))}
	told := map[api.Errno]int{}
	for range 30000 {
		kind := kinds()[d.Intn(3)]
		l := d.tests(kind)
		if d.Intn(3) == 0 {
			l = d.spoiled(kind, l)
		}
		if d.Intn(50) == 0 {
			kind = d.Intn(9) - 1
		}
		want, wantErr := wantPoints(t, kind, l)
		got, err := points.Points(kind, l)
		told[err]++
		if err != wantErr || len(got)+len(want) > 0 && !reflect.DeepEqual(got, want) {
			t.Fatalf("%s, %d: %s, %d comes, not %s, %d", brief(l), kind, brief(got), err, brief(want), wantErr)
		}
		for _, p := range got {
			if wrong := logic.Wrong(p); wrong != api.OK {
				t.Fatalf("%s, %d: %s is no value: %d", brief(l), kind, brief(p), wrong)
			}
		}
	}
	for _, err := range []api.Errno{api.ErrKind, api.ErrMany, api.ErrMuch, api.ErrType, api.ErrForm, api.ErrFit, api.ErrRange} {
		if told[err] < 20 {
			t.Errorf("%d comes but %d times", err, told[err])
		}
	}
	if told[api.OK] < 20000 {
		t.Errorf("only %d were right", told[api.OK])
	}
}

// near are values beside the points, and others.
func (d dice) near(kind int, all []api.Value) []api.Value {
	l := slices.Clone(all)
	for range 6 {
		l = append(l, d.value(kind))
	}
	p := all[d.Intn(len(all))]
	switch kind {
	case api.TyNum:
		exp := -9 - d.Intn(3)
		for _, by := range []int64{-1, 1} {
			r := rational(p.Num)
			r.Mul(r, new(big.Rat).Inv(rational(api.Dec{Coef: 1, Exp: exp})))
			if coef := r.Num().Int64() + by; r.Num().IsInt64() && max(coef, -coef) <= api.MaxCoef {
				l = append(l, api.Value{Kind: api.VNum, Num: trimmed(coef, exp)})
			}
		}
		l = append(l, num(1, 40), num(-1, 40), num(1, -40), num(-1, -40))
	case api.TyText:
		l = append(l, text(p.Text[:max(0, len(p.Text)-1)]), text(p.Text+"\x00"), text(p.Text+"a"))
	}
	return slices.DeleteFunc(l, func(v api.Value) bool { return logic.Wrong(v) != api.OK })
}

// One value stands for all that the tests can't tell apart: Like finds it, and each test, and each kid of it, says the same of both.
func TestI2AgainstTheChapter(t *testing.T) {
	d := dice{rand.New(rand.NewSource(10))}
	for range 4000 {
		kind := kinds()[d.Intn(3)]
		l := d.tests(kind)
		all, err := points.Points(kind, l)
		if err == api.ErrMuch {
			continue
		}
		values := d.near(kind, all)
		for i, want := range wantLike(t, kind, values, all, l) {
			got, err := points.Like(kind, l, values[i])
			if err != api.OK || got != want {
				t.Fatalf("%s, %s: %d, %d comes, not %d", brief(l), brief(values[i]), got, err, want)
			}
			saysTheSame(t, l, values[i], all[got])
		}
		for i, p := range all {
			if got, err := points.Like(kind, l, p); err != api.OK || got != i {
				t.Fatalf("%s: %s is like %d, %d, not like itself", brief(l), brief(p), got, err)
			}
		}
	}
}

func saysTheSame(t *testing.T, l []api.Test, v, p api.Value) {
	t.Helper()
	for _, x := range l {
		of, err := trials.Does(x, v)
		like, likeErr := trials.Does(x, p)
		if err != api.OK || likeErr != api.OK || !reflect.DeepEqual(of, like) {
			t.Fatalf("%s: %s of %s, %s of %s", brief(x), brief(of), brief(v), brief(like), brief(p))
		}
		if x.Kind == api.TeOr || x.Kind == api.TeNot {
			saysTheSame(t, x.Kids, v, p)
		}
	}
}
