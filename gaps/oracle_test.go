package gaps_test

import (
	"math/rand"
	"reflect"
	"slices"
	"testing"

	"verdict/api"
	"verdict/gaps"
	"verdict/logic"
	"verdict/points"
	"verdict/table"
)

// The chapter's words once more, by other ways: lists are numbered, and each of them is handed to Hits.

// seen is a list, and the rules that hit it.
type seen struct {
	vals []api.Value
	hits []int
}

// looked is all lists, in order: the number of a list is written with one digit for each input, the last one's counting least.
func looked(x api.Table) ([]seen, api.Errno) {
	if err := table.Wrong(x); err != api.OK {
		return nil, err
	}
	var all [][]api.Value
	many := 1
	for i, c := range x.Ins {
		var tests []api.Test
		for _, r := range x.Rules {
			tests = append(tests, r.Tests[i])
		}
		l, err := points.Points(c.Kind, tests)
		if err != api.OK {
			return nil, err
		}
		if many *= len(l); many > 20000 {
			return nil, api.ErrMuch
		}
		all = append(all, l)
	}
	lists := make([]seen, many)
	for n := range lists {
		rest := n
		for _, l := range slices.Backward(all) {
			lists[n].vals = append(vals(l[rest%len(l)]), lists[n].vals...)
			rest /= len(l)
		}
		lists[n].hits, _ = table.Hits(x, lists[n].vals)
	}
	return lists, api.OK
}

// wantFirst is the first list that is as asked.
func wantFirst(lists []seen, asked func(hits []int) bool) ([]api.Value, bool) {
	i := slices.IndexFunc(lists, func(one seen) bool { return asked(one.hits) })
	if i < 0 {
		return nil, false
	}
	return lists[i].vals, true
}

func wantMasked(x api.Table, lists []seen) []int {
	var masked []int
	for i := range x.Rules {
		if !slices.ContainsFunc(lists, func(one seen) bool { return len(one.hits) > 0 && one.hits[0] == i }) {
			masked = append(masked, i)
		}
	}
	return masked
}

// holds checks all calls against the chapter.
func holds(t *testing.T, x api.Table) (lists []seen, err api.Errno) {
	t.Helper()
	lists, err = looked(x)
	if err != api.OK {
		refuses(t, x, err)
		return nil, err
	}
	told := func(l []api.Value, ok bool, err api.Errno, asked func(hits []int) bool) {
		t.Helper()
		want, wantOk := wantFirst(lists, asked)
		if err != api.OK || ok != wantOk || !reflect.DeepEqual(l, want) {
			t.Fatalf("%+v: %+v, %v, %d comes, not %+v, %v", x, l, ok, err, want, wantOk)
		}
	}
	l, ok, err := gaps.Gap(x)
	told(l, ok, err, func(hits []int) bool { return len(hits) == 0 })
	for i := range x.Rules {
		for j := range x.Rules {
			if i != j {
				l, ok, err := gaps.Overlap(x, i, j)
				told(l, ok, err, func(hits []int) bool { return slices.Contains(hits, i) && slices.Contains(hits, j) })
			}
		}
	}
	outOfRange(t, x, 0, len(x.Rules))
	_, twice := wantFirst(lists, func(hits []int) bool { return len(hits) > 1 })
	unique(t, x, !twice)
	masked(t, x, wantMasked(x, lists)...)
	return lists, api.OK
}

// dice makes things up, the same ones each time.
type dice struct {
	*rand.Rand
}

func pick[E any](d dice, l ...E) E { return l[d.Intn(len(l))] }

// value is one of so few that many are the same.
func (d dice) value(kind int) api.Value {
	switch kind {
	case api.TyBool:
		return pick(d, yes, no)
	case api.TyNum:
		return pick(d, num(0, 0), num(1, 0), num(2, 0), num(3, 0), num(-1, 0), num(25, -1), num(1, 1), num(-1, 9), num(1, 9), num(999999999999999, -6))
	}
	return pick(d, text(""), text("x"), text("y"), text("é"), text("xx"), text("x\x00"), text(long(api.MaxText-1)))
}

func (d dice) test(kind, deep int) api.Test {
	if deep > 0 && d.Intn(3) == 0 {
		t := api.Test{Kind: pick(d, api.TeOr, api.TeNot)}
		for range 1 + d.Intn(3) {
			t.Kids = append(t.Kids, d.test(kind, deep-1))
		}
		return t
	}
	if d.Intn(3) == 0 {
		return api.Test{Kind: api.TeAny}
	}
	if kind == api.TyBool || d.Intn(4) == 0 {
		return api.Test{Kind: api.TeIs, A: pick(d, null, d.value(kind), d.value(kind), d.value(kind))}
	}
	return api.Test{Kind: pick(d, api.TeLt, api.TeLe, api.TeGt, api.TeGe, api.TeIn, api.TeIn), A: d.value(kind), B: d.value(kind), OpenA: d.Intn(2) == 0, OpenB: d.Intn(2) == 0}
}

func (d dice) table() api.Table {
	kinds := "" + pick(d, "b", "n", "t") + pick(d, "", "b", "n", "t")
	if len(kinds) == 2 {
		kinds += pick(d, "", "b", "n", "t")
	}
	x := made(kinds)
	deep := d.Intn(4)
	for range d.Intn(pick(d, 4, 11)) {
		r := api.Rule{Outs: []api.Expr{expr("1")}}
		for _, c := range x.Ins {
			r.Tests = append(r.Tests, d.test(c.Kind, deep))
		}
		x.Rules = append(x.Rules, r)
	}
	return x
}

// near is a value of the kind, at an edge, beside it, or anywhere.
func (d dice) near(kind int) api.Value {
	v := d.value(kind)
	switch kind {
	case api.TyNum:
		return pick(d, v, v, num(d.Int63n(41)*2-41, -1), num(d.Int63n(200001)*2-200001, -5), num(1, 40), num(-1, 40), num(1, -40))
	case api.TyText:
		if len(v.Text) < 10 {
			v.Text += pick(d, "", "", "\x00", "a", "x", "~")
		}
	}
	return v
}

// What is found among the points holds of all values of the kinds: where nothing is open some rule hits, whatever comes.
func (d dice) whateverComes(t *testing.T, x api.Table) {
	t.Helper()
	_, open, _ := gaps.Gap(x)
	once, _ := gaps.Unique(x)
	hidden, _ := gaps.Masked(x)
	for range 20 {
		var l []api.Value
		for _, c := range x.Ins {
			l = append(l, d.near(c.Kind))
		}
		hits, err := table.Hits(x, l)
		if err != api.OK || !open && len(hits) == 0 || once && len(hits) > 1 || len(hits) > 0 && slices.Contains(hidden, hits[0]) {
			t.Fatalf("%+v: %+v is hit by %v, %d; open %v, once %v, masked %v", x, l, hits, err, open, once, hidden)
		}
		for i, one := range hits {
			for _, other := range hits[:i] {
				if _, ok, err := gaps.Overlap(x, one, other); !ok || err != api.OK {
					t.Fatalf("%+v: %+v is hit by %d and %d", x, l, one, other)
				}
			}
		}
	}
}

func TestK1K2AgainstTheChapter(t *testing.T) {
	d := dice{rand.New(rand.NewSource(11))}
	came := map[string]int{}
	for range 700 {
		x := d.table()
		if d.Intn(10) == 0 && len(x.Rules) > 0 {
			x.Rules[d.Intn(len(x.Rules))].Tests[0] = api.Test{Kind: api.TeIs, A: pick(d, text(long(api.MaxText)), num(5, -7), yes, null, text("\xff"))}
		}
		lists, err := holds(t, x)
		if err != api.OK {
			came["wrong"]++
			continue
		}
		count(came, lists, len(x.Rules))
		d.whateverComes(t, x)
	}
	for _, s := range []string{"wrong", "open", "closed", "unique", "twice", "large"} {
		if came[s] < 20 {
			t.Errorf("%s: %v", s, came)
		}
	}
}

// count keeps in view that tables of all sorts come.
func count(came map[string]int, lists []seen, rules int) {
	if _, ok := wantFirst(lists, func(hits []int) bool { return len(hits) == 0 }); ok {
		came["open"]++
	} else {
		came["closed"]++
	}
	if _, ok := wantFirst(lists, func(hits []int) bool { return len(hits) > 1 }); ok {
		came["twice"]++
	} else if rules > 1 {
		came["unique"]++
	}
	if len(lists) > 300 {
		came["large"]++
	}
}

// Each test by itself, of each kind, with all values that tell apart and with all ways to be open: all lists that it does not hit.
func TestK2EachTest(t *testing.T) {
	for kinds, l := range map[string][]api.Value{"b": {no, yes, null}, "n": {num(-5, 0), num(0, 0), num(5, -1), num(1, 0), null}, "t": {text(""), text("a"), text("a\x00"), text("b"), null}} {
		for _, a := range l {
			for _, b := range l {
				for kind := api.TeAny; kind <= api.TeIn; kind++ {
					for open := range 4 {
						x := made(kinds, "-")
						one := api.Test{Kind: kind, A: a, B: b, OpenA: open&1 > 0, OpenB: open&2 > 0}
						x.Rules[0].Tests[0] = one
						holds(t, x)
						x.Rules[0].Tests[0] = api.Test{Kind: api.TeNot, Kids: []api.Test{one}}
						holds(t, x)
						x.Rules = append(x.Rules, made(kinds, "-").Rules...)
						x.Rules[1].Tests[0] = api.Test{Kind: api.TeOr, Kids: []api.Test{one, {Kind: api.TeIs, A: b}}}
						holds(t, x)
					}
				}
			}
		}
	}
}

// What is told is of the kinds that the inputs have, and nothing is wrong with it: Hits takes it.
func TestK2AnswersAreInputs(t *testing.T) {
	d := dice{rand.New(rand.NewSource(12))}
	for range 500 {
		x := d.table()
		l, ok, err := gaps.Gap(x)
		if err != api.OK || !ok {
			continue
		}
		for _, v := range l {
			if err := logic.Wrong(v); err != api.OK {
				t.Fatalf("%+v: %d", v, err)
			}
		}
		if hits, err := table.Hits(x, l); err != api.OK || len(hits) > 0 {
			t.Fatalf("%+v: %v, %d", l, hits, err)
		}
	}
}
