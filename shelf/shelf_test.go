package shelf_test

import (
	"fmt"
	"reflect"
	"slices"
	"strings"
	"sync"
	"testing"

	"verdict/api"
	"verdict/sheet"
	"verdict/shelf"
	"verdict/table"
)

var (
	null = api.Value{Kind: api.VNull}
	yes  = api.Value{Kind: api.VBool, Yes: true}
	no   = api.Value{Kind: api.VBool}
)

// tenths is the number of so many tenths.
func tenths(n int) api.Value {
	d := api.Dec{Coef: int64(n), Exp: -1}
	for d.Coef != 0 && d.Coef%10 == 0 {
		d.Coef, d.Exp = d.Coef/10, d.Exp+1
	}
	if d.Coef == 0 {
		d.Exp = 0
	}
	return api.Value{Kind: api.VNum, Num: d}
}

func num(n int) api.Value { return tenths(10 * n) }

func text(s string) api.Value { return api.Value{Kind: api.VText, Text: s} }

func truth(b bool) api.Value { return api.Value{Kind: api.VBool, Yes: b} }

func list(l ...api.Value) api.Value { return api.Value{Kind: api.VList, List: l} }

func vals(l ...api.Value) []api.Value { return l }

// plain is the value without the difference between nil and no entries.
func plain(v api.Value) api.Value {
	if len(v.List) == 0 {
		v.List = nil
		return v
	}
	l := make([]api.Value, 0, len(v.List))
	for _, e := range v.List {
		l = append(l, plain(e))
	}
	v.List = l
	return v
}

func asks(t *testing.T, name string, l []api.Value, want api.Value, wantErr api.Errno) {
	t.Helper()
	v, err := shelf.Ask(name, l)
	if err != wantErr || !reflect.DeepEqual(plain(v), plain(want)) {
		t.Errorf("%s of %v: %v, %d, not %v, %d", name, l, v, err, want, wantErr)
	}
}

// read is the table that the shelf's text has: one that can't be read is a mistake of the shelf.
func read(t *testing.T, name string) api.Table {
	t.Helper()
	s, err := shelf.Text(name)
	if err != api.OK {
		t.Fatalf("%s: %d", name, err)
	}
	u, fault := sheet.Read(s)
	if fault.Err != api.OK {
		t.Fatalf("%s: %v", name, fault)
	}
	return u
}

func TestT1NamesRise(t *testing.T) {
	var want []string
	for _, c := range chapter {
		want = append(want, c.name)
	}
	got := shelf.Names()
	if !slices.Equal(got, want) {
		t.Errorf("%v, not %v", got, want)
	}
	if len(got) != 18 || !slices.IsSorted(got) {
		t.Errorf("%d names, or they do not rise: %v", len(got), got)
	}
}

func TestT1TextsToTheByte(t *testing.T) {
	for _, c := range chapter {
		got, err := shelf.Text(c.name)
		if err != api.OK || got != written(c.lines) {
			t.Errorf("%s: %q, %d", c.name, got, err)
		}
		if strings.Count(got, "\n") != len(c.lines) || !strings.HasSuffix(got, "\n") {
			t.Errorf("%s: not each line has a line feed behind it: %q", c.name, got)
		}
	}
}

func TestT1TextsSayTheirNames(t *testing.T) {
	for _, name := range shelf.Names() {
		if u := read(t, name); u.Name != name {
			t.Errorf("the text of %s is of %s", name, u.Name)
		}
	}
}

func unknownNames() []string {
	return []string{"", "nobody", "Clamp", "CLAMP", "clam", "clamps", " clamp", "clamp ", "clamp\n", "clamp\x00", "table clamp", "claмp", "\xff", "votes", "a", "zzz", strings.Repeat("clamp", 1000)}
}

func TestT1UnknownNames(t *testing.T) {
	wrong := [][]api.Value{nil, {}, vals(num(1)), vals(api.Value{}), vals(api.Value{Kind: 9}, num(1), yes, no)}
	for _, name := range unknownNames() {
		if s, err := shelf.Text(name); s != "" || err != api.ErrName {
			t.Errorf("%q: %q, %d", name, s, err)
		}
		for _, l := range wrong {
			asks(t, name, l, api.Value{}, api.ErrName)
		}
	}
}

func TestT1AskOrdinary(t *testing.T) {
	for _, c := range []struct {
		name string
		vals []api.Value
		want api.Value
	}{
		{"grade", vals(num(85)), text("B")},
		{"clamp", vals(num(-3)), num(0)},
		{"clamp", vals(num(101)), num(100)},
		{"clamp", vals(tenths(995)), tenths(995)},
		{"discount", vals(num(100), yes), num(10)},
		{"dish", vals(text("winter"), num(8)), text("roast")},
		{"dish", vals(text("Winter"), num(8)), text("pasta")},
		{"fee", vals(num(45)), num(90)},
		{"fizz", vals(num(30)), text("fizzbuzz")},
		{"fizz", vals(num(31)), null},
		{"hints", vals(num(-1), yes), num(3)},
		{"hints", vals(num(20), no), num(0)},
		{"initials", vals(text("élan"), text("vital")), text("ÉV")},
		{"middle", vals(num(9), num(-2), num(4)), num(4)},
		{"month", vals(num(2), yes), num(29)},
		{"month", vals(num(13), no), null},
		{"reasons", vals(num(17), num(1001)), list(text("too young"), text("too much debt"))},
		{"reasons", vals(num(30), num(0)), null},
		{"risk", vals(num(20), num(650)), text("medium")},
		{"risk", vals(num(40), num(299)), text("high")},
		{"shipping", vals(num(3), yes), num(12)},
		{"sign", vals(tenths(-1)), list(text("negative"), num(-1))},
		{"tax", vals(num(120000)), num(27000)},
		{"tickets", vals(num(70), yes, num(12)), num(12)},
		{"triangle", vals(num(3), num(4), num(5)), text("any")},
		{"vote", vals(yes, no, yes), yes},
	} {
		asks(t, c.name, c.vals, c.want, api.OK)
	}
}

// Null is known to be equal to null alone, so that it hits "not of these", and floor(null / 15) * 15 is what null is; what is less or more than it is not known.
func TestT1AskNull(t *testing.T) {
	for _, c := range []struct {
		name string
		vals []api.Value
		want api.Value
	}{
		{"clamp", vals(null), null},
		{"discount", vals(null, yes), null},
		{"discount", vals(num(1000), null), num(15)},
		{"discount", vals(num(999), null), null},
		{"dish", vals(null, num(1)), text("steak")},
		{"dish", vals(null, null), null},
		{"dish", vals(text("summer"), null), text("salad")},
		{"fee", vals(null), null},
		{"fizz", vals(null), text("fizzbuzz")},
		{"grade", vals(null), text("F")},
		{"hints", vals(null, yes), num(1)},
		{"hints", vals(null, null), num(0)},
		{"initials", vals(null, text("a")), null},
		{"initials", vals(null, text("")), text("?")},
		{"middle", vals(num(1), null, num(2)), null},
		{"triangle", vals(null, num(1), null), text("two equal")},
		{"month", vals(num(7), null), num(31)},
		{"month", vals(num(2), null), null},
		{"reasons", vals(null, num(2000)), list(text("too much debt"))},
		{"risk", vals(null, num(299)), text("high")},
		{"risk", vals(null, num(300)), null},
		{"risk", vals(num(24), null), text("medium")},
		{"sign", vals(null), null},
		{"tax", vals(null), num(0)},
		{"tickets", vals(null, null, null), num(20)},
		{"vote", vals(yes, null, yes), yes},
		{"vote", vals(no, null, no), no},
		{"vote", vals(no, null, yes), null},
	} {
		asks(t, c.name, c.vals, c.want, api.OK)
	}
}

func TestT1AskEdges(t *testing.T) {
	for _, c := range []struct {
		name string
		vals []api.Value
		want api.Value
	}{
		{"clamp", vals(num(0)), num(0)},
		{"clamp", vals(num(100)), num(100)},
		{"clamp", vals(api.Value{Kind: api.VNum, Num: api.Dec{Coef: -1, Exp: -api.MaxExp}}), num(0)},
		{"clamp", vals(api.Value{Kind: api.VNum, Num: api.Dec{Coef: 1, Exp: -api.MaxExp}}), api.Value{Kind: api.VNum, Num: api.Dec{Coef: 1, Exp: -api.MaxExp}}},
		{"clamp", vals(api.Value{Kind: api.VNum, Num: api.Dec{Coef: api.MaxCoef, Exp: api.MaxExp}}), num(100)},
		{"initials", vals(text("a"), text("")), text("?")},
		{"initials", vals(text("ß"), text("日本")), text("ß日")},
		{"reasons", vals(num(18), num(1000)), null},
		{"reasons", vals(num(80), num(1000)), null},
		{"sign", vals(num(0)), list(text("zero"), num(0))},
		{"tickets", vals(num(6), no, num(0)), num(10)},
		{"tickets", vals(num(18), no, num(9)), num(20)},
		{"tickets", vals(num(18), no, num(10)), num(15)},
		{"tickets", vals(num(65), no, num(10)), num(14)},
		{"triangle", vals(num(1), num(2), num(3)), text("none")},
		{"triangle", vals(num(2), num(2), num(2)), text("equal")},
		{"triangle", vals(num(2), num(3), num(2)), text("two equal")},
		{"fizz", vals(num(0)), text("fizzbuzz")},
		{"fizz", vals(tenths(75)), null},
		{"fizz", vals(num(-9)), text("fizz")},
	} {
		asks(t, c.name, c.vals, c.want, api.OK)
	}
}

// What grows beyond the numbers is null.
func TestT1AskBeyondNumbers(t *testing.T) {
	most := api.Value{Kind: api.VNum, Num: api.Dec{Coef: api.MaxCoef, Exp: api.MaxExp}}
	asks(t, "fee", vals(most), null, api.OK)
	asks(t, "shipping", vals(most, yes), null, api.OK)
	asks(t, "triangle", vals(most, most, most), text("equal"), api.OK)
}

func TestT1AskWrongValues(t *testing.T) {
	deep := list()
	for range api.MaxDepth + 1 {
		deep = list(deep)
	}
	for _, c := range []struct {
		name string
		vals []api.Value
		want api.Errno
	}{
		{"clamp", nil, api.ErrMany},
		{"clamp", vals(num(1), num(1)), api.ErrMany},
		{"discount", vals(num(1)), api.ErrMany},
		{"discount", vals(num(1), yes, yes), api.ErrMany},
		{"tickets", vals(num(1), yes), api.ErrMany},
		{"clamp", vals(api.Value{}), api.ErrKind},
		{"clamp", vals(api.Value{Kind: 6}), api.ErrKind},
		{"clamp", vals(api.Value{Kind: api.VNum, Num: api.Dec{Coef: 10}}), api.ErrForm},
		{"clamp", vals(api.Value{Kind: api.VNum, Num: api.Dec{Coef: 1, Exp: api.MaxExp + 1}}), api.ErrRange},
		{"clamp", vals(api.Value{Kind: api.VNum, Num: api.Dec{Coef: api.MaxCoef + 1}}), api.ErrRange},
		{"initials", vals(text(strings.Repeat("a", api.MaxText+1)), text("b")), api.ErrMuch},
		{"initials", vals(text("\xff"), text("b")), api.ErrForm},
		{"clamp", vals(deep), api.ErrMuch},
		{"clamp", vals(text("1")), api.ErrType},
		{"clamp", vals(list(num(1))), api.ErrType},
		{"vote", vals(yes, no, num(1)), api.ErrType},
		{"dish", vals(num(1), num(1)), api.ErrType},
		{"discount", vals(yes, num(1)), api.ErrType},
		{"discount", vals(yes, api.Value{}), api.ErrType},
		{"discount", vals(api.Value{}, num(1)), api.ErrKind},
		{"discount", vals(api.Value{}), api.ErrMany},
	} {
		want := c.want
		if _, err := table.Decide(read(t, c.name), c.vals); err != want {
			t.Errorf("%s of %v: the test asks for %d, and Decide tells %d", c.name, c.vals, want, err)
		}
		asks(t, c.name, c.vals, api.Value{}, want)
	}
}

func TestZ2ValuesAreOnlyRead(t *testing.T) {
	room := append(make([]api.Value, 0, 8), num(17), num(5000))
	spare := room[:4]
	spare[2], spare[3] = text("kept"), list(num(1))
	before := fmt.Sprint(spare)
	for _, name := range shelf.Names() {
		shelf.Ask(name, room)
		shelf.Ask(name, room[:1])
		shelf.Ask(name, spare[:3])
	}
	if fmt.Sprint(spare) != before {
		t.Errorf("%v was %s", spare, before)
	}
}

func TestZ2AnswersAreNew(t *testing.T) {
	want := vals(text("too young"), text("too much debt"))
	for range 2 {
		v, _ := shelf.Ask("reasons", vals(num(17), num(5000)))
		if !reflect.DeepEqual(v.List, want) {
			t.Fatalf("%v", v)
		}
		spoil(v.List)
		names := shelf.Names()
		if len(names) != 18 || names[0] != "clamp" || names[17] != "vote" {
			t.Fatalf("%v", names)
		}
		for i := range names[:cap(names)] {
			names[:cap(names)][i] = "spoilt"
		}
	}
	asks(t, "reasons", vals(num(17), num(5000)), list(want...), api.OK)
	if s, err := shelf.Text("spoilt"); s != "" || err != api.ErrName {
		t.Errorf("%q, %d", s, err)
	}
}

func spoil(l []api.Value) {
	for i := range l[:cap(l)] {
		l[:cap(l)][i] = num(7)
	}
}

func TestZ1ManyAskAtOnce(t *testing.T) {
	var wg sync.WaitGroup
	for i := range 8 {
		wg.Go(func() {
			for _, name := range shelf.Names() {
				s, err := shelf.Text(name)
				if err != api.OK || s == "" {
					t.Errorf("%d: %s: %q, %d", i, name, s, err)
				}
				shelf.Ask(name, vals(num(i)))
			}
			asks(t, "grade", vals(num(85)), text("B"), api.OK)
		})
	}
	wg.Wait()
}
