package shelf_test

import (
	"math/rand"
	"reflect"
	"slices"
	"testing"
	"unicode"
	"unicode/utf8"

	"verdict/api"
	"verdict/gaps"
	"verdict/sheet"
	"verdict/shelf"
	"verdict/table"
)

// What each table is meant to say, once more, in Go's own words.

// given is a value that comes in, numbers as so many tenths.
type given struct {
	n   int
	yes bool
	s   string
}

var meant = map[string]func(in []given) api.Value{
	"clamp":    func(in []given) api.Value { return tenths(min(max(in[0].n, 0), 1000)) },
	"discount": func(in []given) api.Value { return num(rate(in[0].n, in[1].yes)) },
	"dish":     func(in []given) api.Value { return text(meal(in[0].s, in[1].n)) },
	"fee":      func(in []given) api.Value { return tenths(due(in[0].n)) },
	"fizz":     func(in []given) api.Value { return word(in[0].n) },
	"grade":    func(in []given) api.Value { return text(mark(in[0].n)) },
	"hints": func(in []given) api.Value {
		return num(many(in[0].n < 0, in[0].n < 100 && in[1].yes, in[1].yes, in[0].n > 300))
	},
	"initials": func(in []given) api.Value { return text(letters(in[0].s, in[1].s)) },
	"middle": func(in []given) api.Value {
		l := []int{in[0].n, in[1].n, in[2].n}
		slices.Sort(l)
		return tenths(l[1])
	},
	"month":    func(in []given) api.Value { return days(in[0].n, in[1].yes) },
	"reasons":  func(in []given) api.Value { return why(in[0].n, in[1].n) },
	"risk":     func(in []given) api.Value { return text(level(in[0].n, in[1].n)) },
	"shipping": func(in []given) api.Value { return price(in[0].n, in[1].yes) },
	"sign":     func(in []given) api.Value { return signed(in[0].n) },
	"tax":      func(in []given) api.Value { return taxed(in[0].n) },
	"tickets":  func(in []given) api.Value { return num(ticket(in[0].n, in[1].yes, in[2].n)) },
	"triangle": func(in []given) api.Value { return text(sides(in[0].n, in[1].n, in[2].n)) },
	"vote":     func(in []given) api.Value { return truth(many(in[0].yes, in[1].yes, in[2].yes) >= 2) },
}

// many tells how many of these are so.
func many(l ...bool) int {
	n := 0
	for _, b := range l {
		if b {
			n++
		}
	}
	return n
}

func rate(amount int, member bool) int {
	switch {
	case amount >= 10000:
		return 15
	case amount >= 1000:
		return 5 + 5*many(member)
	}
	return 5 * many(member)
}

func meal(season string, guests int) string {
	switch {
	case season == "summer":
		return "salad"
	case season == "winter" && guests <= 80:
		return "roast"
	case season == "winter":
		return "stew"
	case guests <= 40:
		return "steak"
	}
	return "pasta"
}

// Up to 10 days 2 each; then 25 at least; beyond 30 days 2 each is more than 20 above them.
func due(days int) int {
	if days <= 0 {
		return 0
	}
	most := 2 * days
	if days > 100 {
		most = max(most, 250)
	}
	return most
}

func word(n int) api.Value {
	switch {
	case n%150 == 0:
		return text("fizzbuzz")
	case n%30 == 0:
		return text("fizz")
	case n%50 == 0:
		return text("buzz")
	}
	return null
}

func mark(points int) string {
	for i, least := range []int{900, 800, 700} {
		if points >= least {
			return "ABC"[i : i+1]
		}
	}
	return "F"
}

func letters(first, last string) string {
	if first == "" || last == "" {
		return "?"
	}
	a, _ := utf8.DecodeRuneInString(first)
	b, _ := utf8.DecodeRuneInString(last)
	return string(unicode.ToUpper(a)) + string(unicode.ToUpper(b))
}

func days(month int, leap bool) api.Value {
	if month%10 != 0 || month < 10 || month > 120 {
		return null
	}
	return num([]int{31, 28 + many(leap), 31, 30, 31, 30, 31, 31, 30, 31, 30, 31}[month/10-1])
}

func why(age, debt int) api.Value {
	l := vals()
	if age < 180 {
		l = append(l, text("too young"))
	}
	if age > 800 {
		l = append(l, text("too old"))
	}
	if debt > 10000 {
		l = append(l, text("too much debt"))
	}
	if len(l) == 0 {
		return null
	}
	return list(l...)
}

func level(age, score int) string {
	switch {
	case score < 3000:
		return "high"
	case age < 250, age > 650 && score < 6000:
		return "medium"
	}
	return "low"
}

func price(kilos int, far bool) api.Value {
	first, more := 400+300*many(far), 15+10*many(far)
	return hundredths(first + max(kilos-10, 0)*more)
}

func hundredths(n int) api.Value {
	if n%10 == 0 {
		return tenths(n / 10)
	}
	return api.Value{Kind: api.VNum, Num: api.Dec{Coef: int64(n), Exp: -2}}
}

func signed(n int) api.Value {
	switch {
	case n < 0:
		return list(text("negative"), num(-1))
	case n > 0:
		return list(text("positive"), num(1))
	}
	return list(text("zero"), num(0))
}

// A tenth of what is above 10000, three of what is above 50000, four of what is above 100000.
func taxed(income int) api.Value {
	a, b, c := max(income-100000, 0), max(income-500000, 0), max(income-1000000, 0)
	return hundredths(a + 2*b + c)
}

func ticket(age int, student bool, group int) int {
	least := 20
	for _, c := range []struct {
		so    bool
		price int
	}{{age < 60, 0}, {age >= 60 && age < 180, 10}, {student, 12}, {age >= 650, 14}, {group >= 100, 15}} {
		if c.so {
			least = min(least, c.price)
		}
	}
	return least
}

func sides(a, b, c int) string {
	l := []int{a, b, c}
	slices.Sort(l)
	switch {
	case l[0]+l[1] <= l[2]:
		return "none"
	case l[0] == l[2]:
		return "equal"
	case l[0] == l[1] || l[1] == l[2]:
		return "two equal"
	}
	return "any"
}

// whole are the numbers about which the tables ask; dice takes these, and what lies a little beside them.
var whole = []int{-15, -1, 0, 1, 2, 3, 4, 5, 6, 7, 8, 9, 10, 11, 12, 13, 15, 18, 25, 30, 65, 70, 80, 90, 100, 300, 600, 1000, 10000, 50000, 100000}

var words = []string{"", "winter", "summer", "Winter", "winter ", "spring", "é", "ǆ", "日本", "a\x00", "zoe"}

func dice(r *rand.Rand, kind int) (given, api.Value) {
	switch kind {
	case api.TyBool:
		b := r.Intn(2) == 1
		return given{yes: b}, truth(b)
	case api.TyText:
		s := words[r.Intn(len(words))]
		return given{s: s}, text(s)
	}
	n := 10 * whole[r.Intn(len(whole))]
	if r.Intn(2) == 1 {
		n += r.Intn(21) - 10
	}
	return given{n: n}, tenths(n)
}

// drawn is an input for the table.
func drawn(r *rand.Rand, u api.Table) ([]given, []api.Value) {
	var in []given
	var l []api.Value
	for _, c := range u.Ins {
		g, v := dice(r, c.Kind)
		in, l = append(in, g), append(l, v)
	}
	return in, l
}

func TestT1AskAsIsMeant(t *testing.T) {
	r := rand.New(rand.NewSource(19))
	if len(meant) != len(shelf.Names()) {
		t.Errorf("%d tables are known here", len(meant))
	}
	for _, name := range shelf.Names() {
		u := read(t, name)
		for range 1500 {
			in, l := drawn(r, u)
			asks(t, name, l, meant[name](in), api.OK)
		}
	}
}

// anything is any value at all, perhaps a wrong one.
func anything(r *rand.Rand, deep int) api.Value {
	switch r.Intn(9) {
	case 0:
		return null
	case 1:
		return api.Value{Kind: r.Intn(9) - 1, Yes: true, Text: "a", Num: api.Dec{Coef: 3}}
	case 2:
		return api.Value{Kind: api.VNum, Num: api.Dec{Coef: r.Int63() - r.Int63(), Exp: r.Intn(100) - 50}}
	case 3:
		if deep == 0 {
			return list()
		}
		return list(anything(r, deep-1), anything(r, deep-1))
	}
	_, v := dice(r, []int{api.TyBool, api.TyNum, api.TyText}[r.Intn(3)])
	return v
}

// Whatever is asked, it is what Decide tells of the table that the chapter's text is read as.
func TestT1AskIsDecide(t *testing.T) {
	r := rand.New(rand.NewSource(1919))
	for _, c := range chapter {
		u, fault := sheet.Read(written(c.lines))
		if fault.Err != api.OK {
			t.Fatalf("%s: %v", c.name, fault)
		}
		for range 1000 {
			_, l := drawn(r, u)
			if r.Intn(3) > 0 {
				l[r.Intn(len(l))] = anything(r, 2)
			}
			if r.Intn(10) == 0 {
				l = append(l, anything(r, 2))
			}
			want, err := table.Decide(u, l)
			asks(t, c.name, l, want, err)
		}
	}
}

var (
	open     = []string{"hints", "month", "reasons"}
	distinct = []string{"discount", "dish", "month", "shipping", "sign"}
)

func TestT2NoGap(t *testing.T) {
	for _, name := range shelf.Names() {
		u := read(t, name)
		l, found, err := gaps.Gap(u)
		if err != api.OK || found != slices.Contains(open, name) {
			t.Errorf("%s: %v, %v, %d", name, l, found, err)
		}
		if !found {
			continue
		}
		if hits, err := table.Hits(u, l); len(hits) > 0 || err != api.OK {
			t.Errorf("%s: %v is no gap: %v, %d", name, l, hits, err)
		}
	}
}

func TestT2NoTwoHitAtOnce(t *testing.T) {
	for _, name := range distinct {
		u := read(t, name)
		if once, err := gaps.Unique(u); !once || err != api.OK {
			t.Errorf("%s: %v, %d", name, once, err)
		}
		for i := range u.Rules {
			for j := range i {
				if l, found, err := gaps.Overlap(u, i, j); found || err != api.OK {
					t.Errorf("%s: %d and %d: %v, %d", name, i, j, l, err)
				}
			}
		}
	}
}

// What comes of it for whoever asks: some rule hits, and just one, whatever is known.
func TestT2WhateverComes(t *testing.T) {
	r := rand.New(rand.NewSource(2))
	for _, name := range shelf.Names() {
		u := read(t, name)
		for range 1500 {
			_, l := drawn(r, u)
			hits, err := table.Hits(u, l)
			if err != api.OK || len(hits) == 0 && !slices.Contains(open, name) || len(hits) > 1 && slices.Contains(distinct, name) {
				t.Fatalf("%s of %v: %v, %d", name, l, hits, err)
			}
		}
	}
}

// The gaps of the three are where their texts leave something out.
func TestT2GapsOfTheThree(t *testing.T) {
	asks(t, "hints", vals(num(10), no), num(0), api.OK)
	asks(t, "month", vals(num(0), yes), null, api.OK)
	asks(t, "reasons", vals(num(18), num(0)), null, api.OK)
}

func TestZ1SameAgain(t *testing.T) {
	v, err := shelf.Ask("middle", vals(num(3), num(1), num(2)))
	for range 3 {
		w, again := shelf.Ask("middle", vals(num(3), num(1), num(2)))
		if again != err || !reflect.DeepEqual(v, w) {
			t.Errorf("%v, %d, and %v, %d ahead of it", w, again, v, err)
		}
	}
}
