package eval_test

import (
	"cmp"
	"math/big"
	"math/rand"
	"strings"
	"testing"
	"unicode"
	"unicode/utf8"

	"verdict/api"
	"verdict/dec"
	"verdict/eval"
	"verdict/syn"
	"verdict/types"
)

// The chapter's words, worked by another way: names are sought in a row from its end on, numbers are fractions where they are held against each other, functions stand in one switch, and no panic ends anything.

// saysTakes: how many arguments each function takes, its name ahead.
const saysTakes = "not 1 floor 1 ceiling 1 abs 1 round 2 min 1 max 1 item 2 sum 1 count 1 reverse 1 distinct 1 sort 1 concat 2 length 1 upper 1 lower 1 substring 3 contains 2 starts 2 ends 2 between 3"

func saysArgs(name string) (int, bool) {
	words := strings.Fields(saysTakes)
	for i := 0; i < len(words); i += 2 {
		if words[i] == name {
			return int(words[i+1][0] - '0'), true
		}
	}
	return 0, false
}

func functionNames() []string {
	var all []string
	for i, word := range strings.Fields(saysTakes) {
		if i%2 == 0 {
			all = append(all, word)
		}
	}
	return all
}

// saysUnknown looks x through; names has what stands for something there.
func saysUnknown(x api.Expr, names []string) api.Errno {
	switch x.Kind {
	case api.XName:
		if !strings.Contains(" "+strings.Join(names, " ")+" ", " "+x.Name+" ") {
			return api.ErrName
		}
	case api.XCall:
		n, ok := saysArgs(x.Name)
		if !ok {
			return api.ErrName
		}
		if n != len(x.Kids) {
			return api.ErrMany
		}
	}
	for i, kid := range x.Kids {
		inner := names
		if i == 1 && x.Kind >= api.XFor {
			inner = append(names[:len(names):len(names)], x.Name)
		}
		if err := saysUnknown(kid, inner); err != api.OK {
			return err
		}
	}
	return api.OK
}

func saysEval(x api.Expr, binds []api.Bind) (api.Value, api.Errno) {
	var names []string
	for _, b := range binds {
		names = append(names, b.Name)
	}
	if err := saysUnknown(x, names); err != api.OK {
		return api.Value{}, err
	}
	left := api.MaxSteps
	v := saysValue(x, binds, &left)
	if left < 0 {
		return api.Value{}, api.ErrMuch
	}
	return v, api.OK
}

// saysValue goes on as long as steps are left; behind that its answer means nothing.
func saysValue(x api.Expr, binds []api.Bind, left *int) api.Value {
	*left--
	if *left < 0 {
		return null
	}
	switch x.Kind {
	case api.XLit:
		return x.Val
	case api.XName:
		v := null
		for _, b := range binds {
			if b.Name == x.Name {
				v = b.Val
			}
		}
		return v
	case api.XIf:
		kid := 2
		if saysTruth(saysValue(x.Kids[0], binds, left)) == 1 {
			kid = 1
		}
		return saysValue(x.Kids[kid], binds, left)
	}
	if x.Kind >= api.XFor {
		return saysRight(saysOver(x, binds, left))
	}
	var kids []api.Value
	for _, kid := range x.Kids {
		kids = append(kids, saysValue(kid, binds, left))
	}
	switch x.Kind {
	case api.XList:
		return saysRight(list(kids...))
	case api.XCall:
		return saysRight(saysCall(x.Name, kids))
	}
	return saysRight(saysNode(x.Kind, kids))
}

func saysOver(x api.Expr, binds []api.Bind, left *int) api.Value {
	over := saysValue(x.Kids[0], binds, left)
	if over.Kind != api.VList {
		return null
	}
	var vals []api.Value
	some, every := 0, 1
	for _, v := range over.List {
		inner := append(binds[:len(binds):len(binds)], api.Bind{Name: x.Name, Val: v})
		one := saysValue(x.Kids[1], inner, left)
		vals = append(vals, one)
		some, every = max2(some, saysTruth(one)), min2(every, saysTruth(one))
		if *left < 0 {
			return null
		}
	}
	switch x.Kind {
	case api.XSome:
		return halfway(some)
	case api.XEvery:
		return halfway(every)
	}
	return list(vals...)
}

// Truths as 0, 1 and, between them, what is not known (2 is written for a half, so that all are whole).
const unknown = 2

func saysTruth(v api.Value) int {
	switch {
	case v.Kind != api.VBool:
		return unknown
	case v.Yes:
		return 1
	}
	return 0
}

func halfway(t int) api.Value {
	if t == unknown {
		return null
	}
	return api.Value{Kind: api.VBool, Yes: t == 1}
}

func max2(a, b int) int {
	switch {
	case a == 1 || b == 1:
		return 1
	case a == unknown || b == unknown:
		return unknown
	}
	return 0
}

func min2(a, b int) int {
	return flip(max2(flip(a), flip(b)))
}

func flip(t int) int {
	return []int{1, 0, unknown}[t]
}

func truthOf(ok bool) int {
	if ok {
		return 1
	}
	return 0
}

func rat(v api.Value) *big.Rat {
	text, _ := dec.Print(v.Num)
	r, _ := new(big.Rat).SetString(text)
	return r
}

func compare(a, b api.Value) int {
	if a.Num.Exp == b.Num.Exp {
		return cmp.Compare(a.Num.Coef, b.Num.Coef)
	}
	return rat(a).Cmp(rat(b))
}

func saysEqual(a, b api.Value) int {
	switch {
	case a.Kind == api.VNull || b.Kind == api.VNull:
		return truthOf(a.Kind == b.Kind)
	case a.Kind != b.Kind:
		return unknown
	case a.Kind == api.VBool:
		return truthOf(a.Yes == b.Yes)
	case a.Kind == api.VNum:
		return truthOf(compare(a, b) == 0)
	case a.Kind == api.VText:
		return truthOf(a.Text == b.Text)
	case len(a.List) != len(b.List):
		return 0
	}
	all := 1
	for i := range a.List {
		all = min2(all, saysEqual(a.List[i], b.List[i]))
	}
	return all
}

func saysLess(a, b api.Value) int {
	switch {
	case a.Kind == api.VNum && b.Kind == api.VNum:
		return truthOf(compare(a, b) < 0)
	case a.Kind == api.VText && b.Kind == api.VText:
		return truthOf(strings.Compare(a.Text, b.Text) < 0)
	}
	return unknown
}

// saysRight: too much of it is null.
func saysRight(v api.Value) api.Value {
	nodes, ok := 0, true
	var walk func(v api.Value, deep int)
	walk = func(v api.Value, deep int) {
		nodes++
		ok = ok && deep <= 20 && !(v.Kind == api.VText && len(v.Text) > 1000) && !(v.Kind == api.VList && len(v.List) > 200)
		if v.Kind == api.VList && ok {
			for _, one := range v.List {
				walk(one, deep+1)
			}
		}
	}
	walk(v, 1)
	if !ok || nodes > 2000 {
		return null
	}
	return v
}

func saysNode(kind int, kids []api.Value) api.Value {
	nums, texts := true, true
	for _, v := range kids {
		nums, texts = nums && v.Kind == api.VNum, texts && v.Kind == api.VText
	}
	numOr := func(d api.Dec, err api.Errno) api.Value {
		if err != api.OK || !nums {
			return null
		}
		return api.Value{Kind: api.VNum, Num: d}
	}
	a, b := kids[0], kids[len(kids)-1]
	switch kind {
	case api.XNeg:
		return numOr(dec.Neg(a.Num))
	case api.XAdd:
		if texts {
			return text(a.Text + b.Text)
		}
		return numOr(dec.Add(a.Num, b.Num))
	case api.XSub:
		return numOr(dec.Sub(a.Num, b.Num))
	case api.XMul:
		return numOr(dec.Mul(a.Num, b.Num))
	case api.XDiv:
		return numOr(dec.Div(a.Num, b.Num))
	case api.XEq:
		return halfway(saysEqual(a, b))
	case api.XNe:
		return halfway(flip(saysEqual(a, b)))
	case api.XLt:
		return halfway(saysLess(a, b))
	case api.XGt:
		return halfway(saysLess(b, a))
	case api.XLe:
		return halfway(flip(saysLess(b, a)))
	case api.XGe:
		return halfway(flip(saysLess(a, b)))
	case api.XAnd:
		return halfway(min2(saysTruth(a), saysTruth(b)))
	case api.XOr:
		return halfway(max2(saysTruth(a), saysTruth(b)))
	}
	if b.Kind != api.VList {
		return null
	}
	found := 0
	for _, v := range b.List {
		found = max2(found, saysEqual(a, v))
	}
	return halfway(found)
}

// saysWhole is the number that v is, if it is one that may tell a place.
func saysWhole(v api.Value) (int, bool) {
	r := rat(v)
	if !r.IsInt() || r.Cmp(big.NewRat(10000, 1)) > 0 || r.Cmp(big.NewRat(-10000, 1)) < 0 {
		return 0, false
	}
	return int(r.Num().Int64()), true
}

func saysCall(name string, args []api.Value) api.Value {
	kinds := ""
	for _, v := range args {
		kinds += string("?0bntl"[v.Kind])
	}
	switch name {
	case "not":
		return halfway(flip(saysTruth(args[0])))
	case "between":
		return halfway(min2(flip(saysLess(args[0], args[1])), flip(saysLess(args[2], args[0]))))
	}
	switch kinds {
	case "n", "nn":
		return saysOfNumbers(name, args)
	case "l", "ll", "ln":
		return saysOfLists(name, kinds, args)
	case "t", "tt", "tnn":
		return saysOfTexts(name, args)
	}
	return null
}

func saysOfNumbers(name string, args []api.Value) api.Value {
	d, err := api.Dec{}, api.ErrNone
	switch name {
	case "floor":
		d, err = dec.Floor(args[0].Num)
	case "ceiling":
		d, err = dec.Ceil(args[0].Num)
	case "abs":
		d, err = args[0].Num, api.OK
		if d.Coef < 0 {
			d.Coef = -d.Coef
		}
	case "round":
		if n, ok := saysWhole(args[1]); ok {
			d, err = dec.Round(args[0].Num, n)
		}
	}
	if err != api.OK {
		return null
	}
	return api.Value{Kind: api.VNum, Num: d}
}

func numOf(n int) api.Value {
	v := api.Value{Kind: api.VNum, Num: api.Dec{Coef: int64(n)}}
	for n != 0 && v.Num.Coef%10 == 0 {
		v.Num = api.Dec{Coef: v.Num.Coef / 10, Exp: v.Num.Exp + 1}
	}
	return v
}

func saysOfLists(name, kinds string, args []api.Value) api.Value {
	l := args[0].List
	alone := true
	for _, v := range l {
		alone = alone && v.Kind == l[0].Kind && (v.Kind == api.VNum || v.Kind == api.VText)
	}
	switch name + " " + kinds {
	case "min l", "max l":
		for _, v := range l {
			best := alone
			for _, other := range l {
				less := saysLess(other, v)
				if name == "max" {
					less = saysLess(v, other)
				}
				best = best && less == 0
			}
			if best {
				return v
			}
		}
	case "sum l":
		sum := numOf(0)
		for _, v := range l {
			sum = saysNode(api.XAdd, []api.Value{sum, v})
		}
		return sum
	case "count l":
		return numOf(len(l))
	case "item ln":
		n, ok := saysWhole(args[1])
		for i, v := range l {
			if ok && (n == i+1 || n == i-len(l)) {
				return v
			}
		}
	case "concat ll":
		return list(append(append([]api.Value{}, l...), args[1].List...)...)
	case "reverse l":
		out := []api.Value{}
		for _, v := range l {
			out = append([]api.Value{v}, out...)
		}
		return list(out...)
	case "distinct l":
		out := []api.Value{}
		for _, v := range l {
			if truth := saysNode(api.XIn, []api.Value{v, list(out...)}); !truth.Yes {
				out = append(out, v)
			}
		}
		return list(out...)
	case "sort l":
		if !alone {
			return null
		}
		out := []api.Value{}
		for _, v := range l {
			at := len(out)
			for at > 0 && saysLess(v, out[at-1]) == 1 {
				at--
			}
			out = append(out[:at], append([]api.Value{v}, out[at:]...)...)
		}
		return list(out...)
	}
	return null
}

func saysOfTexts(name string, args []api.Value) api.Value {
	s := args[0].Text
	switch {
	case name == "length" && len(args) == 1:
		return numOf(utf8.RuneCountInString(s))
	case name == "upper" && len(args) == 1, name == "lower" && len(args) == 1:
		out := ""
		for _, r := range s {
			if name == "upper" {
				out += string(unicode.ToUpper(r))
			} else {
				out += string(unicode.ToLower(r))
			}
		}
		return text(out)
	case name == "substring":
		return saysSubstring(s, args)
	case len(args) != 2 || args[1].Kind != api.VText:
		return null
	}
	part := args[1].Text
	switch name {
	case "contains":
		return halfway(truthOf(strings.Index(s, part) >= 0))
	case "starts":
		return halfway(truthOf(len(part) <= len(s) && s[:len(part)] == part))
	case "ends":
		return halfway(truthOf(len(part) <= len(s) && s[len(s)-len(part):] == part))
	}
	return null
}

func saysSubstring(s string, args []api.Value) api.Value {
	place, ok1 := saysWhole(args[1])
	many, ok2 := saysWhole(args[2])
	n := utf8.RuneCountInString(s)
	if place < 0 && place >= -n {
		place = n + 1 + place
	}
	if !ok1 || !ok2 || many < 0 || place < 1 || place > n+1 {
		return null
	}
	out, at := "", 0
	for _, r := range s {
		at++
		if at >= place && at < place+many {
			out += string(r)
		}
	}
	return text(out)
}

func holdAgainst(t *testing.T, x api.Expr, binds []api.Bind) (api.Value, api.Errno) {
	t.Helper()
	got, err := eval.Eval(x, binds)
	want, wantErr := saysEval(x, binds)
	if err != wantErr || !same(got, want) {
		text, _ := syn.Print(x)
		t.Errorf("Eval(%s): %s, %d comes, not %s, %d", text, say(got), err, say(want), wantErr)
	}
	return got, err
}

// same holds all fields against each other; nil and a list without entries are the same.
func same(a, b api.Value) bool {
	if len(a.List) != len(b.List) {
		return false
	}
	for i := range a.List {
		if !same(a.List[i], b.List[i]) {
			return false
		}
	}
	return a.Kind == b.Kind && a.Yes == b.Yes && a.Num == b.Num && a.Text == b.Text
}

// someValues are some of each kind, and of each that a function tells apart.
func someValues() []api.Value {
	yes, no := api.Value{Kind: api.VBool, Yes: true}, api.Value{Kind: api.VBool}
	num := func(coef int64, exp int) api.Value {
		return api.Value{Kind: api.VNum, Num: api.Dec{Coef: coef, Exp: exp}}
	}
	return []api.Value{
		null, yes, no,
		num(0, 0), num(1, 0), num(-1, 0), num(2, 0), num(-2, 0), num(3, 0), num(25, -1), num(-25, -1), num(1, 4), num(-1, 4), num(10001, 0), num(4, 40), num(api.MaxCoef, 40), num(1, -40),
		text(""), text("a"), text("aßé"), text("é"), text("Ab"), text("b\x00"), text("\U0001F600\uFFFD"),
		list(), list(null), list(null, null), list(num(1, 0)), list(num(1, 0), num(2, 0), num(1, 0)), list(num(3, 0), num(-2, 0), num(25, -1)), list(text("b"), text("a"), text("é"), text("a")),
		list(num(1, 0), text("a")), list(yes, no, yes), list(num(1, 0), null), list(list(num(1, 0)), list(num(1, 0), null), list(num(1, 0))), list(list(), list(null), list(text("a"))), list(num(api.MaxCoef, 40), num(api.MaxCoef, 40)),
	}
}

// bound gives each value a name.
func bound(vals []api.Value) ([]api.Bind, []api.Expr) {
	var binds []api.Bind
	var names []api.Expr
	for i, v := range vals {
		name := "v" + string(rune('a'+i/26)) + string(rune('a'+i%26))
		binds = append(binds, api.Bind{Name: name, Val: v})
		names = append(names, api.Expr{Kind: api.XName, Name: name})
	}
	return binds, names
}

func TestF3AllNodesOfAllValues(t *testing.T) {
	binds, names := bound(someValues())
	for _, a := range names {
		holdAgainst(t, a, binds)
		holdAgainst(t, api.Expr{Kind: api.XNeg, Kids: []api.Expr{a}}, binds)
		for _, b := range names {
			for kind := api.XAdd; kind <= api.XOr; kind++ {
				holdAgainst(t, api.Expr{Kind: kind, Kids: []api.Expr{a, b}}, binds)
			}
			holdAgainst(t, api.Expr{Kind: api.XIf, Kids: []api.Expr{a, b, a}}, binds)
			holdAgainst(t, api.Expr{Kind: api.XList, Kids: []api.Expr{a, b, a}}, binds)
			for kind := api.XFor; kind <= api.XEvery; kind++ {
				holdAgainst(t, api.Expr{Kind: kind, Name: "x", Kids: []api.Expr{a, b}}, binds)
				holdAgainst(t, api.Expr{Kind: kind, Name: "x", Kids: []api.Expr{a, {Kind: api.XName, Name: "x"}}}, binds)
				holdAgainst(t, api.Expr{Kind: kind, Name: "x", Kids: []api.Expr{a, {Kind: api.XEq, Kids: []api.Expr{{Kind: api.XName, Name: "x"}, b}}}}, binds)
			}
		}
	}
}

func TestF4AllFunctionsOfAllValues(t *testing.T) {
	binds, names := bound(someValues())
	for _, f := range append(functionNames(), "foo", "Not", "average") {
		takes, _ := saysArgs(f)
		call := func(kids ...api.Expr) {
			holdAgainst(t, api.Expr{Kind: api.XCall, Name: f, Kids: kids}, binds)
		}
		call()
		call(names[:4]...)
		for _, a := range names {
			call(a)
			for _, b := range names {
				call(a, b)
				for _, c := range names {
					if takes == 3 || b.Name == c.Name {
						call(a, b, c)
					}
				}
			}
		}
	}
}

// Both chapters must speak of the same functions.
func TestF1FunctionsAreThoseOfTypes(t *testing.T) {
	for _, f := range append(functionNames(), "foo", "Floor", "list") {
		for kids := range api.MaxArgs + 1 {
			x := api.Expr{Kind: api.XCall, Name: f}
			for range kids {
				x.Kids = append(x.Kids, api.Expr{Kind: api.XLit, Val: null})
			}
			_, want := types.Type(x, nil)
			if _, err := eval.Eval(x, nil); err != want {
				t.Errorf("%s of %d: %d comes, not %d", f, kids, err, want)
			}
		}
	}
}

// manyBinds has a name for each kind, and lists so long that going over them may take too long.
func manyBinds() []api.Bind {
	vals := someValues()
	numbers, texts := list(), list()
	for i := range 90 {
		numbers.List = append(numbers.List, numOf(i*7%19-9))
		texts.List = append(texts.List, text(strings.Repeat("é", i%9)+"x"))
	}
	return []api.Bind{
		{Name: "n", Val: text("another one behind it has its name")},
		{Name: "n", Val: numOf(7)}, {Name: "h", Val: vals[9]}, {Name: "i", Val: numOf(-2)}, {Name: "s", Val: text("Straße")}, {Name: "u", Val: text(strings.Repeat("ɐ", 240))},
		{Name: "b", Val: vals[1]}, {Name: "c", Val: vals[2]}, {Name: "z", Val: null},
		{Name: "l", Val: vals[28]}, {Name: "m", Val: vals[34]}, {Name: "t", Val: vals[30]}, {Name: "e", Val: list()}, {Name: "k", Val: numbers}, {Name: "w", Val: texts},
	}
}

// pick is a name, a number or a text, mostly of a kind: n, t, b, l (a number, a text, a truth, a list).
func pick(r *rand.Rand, kind byte) api.Expr {
	if r.Intn(12) == 0 {
		kind = "ntbl"[r.Intn(4)]
	}
	names := map[byte]string{'n': "n h i x x", 't': "s u y y", 'b': "b c z", 'l': "l m t e k w l t"}[kind]
	all := strings.Fields(names)
	if r.Intn(4) == 0 {
		switch kind {
		case 'n':
			return api.Expr{Kind: api.XLit, Val: numOf(r.Intn(12))}
		case 't':
			return api.Expr{Kind: api.XLit, Val: text("aé"[:r.Intn(2)])}
		}
	}
	return api.Expr{Kind: api.XName, Name: all[r.Intn(len(all))]}
}

// someExpr is an expression of up to that many nodes nested, mostly one that has something of a kind.
func someExpr(r *rand.Rand, kind byte, deep int) api.Expr {
	if deep <= 1 || r.Intn(7) == 0 {
		return pick(r, kind)
	}
	of := func(node int, name, kinds string) api.Expr {
		x := api.Expr{Kind: node, Name: name}
		for i := range len(kinds) {
			x.Kids = append(x.Kids, someExpr(r, kinds[i], deep-1))
		}
		return x
	}
	k := string(kind)
	if r.Intn(10) == 0 {
		return of(api.XIf, "", "b"+k+k)
	}
	name := []string{"x", "y", "n"}[r.Intn(3)]
	calls := map[byte]string{
		'n': "floor n ceiling n abs n round nn sum l count l length t min l max l item ln",
		't': "upper t lower t substring tnn min l max l item ln",
		'b': "not b contains tt starts tt ends tt between nnn between ttt item ln",
		'l': "reverse l distinct l sort l concat ll item ln",
	}
	switch r.Intn(3) {
	case 0:
		words := strings.Fields(calls[kind])
		at := 2 * r.Intn(len(words)/2)
		return of(api.XCall, words[at], words[at+1])
	case 1:
		switch kind {
		case 'n':
			if r.Intn(4) == 0 {
				return of(api.XNeg, "", "n")
			}
			return of(api.XAdd+r.Intn(4), "", "nn")
		case 't':
			return of(api.XAdd, "", "tt")
		case 'b':
			if r.Intn(3) == 0 {
				return of(api.XIn, "", "nl")
			}
			return of(api.XEq+r.Intn(6), "", []string{"nn", "tt", "ll"}[r.Intn(3)])
		}
		return of(api.XList, "", []string{"", k, "nn", "tt", "nnn", "bt", "ll"}[r.Intn(7)])
	}
	switch kind {
	case 'b':
		if r.Intn(2) == 0 {
			return of(api.XAnd+r.Intn(2), "", "bb")
		}
		return of(api.XSome+r.Intn(2), name, "lb")
	case 'l':
		return of(api.XFor, name, "l"+string("ntbl"[r.Intn(4)]))
	}
	return pick(r, kind)
}

// typesOf are the types of what binds have.
func typesOf(binds []api.Bind) []api.Var {
	var vars []api.Var
	for _, b := range binds {
		t := api.Type{Kind: b.Val.Kind}
		if t.Kind == api.VList {
			t.Elem = []api.Type{{Kind: api.TyAny}}
			for kind := api.TyNull; kind < api.TyAny; kind++ {
				elem := api.Type{Kind: kind}
				if kind == api.TyList {
					elem.Elem = []api.Type{{Kind: api.TyNum}}
				}
				if l := (api.Type{Kind: api.TyList, Elem: []api.Type{elem}}); types.Has(b.Val, l) {
					t = l
					break
				}
			}
		}
		vars = append(vars, api.Var{Name: b.Name, Type: t})
	}
	return vars
}

// Many expressions; and what is well typed has a value of its type.
func TestF1ManyExpressions(t *testing.T) {
	r := rand.New(rand.NewSource(6))
	binds := append(manyBinds(), api.Bind{Name: "x", Val: numOf(3)}, api.Bind{Name: "y", Val: text("yé")})
	vars := typesOf(binds)
	errs, kinds, typed := map[api.Errno]int{}, map[int]int{}, 0
	for i := range 16000 {
		x := someExpr(r, "ntbl"[i%4], 2+i/4%7)
		if i%13 == 0 {
			// Some of these take too long.
			x = api.Expr{Kind: api.XFor, Name: "x", Kids: []api.Expr{{Kind: api.XName, Name: "k"}, x}}
		}
		if syn.Wrong(x) != api.OK {
			continue
		}
		given := binds
		if i%5 == 0 {
			given = manyBinds()
		}
		v, err := holdAgainst(t, x, given)
		errs[err]++
		kinds[v.Kind]++
		if kind, wrong := types.Type(x, vars); wrong == api.OK && err == api.OK {
			typed++
			if !types.Has(v, kind) {
				text, _ := syn.Print(x)
				t.Errorf("%s has %s, which is no %s", text, say(v), types.Name(kind))
			}
		}
	}
	for _, err := range []api.Errno{api.OK, api.ErrName, api.ErrMuch} {
		if errs[err] < 100 {
			t.Errorf("%d came %d times only", err, errs[err])
		}
	}
	for kind := api.VNull; kind <= api.VList; kind++ {
		if kinds[kind] < 1000 {
			t.Errorf("values of the kind %d came %d times only", kind, kinds[kind])
		}
	}
	if typed < 3000 {
		t.Errorf("%d were well typed", typed)
	}
}

func FuzzEval(f *testing.F) {
	for _, s := range []string{"x", "n + 1", "for x in l return x", "between(h, 1, z)", "concat(l, m)", "substring(s, -2, n)"} {
		f.Add(s)
	}
	f.Fuzz(func(t *testing.T, text string) {
		x, fault := syn.Read(text)
		if fault.Err != api.OK {
			return
		}
		holdAgainst(t, x, manyBinds())
	})
}
