package types_test

import (
	"math/rand"
	"reflect"
	"strings"
	"testing"

	"verdict/api"
	"verdict/syn"
	"verdict/types"
)

// The chapter's words, worked by another way: types are walked as they are nested, names are sought in a row from its end on, functions stand in a text.

func saysFits(a, b api.Type) bool {
	if a.Kind == api.TyNull || b.Kind == api.TyAny {
		return true
	}
	if a.Kind == api.TyList && b.Kind == api.TyList {
		return saysFits(a.Elem[0], b.Elem[0])
	}
	return a.Kind == b.Kind
}

func saysJoin(a, b api.Type) api.Type {
	switch {
	case saysFits(a, b):
		return b
	case saysFits(b, a):
		return a
	case a.Kind == api.TyList && b.Kind == api.TyList:
		return listOf(saysJoin(a.Elem[0], b.Elem[0]))
	}
	return of(api.TyAny)
}

func saysHas(v api.Value, t api.Type) bool {
	switch {
	case v.Kind == api.VNull, t.Kind == api.TyAny:
		return true
	case v.Kind == api.VBool && t.Kind == api.TyBool, v.Kind == api.VNum && t.Kind == api.TyNum, v.Kind == api.VText && t.Kind == api.TyText:
		return true
	case v.Kind == api.VList && t.Kind == api.TyList:
		for _, e := range v.List {
			if !saysHas(e, t.Elem[0]) {
				return false
			}
		}
		return true
	}
	return false
}

func saysName(t api.Type) string {
	if t.Kind == api.TyList {
		return "list of " + saysName(t.Elem[0])
	}
	return []string{"", "null", "boolean", "number", "text", "", "any"}[t.Kind]
}

func saysMayBe(t api.Type, kind int) bool {
	return t.Kind == kind || t.Kind == api.TyNull || t.Kind == api.TyAny
}

func saysMayMeet(a, b api.Type) bool {
	if a.Kind == api.TyNull || a.Kind == api.TyAny || b.Kind == api.TyNull || b.Kind == api.TyAny {
		return true
	}
	if a.Kind == api.TyList && b.Kind == api.TyList {
		return saysMayMeet(a.Elem[0], b.Elem[0])
	}
	return a.Kind == b.Kind
}

func saysElem(t api.Type) api.Type {
	if t.Kind == api.TyList {
		return t.Elem[0]
	}
	return t
}

// saysFunctions: a name, what it takes (b, n, t: a truth, a number, a text; l: a list), and what it tells (e: the Elem of the first one; l: the list of all Elems); s: as l, of what may be a number; o: as its neighbours, in an order.
const saysFunctions = `
not b b
floor n n
ceiling n n
abs n n
round nn n
min l e
max l e
item ln e
sum s n
count l n
reverse l l
distinct l l
sort l l
concat ll l
length t n
upper t t
lower t t
substring tnn t
contains tt b
starts tt b
ends tt b
between ooo b
`

func saysFunction(name string) (takes, tells string, ok bool) {
	for _, line := range strings.Split(strings.TrimSpace(saysFunctions), "\n") {
		f := strings.Fields(line)
		if f[0] == name {
			return f[1], f[2], true
		}
	}
	return "", "", false
}

func letterKind(c byte) int {
	return map[byte]int{'b': api.TyBool, 'n': api.TyNum, 't': api.TyText, 'l': api.TyList}[c]
}

func saysCall(takes, tells string, kids []api.Type) (api.Type, api.Errno) {
	asText, asNum := true, true
	for i, t := range kids {
		switch c := takes[i]; c {
		case 'o':
			asNum = asNum && saysMayBe(t, api.TyNum)
			asText = asText && saysMayBe(t, api.TyText)
		case 's':
			if !saysMayBe(t, api.TyList) || !saysMayBe(saysElem(t), api.TyNum) {
				return api.Type{}, api.ErrType
			}
		default:
			if !saysMayBe(t, letterKind(c)) {
				return api.Type{}, api.ErrType
			}
		}
	}
	switch {
	case !asNum && !asText:
		return api.Type{}, api.ErrType
	case tells == "e":
		return saysElem(kids[0]), api.OK
	case tells == "l" && len(kids) == 2:
		return listOf(saysJoin(saysElem(kids[0]), saysElem(kids[1]))), api.OK
	case tells == "l":
		return listOf(saysElem(kids[0])), api.OK
	}
	return of(letterKind(tells[0])), api.OK
}

func saysNode(kind int, kids []api.Type) (api.Type, api.Errno) {
	both := func(kind int) bool { return saysMayBe(kids[0], kind) && saysMayBe(kids[len(kids)-1], kind) }
	one := func(kind int) bool { return kids[0].Kind == kind || kids[1].Kind == kind }
	when := func(ok bool, t api.Type) (api.Type, api.Errno) {
		if ok {
			return t, api.OK
		}
		return api.Type{}, api.ErrType
	}
	switch kind {
	case api.XAdd:
		if both(api.TyNum) && one(api.TyNum) {
			return of(api.TyNum), api.OK
		}
		if both(api.TyText) && one(api.TyText) {
			return of(api.TyText), api.OK
		}
		return when(kids[0].Kind%5 == 1 && kids[1].Kind%5 == 1, of(api.TyAny))
	case api.XNeg, api.XSub, api.XMul, api.XDiv:
		return when(both(api.TyNum), of(api.TyNum))
	case api.XEq, api.XNe:
		return when(saysMayMeet(kids[0], kids[1]), of(api.TyBool))
	case api.XLt, api.XLe, api.XGt, api.XGe:
		return when(both(api.TyNum) || both(api.TyText), of(api.TyBool))
	case api.XIn:
		return when(saysMayBe(kids[1], api.TyList) && saysMayMeet(kids[0], saysElem(kids[1])), of(api.TyBool))
	case api.XAnd, api.XOr:
		return when(both(api.TyBool), of(api.TyBool))
	case api.XIf:
		return when(saysMayBe(kids[0], api.TyBool), saysJoin(kids[1], kids[2]))
	}
	t := of(api.TyNull)
	for _, kid := range kids {
		t = saysJoin(t, kid)
	}
	return listOf(t), api.OK
}

func saysType(x api.Expr, vars []api.Var) (api.Type, api.Errno) {
	takes, tells := "", ""
	switch x.Kind {
	case api.XLit:
		return of(x.Val.Kind), api.OK
	case api.XName:
		for i := len(vars) - 1; i >= 0; i-- {
			if vars[i].Name == x.Name {
				return vars[i].Type, api.OK
			}
		}
		return api.Type{}, api.ErrName
	case api.XCall:
		ok := false
		if takes, tells, ok = saysFunction(x.Name); !ok {
			return api.Type{}, api.ErrName
		}
		if len(takes) != len(x.Kids) {
			return api.Type{}, api.ErrMany
		}
	}
	var kids []api.Type
	each := x.Kind >= api.XFor
	for i, kid := range x.Kids {
		inner := vars
		if each && i == 1 {
			if !saysMayBe(kids[0], api.TyList) {
				return api.Type{}, api.ErrType
			}
			inner = append(vars[:len(vars):len(vars)], api.Var{Name: x.Name, Type: saysElem(kids[0])})
		}
		t, err := saysType(kid, inner)
		if err != api.OK {
			return api.Type{}, err
		}
		kids = append(kids, t)
	}
	switch {
	case x.Kind == api.XCall:
		return saysCall(takes, tells, kids)
	case x.Kind == api.XFor:
		return listOf(kids[1]), api.OK
	case each && !saysMayBe(kids[1], api.TyBool):
		return api.Type{}, api.ErrType
	case each:
		return of(api.TyBool), api.OK
	}
	return saysNode(x.Kind, kids)
}

// someTypes are all types of up to that many lists.
func someTypes(lists int) []api.Type {
	var all []api.Type
	for _, kind := range []int{api.TyNull, api.TyBool, api.TyNum, api.TyText, api.TyAny} {
		t := of(kind)
		for range lists + 1 {
			all = append(all, t)
			t = listOf(t)
		}
	}
	return all
}

func TestE1AllPairs(t *testing.T) {
	all := someTypes(api.MaxTypes - 1)
	for _, a := range all {
		if err := types.Wrong(a); err != api.OK {
			t.Errorf("Wrong(%v): %d comes", a, err)
		}
		if got, want := types.Name(a), saysName(a); got != want {
			t.Errorf("Name: %s comes, not %s", got, want)
		}
		for _, b := range all {
			if got, want := types.Fits(a, b), saysFits(a, b); got != want {
				t.Errorf("Fits(%s, %s): %t comes", saysName(a), saysName(b), got)
			}
			if got, want := types.Join(a, b), saysJoin(a, b); !reflect.DeepEqual(got, want) {
				t.Errorf("Join(%s, %s): %s comes, not %s", saysName(a), saysName(b), saysName(got), saysName(want))
			}
		}
	}
}

// What is of a type is of all types that it fits, and of what it is joined with.
func TestE1HasGoesWithFitsAndJoin(t *testing.T) {
	all := someTypes(3)
	vals := someValues()
	for _, v := range vals {
		for _, a := range all {
			has := types.Has(v, a)
			if has != saysHas(v, a) {
				t.Errorf("Has(%+v, %s): %t comes", v, saysName(a), has)
			}
			for _, b := range all {
				if has && types.Fits(a, b) && !types.Has(v, b) {
					t.Errorf("%+v is of %s, not of %s", v, saysName(a), saysName(b))
				}
				if has && !types.Has(v, types.Join(a, b)) {
					t.Errorf("%+v is of %s, not of what is joined with %s", v, saysName(a), saysName(b))
				}
			}
		}
	}
}

// someValues are all lists of up to two values, nested up to three deep, of some of each kind.
func someValues() []api.Value {
	plain := []api.Value{{Kind: api.VNull}, {Kind: api.VBool}, {Kind: api.VNum}, {Kind: api.VText}, {Kind: api.VList}}
	pairs := func(l []api.Value) []api.Value {
		var out []api.Value
		for _, a := range l {
			out = append(out, api.Value{Kind: api.VList, List: []api.Value{a}})
			for _, b := range l {
				out = append(out, api.Value{Kind: api.VList, List: []api.Value{a, b}})
			}
		}
		return out
	}
	lists := append(plain, pairs(plain)...)
	return append(lists, pairs(lists)...)
}

// asVars gives each type a name, and names for them.
func asVars(all []api.Type) ([]api.Var, []api.Expr) {
	var vars []api.Var
	var names []api.Expr
	for i, t := range all {
		name := "v" + string(rune('a'+i))
		vars = append(vars, api.Var{Name: name, Type: t})
		names = append(names, api.Expr{Kind: api.XName, Name: name})
	}
	return vars, names
}

func holdAgainst(t *testing.T, x api.Expr, vars []api.Var) api.Errno {
	t.Helper()
	got, err := types.Type(x, vars)
	want, wantErr := saysType(x, vars)
	if wantErr != api.OK {
		want = api.Type{}
	}
	if err != wantErr || !reflect.DeepEqual(got, want) {
		text, _ := syn.Print(x)
		t.Errorf("Type(%s): %v, %d comes, not %v, %d", text, got, err, want, wantErr)
	}
	return err
}

// Each node of one, two and three kids of all types.
func TestE3AllNodesOfAllTypes(t *testing.T) {
	vars, names := asVars(someTypes(2))
	for _, a := range names {
		holdAgainst(t, a, vars)
		holdAgainst(t, api.Expr{Kind: api.XNeg, Kids: []api.Expr{a}}, vars)
		holdAgainst(t, api.Expr{Kind: api.XList, Kids: []api.Expr{a}}, vars)
		for _, b := range names {
			for kind := api.XAdd; kind <= api.XOr; kind++ {
				holdAgainst(t, api.Expr{Kind: kind, Kids: []api.Expr{a, b}}, vars)
			}
			for kind := api.XFor; kind <= api.XEvery; kind++ {
				holdAgainst(t, api.Expr{Kind: kind, Name: "x", Kids: []api.Expr{a, b}}, vars)
				holdAgainst(t, api.Expr{Kind: kind, Name: "x", Kids: []api.Expr{a, {Kind: api.XName, Name: "x"}}}, vars)
			}
			for _, c := range names {
				holdAgainst(t, api.Expr{Kind: api.XIf, Kids: []api.Expr{a, b, c}}, vars)
				holdAgainst(t, api.Expr{Kind: api.XList, Kids: []api.Expr{a, b, c}}, vars)
			}
		}
	}
}

func TestE4AllFunctionsOfAllTypes(t *testing.T) {
	vars, names := asVars(someTypes(2))
	for _, f := range functionNames() {
		call := func(kids ...api.Expr) {
			holdAgainst(t, api.Expr{Kind: api.XCall, Name: f, Kids: kids}, vars)
		}
		call()
		for _, a := range names {
			call(a)
			for _, b := range names {
				call(a, b)
				for _, c := range names {
					call(a, b, c)
				}
				call(a, b, a, b)
			}
		}
	}
}

func functionNames() []string {
	all := []string{"foo", "Not", "nul", "average", "list"}
	for _, line := range strings.Split(strings.TrimSpace(saysFunctions), "\n") {
		all = append(all, strings.Fields(line)[0])
	}
	return all
}

// someExpr is an expression of up to that many nodes nested, mostly such as can be.
func someExpr(r *rand.Rand, deep int) api.Expr {
	names := []string{"n", "s", "b", "l", "m", "a", "z", "x", "y", "zz"}
	if deep <= 1 || r.Intn(6) == 0 {
		if r.Intn(3) > 0 {
			return api.Expr{Kind: api.XName, Name: names[r.Intn(len(names)-r.Intn(2))]}
		}
		return api.Expr{Kind: api.XLit, Val: api.Value{Kind: api.VNull + r.Intn(4)}}
	}
	x := api.Expr{Kind: api.XNeg + r.Intn(api.XEvery-api.XNeg+1)}
	kids := 2
	switch x.Kind {
	case api.XNeg:
		kids = 1
	case api.XIf:
		kids = 3
	case api.XList:
		kids = r.Intn(4)
	case api.XCall:
		all := functionNames()
		x.Name = all[5+r.Intn(len(all)-5)]
		takes, _, _ := saysFunction(x.Name)
		kids = len(takes)
		if r.Intn(6) == 0 {
			x.Name, kids = all[r.Intn(len(all))], r.Intn(5)
		}
	case api.XFor, api.XSome, api.XEvery:
		x.Name = names[r.Intn(len(names))]
	}
	for range kids {
		x.Kids = append(x.Kids, someExpr(r, deep-1))
	}
	return x
}

// Of long ones few would be well typed: so they are made of parts that are.
func TestE2ManyExpressions(t *testing.T) {
	r := rand.New(rand.NewSource(5))
	vars := someVars()
	counts := map[api.Errno]int{}
	for i := range 60000 {
		x := someExpr(r, 2+i%4)
		for deep := range i % 5 {
			if _, err := saysType(x, vars); err != api.OK {
				break
			}
			y := someExpr(r, 2)
			if len(y.Kids) > 0 {
				y.Kids[(i+deep)%len(y.Kids)] = x
				x = y
			}
		}
		if syn.Wrong(x) == api.OK {
			counts[holdAgainst(t, x, vars)]++
		}
	}
	for _, err := range []api.Errno{api.OK, api.ErrName, api.ErrMany, api.ErrType} {
		if counts[err] < 300 {
			t.Errorf("%d came %d times only", err, counts[err])
		}
	}
}
