package code_test

import (
	"fmt"
	"math/rand"
	"reflect"
	"strings"
	"testing"

	"verdict/api"
	"verdict/code"
	"verdict/eval"
	"verdict/logic"
	"verdict/syn"
)

// The chapter's words, worked by other ways: instructions are put together from the places that they will have, not mended behind; what they make is worked out by one function that calls itself for each list, and asks Eval of single nodes alone; all ways through them are gone.

// saysMake is the instructions of x, of which the first one stands at that place.
func saysMake(x api.Expr, at int) []api.Instr {
	out := []api.Instr{{Op: api.OpCount}}
	next := func() int { return at + len(out) }
	switch x.Kind {
	case api.XLit:
		return append(out, api.Instr{Op: api.OpPush, Val: x.Val})
	case api.XName:
		return append(out, api.Instr{Op: api.OpLoad, Name: x.Name})
	case api.XIf:
		out = append(out, saysMake(x.Kids[0], next())...)
		then := saysMake(x.Kids[1], next()+1)
		behindThen := next() + 1 + len(then) + 1
		last := saysMake(x.Kids[2], behindThen)
		out = append(out, api.Instr{Op: api.OpElse, To: behindThen})
		out = append(out, then...)
		out = append(out, api.Instr{Op: api.OpJump, To: behindThen + len(last)})
		return append(out, last...)
	case api.XFor, api.XSome, api.XEvery:
		out = append(out, saysMake(x.Kids[0], next())...)
		begin := next() + 1
		each := saysMake(x.Kids[1], begin)
		out = append(out, api.Instr{Op: api.OpEach, Kind: x.Kind, Name: x.Name, To: begin + len(each) + 1})
		out = append(out, each...)
		return append(out, api.Instr{Op: api.OpNext, Kind: x.Kind, To: begin})
	}
	for _, kid := range x.Kids {
		out = append(out, saysMake(kid, next())...)
	}
	node := api.Instr{Op: api.OpNode, Kind: x.Kind, N: len(x.Kids)}
	if x.Kind == api.XCall {
		node.Name = x.Name
	}
	return append(out, node)
}

// saysNode asks Eval what a single node makes of values.
func saysNode(one api.Instr, vals []api.Value) api.Value {
	if one.Kind == api.XList {
		return saysRight(api.Value{Kind: api.VList, List: append([]api.Value{}, vals...)})
	}
	x := api.Expr{Kind: one.Kind, Name: one.Name}
	var binds []api.Bind
	for i, v := range vals {
		name := string(rune('a' + i))
		x.Kids = append(x.Kids, api.Expr{Kind: api.XName, Name: name})
		binds = append(binds, api.Bind{Name: name, Val: v})
	}
	v, err := eval.Eval(x, binds)
	if err != api.OK {
		panic(fmt.Sprint("no such node: ", one))
	}
	return v
}

func saysRight(v api.Value) api.Value {
	if logic.Wrong(v) != api.OK {
		return null
	}
	return v
}

// saysRun does the instructions from that place on, as far as the OpNext of the list that is gone over, or the end; what it leaves is on top. left is how many nodes may still be come to.
func saysRun(all []api.Instr, at int, binds []api.Bind, left *int) (api.Value, bool) {
	var stack []api.Value
	for at < len(all) && all[at].Op != api.OpNext {
		one := all[at]
		at++
		n := len(stack)
		switch one.Op {
		case api.OpCount:
			*left--
			if *left < 0 {
				return api.Value{}, false
			}
		case api.OpPush:
			stack = append(stack, one.Val)
		case api.OpLoad:
			last := api.Value{}
			for _, b := range binds {
				if b.Name == one.Name {
					last = b.Val
				}
			}
			stack = append(stack, last)
		case api.OpNode:
			v := saysNode(one, stack[n-one.N:])
			stack = append(stack[:n-one.N], v)
		case api.OpElse:
			if truth := stack[n-1]; truth.Kind != api.VBool || !truth.Yes {
				at = one.To
			}
			stack = stack[:n-1]
		case api.OpJump:
			at = one.To
		case api.OpEach:
			v, ok := saysEach(all, at, stack[n-1], binds, left)
			if !ok {
				return api.Value{}, false
			}
			stack[n-1], at = v, one.To
		}
	}
	if len(stack) != 1 {
		panic(fmt.Sprint(len(stack), " values are left"))
	}
	return stack[0], true
}

// saysEach goes over a list; at is where what is done for each begins.
func saysEach(all []api.Instr, at int, list api.Value, binds []api.Bind, left *int) (api.Value, bool) {
	one := all[at-1]
	if list.Kind != api.VList {
		return null, true
	}
	found := api.Value{Kind: api.VList}
	or, and := truth(false), truth(true)
	for _, v := range list.List {
		inner := append(binds[:len(binds):len(binds)], api.Bind{Name: one.Name, Val: v})
		has, ok := saysRun(all, at, inner, left)
		if !ok {
			return api.Value{}, false
		}
		found.List = append(found.List, has)
		or, and = logic.Or(or, has), logic.And(and, has)
	}
	switch one.Kind {
	case api.XSome:
		return or, true
	case api.XEvery:
		return and, true
	}
	return saysRight(found), true
}

// saysDepth tells it of the expression, without any instructions.
func saysDepth(x api.Expr) (values, lists int) {
	values = 1
	for i, kid := range x.Kids {
		v, l := saysDepth(kid)
		switch x.Kind {
		case api.XIf:
		case api.XFor, api.XSome, api.XEvery:
			l += i
		default:
			v += i
		}
		values, lists = max(values, v), max(lists, l)
	}
	return values, lists
}

// state is where a machine stands, and how much it has.
type state struct{ at, values, lists int }

// allWays goes all ways through the instructions, whatever the values are.
func allWays(t *testing.T, all []api.Instr) (values, lists int) {
	seen := map[state]int{}
	work := []state{{}}
	for len(work) > 0 {
		s := work[len(work)-1]
		work = work[:len(work)-1]
		if seen[s]++; seen[s] > 1 {
			continue
		}
		values, lists = max(values, s.values), max(lists, s.lists)
		if s.at == len(all) {
			if s.values != 1 || s.lists != 0 {
				t.Fatalf("%d values and %d lists are left", s.values, s.lists)
			}
			continue
		}
		one := all[s.at]
		if s.values < 0 || s.lists < 0 || s.at > len(all) || one.To < 0 || one.To > len(all) {
			t.Fatalf("a way leads to %+v, %+v", s, one)
		}
		work = append(work, waysFrom(s, one)...)
	}
	return values, lists
}

func waysFrom(s state, one api.Instr) []state {
	on := s.at + 1
	switch one.Op {
	case api.OpPush, api.OpLoad:
		return []state{{on, s.values + 1, s.lists}}
	case api.OpNode:
		return []state{{on, s.values - one.N + 1, s.lists}}
	case api.OpElse:
		return []state{{on, s.values - 1, s.lists}, {one.To, s.values - 1, s.lists}}
	case api.OpJump:
		return []state{{one.To, s.values, s.lists}}
	case api.OpEach:
		return []state{{on, s.values - 1, s.lists + 1}, {one.To, s.values, s.lists}}
	case api.OpNext:
		return []state{{one.To, s.values - 1, s.lists}, {on, s.values, s.lists - 1}}
	}
	return []state{{on, s.values, s.lists}}
}

// holdAgainst asks all three calls.
func holdAgainst(t *testing.T, x api.Expr, binds []api.Bind) (api.Value, api.Errno) {
	t.Helper()
	if syn.Wrong(x) == api.OK {
		holdMakeAgainst(t, x)
	}
	got, err := code.Run(x, binds)
	want, wantErr := eval.Eval(x, binds)
	if err != wantErr || !same(got, want) {
		t.Errorf("Run(%s): %s, %d comes, not %s, %d", told(x), say(got), err, say(want), wantErr)
	}
	if eval.Wrong(x, binds) != api.OK {
		return got, err
	}
	left := api.MaxSteps
	all, _ := code.Make(x)
	if v, ok := saysRun(all, 0, binds, &left); ok != (err == api.OK) || !same(got, v) {
		t.Errorf("Run(%s): %s, %d comes, but its instructions make %s, %t", told(x), say(got), err, say(v), ok)
	}
	return got, err
}

func holdMakeAgainst(t *testing.T, x api.Expr) {
	t.Helper()
	all, err := code.Make(x)
	if want := saysMake(x, 0); err != api.OK || !reflect.DeepEqual(all, want) {
		t.Errorf("Make(%s): %s, %d comes, not %s", told(x), listing(all), err, listing(want))
		return
	}
	values, lists, err := code.Depth(x)
	if v, l := saysDepth(x); err != api.OK || values != v || lists != l {
		t.Errorf("Depth(%s): %d, %d, %d comes, not %d, %d", told(x), values, lists, err, v, l)
	}
	if v, l := allWays(t, all); values != v || lists != l {
		t.Errorf("Depth(%s): %d, %d comes, but its ways have %d, %d", told(x), values, lists, v, l)
	}
}

func told(x api.Expr) string {
	text, _ := syn.Print(x)
	return text
}

// pick is a name, a number or a text, mostly of a kind: n, t, b, l (a number, a text, a truth, a list).
func pick(r *rand.Rand, kind byte) api.Expr {
	if r.Intn(12) == 0 {
		kind = "ntbl"[r.Intn(4)]
	}
	if r.Intn(4) == 0 {
		switch kind {
		case 'n':
			return literal(num(r.Int63n(9)+1, r.Intn(3)-1))
		case 't':
			return literal(text("aé"[:r.Intn(2)]))
		case 'b':
			return literal(truth(r.Intn(2) == 0))
		}
	}
	names := strings.Fields(map[byte]string{'n': "n x x", 't': "s y y", 'b': "b c z", 'l': "l m t e k l t"}[kind])
	return name(names[r.Intn(len(names))])
}

// someExpr is an expression of up to that many nodes nested, mostly one that has something of a kind.
func someExpr(r *rand.Rand, kind byte, deep int) api.Expr {
	if deep <= 1 || r.Intn(7) == 0 {
		return pick(r, kind)
	}
	k := string(kind)
	forms := map[byte]string{
		'n': "- n + nn - nn * nn / nn count l sum l max l item ln length t round nn if bnn if bnn",
		't': "+ tt upper t substring tnn item ln min l if btt if btt",
		'b': "= nn != tt < nn <= tt > nn >= nn in nl and bb or bb not b between nnn if bbb some lb some lb every lb every lb",
		'l': "list # list " + k + " list nn list ntb concat ll reverse l sort l distinct l item ln if bll for ln for lt for lb for ll",
	}
	words := strings.Fields(forms[kind])
	at := 2 * r.Intn(len(words)/2)
	x := api.Expr{}
	x.Kind, x.Name = kindOf(words[at], words[at+1])
	if x.Kind >= api.XFor {
		x.Name = []string{"x", "y", "n", "w"}[r.Intn(4)]
	}
	for _, kid := range []byte(strings.Trim(words[at+1], "#")) {
		x.Kids = append(x.Kids, someExpr(r, kid, deep-1))
	}
	return x
}

// kindOf is the node that a word means, or a call.
func kindOf(word, kids string) (int, string) {
	kinds := map[string]int{
		"+": api.XAdd, "-": api.XSub, "*": api.XMul, "/": api.XDiv, "=": api.XEq, "!=": api.XNe, "<": api.XLt, "<=": api.XLe, ">": api.XGt, ">=": api.XGe, "in": api.XIn,
		"and": api.XAnd, "or": api.XOr, "if": api.XIf, "list": api.XList, "for": api.XFor, "some": api.XSome, "every": api.XEvery,
	}
	if word == "-" && len(kids) == 1 {
		return api.XNeg, ""
	}
	if kind, ok := kinds[word]; ok {
		return kind, ""
	}
	return api.XCall, word
}

func TestG2ManyExpressions(t *testing.T) {
	r := rand.New(rand.NewSource(7))
	binds := append(someBinds(), api.Bind{Name: "x", Val: num(3, 0)}, api.Bind{Name: "y", Val: text("yé")})
	errs, kinds, nodes := map[api.Errno]int{}, map[int]int{}, map[int]int{}
	for i := range 8000 {
		x := someExpr(r, "ntbl"[i%4], 2+i/4%7)
		if i%17 == 0 {
			// Some of these take too long.
			x = each(api.XFor, "x", name("k"), x)
		}
		if syn.Wrong(x) != api.OK {
			continue
		}
		given := binds
		if i%5 == 0 {
			given = someBinds()
		}
		v, err := holdAgainst(t, x, given)
		errs[err]++
		kinds[v.Kind]++
		count(x, nodes)
	}
	for _, err := range []api.Errno{api.OK, api.ErrName, api.ErrMuch} {
		if errs[err] < 50 {
			t.Errorf("%d came %d times only", err, errs[err])
		}
	}
	for kind := api.VNull; kind <= api.VList; kind++ {
		if kinds[kind] < 500 {
			t.Errorf("values of the kind %d came %d times only", kind, kinds[kind])
		}
	}
	for kind := api.XLit; kind <= api.XEvery; kind++ {
		if nodes[kind] < 500 {
			t.Errorf("nodes of the kind %d came %d times only", kind, nodes[kind])
		}
	}
}

func count(x api.Expr, nodes map[int]int) {
	nodes[x.Kind]++
	for _, kid := range x.Kids {
		count(kid, nodes)
	}
}

func FuzzRun(f *testing.F) {
	for _, s := range []string{"x", "n + 1", "for x in l return x", "if b then [1, [n]] else -n", "some x in m satisfies every y in x satisfies x = y"} {
		f.Add(s)
	}
	f.Fuzz(func(t *testing.T, text string) {
		x, fault := syn.Read(text)
		if fault.Err != api.OK {
			return
		}
		holdAgainst(t, x, someBinds())
	})
}
