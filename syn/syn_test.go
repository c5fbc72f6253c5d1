package syn_test

import (
	"fmt"
	"math"
	"reflect"
	"slices"
	"strings"
	"testing"

	"verdict/api"
	"verdict/dec"
	"verdict/syn"
)

var (
	null = lit(api.Value{Kind: api.VNull})
	yes  = lit(api.Value{Kind: api.VBool, Yes: true})
	no   = lit(api.Value{Kind: api.VBool})
	a    = name("a")
	b    = name("b")
	c    = name("c")
	d    = name("d")
)

func lit(v api.Value) api.Expr { return api.Expr{Kind: api.XLit, Val: v} }

func num(coef int64, exp int) api.Expr {
	return lit(api.Value{Kind: api.VNum, Num: api.Dec{Coef: coef, Exp: exp}})
}

func text(s string) api.Expr { return lit(api.Value{Kind: api.VText, Text: s}) }

func name(s string) api.Expr { return api.Expr{Kind: api.XName, Name: s} }

func node(kind int, kids ...api.Expr) api.Expr { return api.Expr{Kind: kind, Kids: kids} }

func neg(x api.Expr) api.Expr { return node(api.XNeg, x) }

func list(kids ...api.Expr) api.Expr { return node(api.XList, kids...) }

func call(s string, kids ...api.Expr) api.Expr {
	return api.Expr{Kind: api.XCall, Name: s, Kids: kids}
}

func loop(kind int, s string, in, body api.Expr) api.Expr {
	return api.Expr{Kind: kind, Name: s, Kids: []api.Expr{in, body}}
}

// alike does not tell nil from a list without entries.
func alike(x, y api.Expr) bool {
	return x.Kind == y.Kind && x.Name == y.Name && x.Val.Kind == y.Val.Kind && x.Val.Yes == y.Val.Yes && x.Val.Num == y.Val.Num &&
		x.Val.Text == y.Val.Text && len(x.Val.List) == 0 && len(y.Val.List) == 0 && slices.EqualFunc(x.Kids, y.Kids, alike)
}

func reads(t *testing.T, s string, want api.Expr) {
	t.Helper()
	x, fault := syn.Read(s)
	if fault != (api.Fault{}) || !alike(x, want) {
		t.Errorf("%.200q: %.300s, %+v comes, not %.300s", s, fmt.Sprint(x), fault, fmt.Sprint(want))
	}
}

func faults(t *testing.T, s string, err api.Errno, at int) {
	t.Helper()
	x, fault := syn.Read(s)
	if fault != (api.Fault{Err: err, At: at}) || !alike(x, api.Expr{}) {
		t.Errorf("%.200q: %.300s, %+v comes, not %d at %d", s, fmt.Sprint(x), fault, err, at)
	}
}

func prints(t *testing.T, x api.Expr, want string) {
	t.Helper()
	got, err := syn.Print(x)
	if err != api.OK || got != want {
		t.Errorf("%q, %d comes, not %q", got, err, want)
	}
}

func refuses(t *testing.T, x api.Expr, want api.Errno) {
	t.Helper()
	got, err := syn.Print(x)
	if err != want || got != "" {
		t.Errorf("%.100q, %d comes, not %d", got, err, want)
	}
}

func taken() []string {
	return strings.Fields("null true false if then else for in return some every satisfies and or")
}

func TestD1Named(t *testing.T) {
	for _, s := range []string{"a", "_", "A1", "é", "日本語", "a_1", "nulls", "If", "not", "ifx", "or1", "i", "satisfie", strings.Repeat("a", api.MaxName), strings.Repeat("é", api.MaxName/2)} {
		if !syn.Named(s) {
			t.Errorf("%q is a name", s)
		}
	}
	for _, s := range []string{"", " ", "1", "1a", "a b", " a", "a ", "a\n", "\ta", "a+", "+", "a.b", "a..b", `"a"`, "a\xff", "\xff", "a-b", "-a", "٣", "a٣", "f()", "a#", strings.Repeat("a", api.MaxName+1), strings.Repeat("é", api.MaxName/2) + "a", strings.Repeat("a", 1<<20), strings.Repeat("a", 40) + " "} {
		if syn.Named(s) {
			t.Errorf("%.50q is no name", s)
		}
	}
	for _, s := range taken() {
		if syn.Named(s) {
			t.Errorf("%q is no name", s)
		}
		if !syn.Named(s+"_") || !syn.Named(strings.ToUpper(s)) {
			t.Errorf("%q with something behind it, or in capitals, is a name", s)
		}
	}
}

func TestD2Pieces(t *testing.T) {
	reads(t, "1", num(1, 0))
	reads(t, "0", num(0, 0))
	reads(t, "0.10", num(1, -1))
	reads(t, "1000000", num(1, 6))
	reads(t, `"a\"\\\nb"`, text("a\"\\\nb"))
	reads(t, `""`, text(""))
	reads(t, `"if"`, text("if"))
	reads(t, "null", null)
	reads(t, "true", yes)
	reads(t, "false", no)
	reads(t, "a", a)
	reads(t, "\t a\n", a)
	reads(t, "not", name("not"))
	reads(t, "(a)", a)
	reads(t, "(((a)))", a)
	reads(t, "[]", list())
	reads(t, "[ ]", list())
	reads(t, "[a]", list(a))
	reads(t, "[a, 1, [b], []]", list(a, num(1, 0), list(b), list()))
	reads(t, "f()", call("f"))
	reads(t, "f ( a,b )", call("f", a, b))
	reads(t, "f(g(a), [b], (c))", call("f", call("g", a), list(b), c))
	reads(t, "é1(日)", call("é1", name("日")))
	reads(t, "f(if a then b else c, for x in a return x)", call("f", node(api.XIf, a, b, c), loop(api.XFor, "x", a, name("x"))))
	reads(t, "[a or b, c = d]", list(node(api.XOr, a, b), node(api.XEq, c, d)))
}

func TestD2Words(t *testing.T) {
	reads(t, "if a then b else c", node(api.XIf, a, b, c))
	reads(t, "if(a)then(b)else(c)", node(api.XIf, a, b, c))
	reads(t, "if a or b then c + d else a = b", node(api.XIf, node(api.XOr, a, b), node(api.XAdd, c, d), node(api.XEq, a, b)))
	reads(t, "if a then b else c or d", node(api.XIf, a, b, node(api.XOr, c, d)))
	reads(t, "if if a then b else c then d else a", node(api.XIf, node(api.XIf, a, b, c), d, a))
	reads(t, "if a then if b then c else d else a", node(api.XIf, a, node(api.XIf, b, c, d), a))
	reads(t, "if a then b else if c then d else a", node(api.XIf, a, b, node(api.XIf, c, d, a)))
	reads(t, "for x in a return x * 2", loop(api.XFor, "x", a, node(api.XMul, name("x"), num(2, 0))))
	reads(t, "for x in a in b return c", loop(api.XFor, "x", node(api.XIn, a, b), c))
	reads(t, "for x in for y in a return b return c", loop(api.XFor, "x", loop(api.XFor, "y", a, b), c))
	reads(t, "some x in a satisfies b and c", loop(api.XSome, "x", a, node(api.XAnd, b, c)))
	reads(t, "every x in a satisfies some y in b satisfies c", loop(api.XEvery, "x", a, loop(api.XSome, "y", b, c)))
	reads(t, "every x in if a then b else c satisfies d", loop(api.XEvery, "x", node(api.XIf, a, b, c), d))
	reads(t, "(some x in a satisfies b) and c", node(api.XAnd, loop(api.XSome, "x", a, b), c))
	reads(t, "-(if a then b else c)", neg(node(api.XIf, a, b, c)))
}

func TestD2Signs(t *testing.T) {
	kinds := map[string]int{"or": api.XOr, "and": api.XAnd, "=": api.XEq, "!=": api.XNe, "<": api.XLt, "<=": api.XLe, ">": api.XGt, ">=": api.XGe, "in": api.XIn, "+": api.XAdd, "-": api.XSub, "*": api.XMul, "/": api.XDiv}
	levels := [][]string{{"or"}, {"and"}, {"=", "!=", "<", "<=", ">", ">=", "in"}, {"+", "-"}, {"*", "/"}}
	for i, weak := range levels {
		for _, s := range weak {
			reads(t, "a "+s+" b", node(kinds[s], a, b))
			reads(t, "-a "+s+" -b", node(kinds[s], neg(a), neg(b)))
			reads(t, "(a "+s+" b) "+s+" c", node(kinds[s], node(kinds[s], a, b), c))
			reads(t, "a "+s+" (b "+s+" c)", node(kinds[s], a, node(kinds[s], b, c)))
			for j, tight := range levels {
				for _, z := range tight {
					both := "a " + s + " b " + z + " c"
					switch {
					case i == 2 && j == 2:
						faults(t, both, api.ErrForm, 5+len(s))
					case i >= j:
						reads(t, both, node(kinds[z], node(kinds[s], a, b), c))
					default:
						reads(t, both, node(kinds[s], a, node(kinds[z], b, c)))
					}
				}
			}
		}
	}
	reads(t, "a - b - c - d", node(api.XSub, node(api.XSub, node(api.XSub, a, b), c), d))
	reads(t, "1 + a * 2", node(api.XAdd, num(1, 0), node(api.XMul, a, num(2, 0))))
	reads(t, "a = b and c = d", node(api.XAnd, node(api.XEq, a, b), node(api.XEq, c, d)))
	reads(t, "a<b", node(api.XLt, a, b))
	reads(t, "a--b", node(api.XSub, a, neg(b)))
	reads(t, "1-1", node(api.XSub, num(1, 0), num(1, 0)))
}

func TestD2Minus(t *testing.T) {
	reads(t, "-1", neg(num(1, 0)))
	reads(t, "-0", neg(num(0, 0)))
	reads(t, "- - a", neg(neg(a)))
	reads(t, "---a", neg(neg(neg(a))))
	reads(t, "-a * b", node(api.XMul, neg(a), b))
	reads(t, "a * -b", node(api.XMul, a, neg(b)))
	reads(t, "-(a + b)", neg(node(api.XAdd, a, b)))
	reads(t, "-f(a)", neg(call("f", a)))
	reads(t, "-[a]", neg(list(a)))
	reads(t, "-null", neg(null))
	reads(t, `-"a"`, neg(text("a")))
}

// What Tokens says of a text is told ahead of all else.
func TestD3Tokens(t *testing.T) {
	faults(t, ") #", api.ErrForm, 2)
	faults(t, `and "a`, api.ErrForm, 6)
	faults(t, ") 01", api.ErrForm, 2)
	faults(t, ") "+strings.Repeat("9", 101), api.ErrMuch, 2)
	faults(t, "and 1"+strings.Repeat("0", 99), api.ErrMuch, 4)
	faults(t, ")\xff", api.ErrForm, 1)
	faults(t, ")"+strings.Repeat(" ", api.MaxSource), api.ErrMuch, 0)
	faults(t, "a"+strings.Repeat(" ", api.MaxSource), api.ErrMuch, 0)
	reads(t, "a"+strings.Repeat(" ", api.MaxSource-1), a)
}

func TestD3Form(t *testing.T) {
	for s, at := range map[string]int{
		"":                      0,
		" ":                     1,
		")":                     0,
		"]":                     0,
		"*":                     0,
		"=":                     0,
		",":                     0,
		"..":                    0,
		"1 ..":                  2,
		"a b":                   2,
		"1 2":                   2,
		"a 1":                   2,
		`a "b"`:                 2,
		`a "+" b`:               2,
		`a "or" b`:              2,
		`"(" a)`:                4,
		`("a" ")"`:              5,
		`f "(" a)`:              2,
		"a,":                    1,
		"a, b":                  1,
		"a )":                   2,
		"a ]":                   2,
		"a [b]":                 2,
		"a +":                   3,
		"a +  ":                 5,
		"a + )":                 4,
		"a + + b":               4,
		"a or or b":             -5,
		"a = b = c":             6,
		"a in b in c":           7,
		"a < b >= c":            6,
		"-":                     1,
		"- ":                    2,
		"-)":                    1,
		"- * a":                 2,
		"(":                     1,
		"()":                    1,
		"(a":                    2,
		"(a ":                   3,
		"(a]":                   2,
		"(a, b)":                2,
		"(a))":                  3,
		"[":                     1,
		"[)":                    1,
		"[,":                    1,
		"[a":                    2,
		"[a)":                   2,
		"[a,":                   3,
		"[a,]":                  3,
		"[a,,b]":                3,
		"[a b]":                 3,
		"f(":                    2,
		"f(]":                   2,
		"f(a":                   3,
		"f(a,":                  4,
		"f(a,)":                 4,
		"f(a b)":                4,
		"f()()":                 3,
		"(f)(a)":                3,
		"null(a)":               4,
		"true a":                5,
		"1(a)":                  1,
		"if":                    2,
		"if a":                  4,
		"if a b":                5,
		"if a else b":           5,
		"if a then b":           11,
		"if a then b else":      16,
		"if a then b then c":    12,
		"if a then b else c d":  19,
		`if a "then" b else c`:  5,
		"if then":               -3,
		"for":                   3,
		"for 1":                 4,
		"for (x) in a":          4,
		`for "x" in a return b`: 4,
		"for x":                 5,
		"for x a":               6,
		"for x = a":             6,
		"for x in":              8,
		"for x in a":            10,
		"for x in a satisfies":  11,
		"for x in a return":     17,
		"for x in a, y in b":    10,
		"some x in a return b":  12,
		"some x in a satisfies": 21,
		"every x a":             8,
		"every":                 5,
		"a then b":              2,
		"a return":              2,
		"a if b":                2,
		"not a":                 4,
	} {
		// Below 0: there it is a word that is no name.
		if at < 0 {
			faults(t, s, api.ErrName, -at)
		} else {
			faults(t, s, api.ErrForm, at)
		}
	}
}

func TestD3Name(t *testing.T) {
	long := strings.Repeat("a", api.MaxName+1)
	reads(t, long[1:], name(long[1:]))
	for _, s := range append(taken(), long) {
		for _, start := range []string{"for ", "some ", "every "} {
			faults(t, start+s+" in a return b", api.ErrName, len(start))
		}
		if slices.Contains([]string{"null", "true", "false"}, s) {
			continue
		}
		for _, start := range []string{"a + ", "-", "a or ", "a in "} {
			faults(t, start+s, api.ErrName, len(start))
			faults(t, start+s+"(", api.ErrName, len(start))
		}
		if slices.Contains([]string{"if", "for", "some", "every"}, s) {
			continue
		}
		for _, start := range []string{"", "(", "[", "f(", "f(a, ", "if ", "if a then ", "if a then b else ", "for x in ", "some x in a satisfies ", "every x in a satisfies "} {
			faults(t, start+s, api.ErrName, len(start))
		}
	}
	// Where no name is asked for it is the form that is wrong.
	faults(t, "a "+long, api.ErrForm, 2)
	faults(t, "(a or", api.ErrForm, 5)
	faults(t, "for x "+long, api.ErrForm, 6)
}

func TestD3Values(t *testing.T) {
	long := strings.Repeat("é", api.MaxText/2)
	reads(t, `"`+long+`"`, text(long))
	reads(t, `"`+strings.Repeat(`\n`, api.MaxText)+`"`, text(strings.Repeat("\n", api.MaxText)))
	faults(t, `"`+long+`a"`, api.ErrMuch, 0)
	faults(t, `a + "`+long+`a"`, api.ErrMuch, 4)
	faults(t, `a + "`+long+`a" )`, api.ErrMuch, 4)
	// Where a text can't stand, what is in it is not looked at.
	faults(t, `a "`+long+`a"`, api.ErrForm, 2)
	faults(t, `) + "`+long+`a"`, api.ErrForm, 0)
}

func repeated(s string, n int) string {
	return strings.TrimSuffix(strings.Repeat(s+",", n), ",")
}

func TestD3Many(t *testing.T) {
	for _, c := range []struct {
		opening, closing string
		kind, most       int
	}{{"[", "]", api.XList, api.MaxList}, {"f(", ")", api.XCall, api.MaxArgs}} {
		full := c.opening + repeated("a", c.most)
		x, fault := syn.Read(full + c.closing)
		if fault.Err != api.OK || x.Kind != c.kind || len(x.Kids) != c.most {
			t.Errorf("%+v comes with %d kids of as many as may be", fault, len(x.Kids))
		}
		faults(t, full+",a"+c.closing, api.ErrMany, len(full)+1)
		faults(t, full+",  a", api.ErrMany, len(full)+3)
		faults(t, full+",-(a", api.ErrMany, len(full)+1)
		faults(t, full+", if )", api.ErrMany, len(full)+2)
		faults(t, full+" a", api.ErrForm, len(full)+1)
		faults(t, full, api.ErrForm, len(full))
		// It is met as soon as one more would begin, whatever comes there.
		faults(t, full+","+c.closing, api.ErrMany, len(full)+1)
		faults(t, full+",and", api.ErrMany, len(full)+1)
		faults(t, full+", ", api.ErrMany, len(full)+2)
		// What is wrong ahead of it is met first.
		faults(t, c.opening+")]"+repeated("a", c.most+1), api.ErrForm, len(c.opening)+map[string]int{"]": 0, ")": 1}[c.closing])
		// Each list counts for itself.
		reads(t, "["+full+c.closing+","+full+c.closing+"]", list(x, x))
	}
}

func TestD3Much(t *testing.T) {
	for _, c := range []struct {
		s     string
		opens int
	}{
		{"(", 1}, {"-", 1}, {"[", 1}, {"f(", 1}, {"- ", 1}, {"( ", 1}, {"-(", 2}, {"(-", 2}, {"[-", 2}, {"f(a,", 1}, {"[a,b,", 1},
		{"if ", 1}, {"if a then ", 1}, {"if a then b else ", 1}, {"for x in ", 1}, {"for x in a return ", 1}, {"some x in ", 1}, {"every x in a satisfies ", 1},
		{"a or (", 1}, {"(a) + (b) * (", 1}, {"-f(a,", 2}, {"(if ", 2}, {"a or -(", 2}, {"(a - ", 1}, {"f([", 2}, {"f(-", 2},
	} {
		// The whole is one, so that many more fit in.
		full := strings.Repeat("(", (api.MaxDeep-1)%c.opens) + strings.Repeat(c.s, (api.MaxDeep-1)/c.opens)
		if len(full) > api.MaxSource-20 {
			continue
		}
		at := len(full)
		faults(t, full+"*", api.ErrForm, at)
		faults(t, full+"1 1", api.ErrForm, at+2)
		faults(t, full+"[] 1", api.ErrForm, at+3)
		faults(t, full+"f() 1", api.ErrForm, at+4)
		faults(t, full+"- 1", api.ErrMuch, at+2)
		faults(t, full+"f( 1", api.ErrMuch, at+3)
		faults(t, full+"[ 1", api.ErrMuch, at+2)
		faults(t, full+"( 1", api.ErrMuch, at+2)
		// It is met as soon as one more is open, whatever comes there.
		faults(t, full+"- )", api.ErrMuch, at+2)
		faults(t, full+"- and", api.ErrMuch, at+2)
		faults(t, full+"(", api.ErrMuch, at+1)
		faults(t, full+"[ ", api.ErrMuch, at+2)
		if strings.HasSuffix(strings.TrimSpace(c.s), "-") {
			faults(t, full+"if 1", api.ErrName, at)
			continue
		}
		faults(t, full+"if 1", api.ErrMuch, at+3)
		faults(t, full+"for x in 1", api.ErrMuch, at+9)
		faults(t, full+"some x 1", api.ErrForm, at+7)
		faults(t, full+"every 1", api.ErrForm, at+6)
	}
	inBrackets := func(s string, n int) string { return strings.Repeat("(", n) + s + strings.Repeat(")", n) }
	faults(t, strings.Repeat("(", 199), api.ErrForm, 199)
	faults(t, inBrackets("a", 250), api.ErrMuch, 200)
	reads(t, inBrackets("a", 199), a)
	faults(t, inBrackets("a", 200), api.ErrMuch, 200)
	// What was closed is open no more, and a sum's parts are not in one another.
	reads(t, inBrackets("a", 199)+" + "+inBrackets("b", 199), node(api.XAdd, a, b))
	reads(t, "[-a, "+inBrackets("b", 198)+"]", list(neg(a), b))
	reads(t, "if "+inBrackets("a", 198)+" then "+inBrackets("b", 198)+" else "+inBrackets("c", 198), node(api.XIf, a, b, c))
	faults(t, strings.Repeat("a + -", 250), api.ErrForm, 1250)
}

func TestD3TooMuchInTheEnd(t *testing.T) {
	reads(t, strings.Repeat("-", api.MaxShape-1)+"a", nested(neg, api.MaxShape))
	faults(t, strings.Repeat("-", api.MaxShape)+"a", api.ErrMuch, 0)
	sum := func(n int) string { return strings.TrimSuffix(strings.Repeat("a+", n), "+") }
	if x, fault := syn.Read(sum(api.MaxShape)); fault.Err != api.OK || x.Kind != api.XAdd {
		t.Errorf("%+v comes of %d that are added", fault, api.MaxShape)
	}
	faults(t, "  "+sum(api.MaxShape+1), api.ErrMuch, 0)
	faults(t, sum(1999), api.ErrMuch, 0)
	// What can't be read is told ahead of it.
	faults(t, sum(1999)+")", api.ErrForm, 3997)
	wide := func(n int) string {
		row := "[" + repeated("a", 199) + "]"
		return "[" + repeated(row, 4) + ",[" + repeated("a", n) + "]]"
	}
	// One list, four of 200, and one more with n in it.
	if x, fault := syn.Read(wide(198)); fault.Err != api.OK || len(x.Kids) != 5 {
		t.Errorf("%+v comes of %d", fault, api.MaxExprs)
	}
	faults(t, wide(199), api.ErrMuch, 0)
}

func nested(wrap func(api.Expr) api.Expr, deep int) api.Expr {
	x := a
	for range deep - 1 {
		x = wrap(x)
	}
	return x
}

// littered is x with something in all fields that its kind has not.
func littered(x api.Expr) api.Expr {
	l := api.Expr{Kind: x.Kind, Name: "if", Val: api.Value{Kind: 99, Text: "\xff", List: make([]api.Value, 300)}}
	switch x.Kind {
	case api.XLit:
		l.Val = x.Val
	case api.XName, api.XCall, api.XFor, api.XSome, api.XEvery:
		l.Name = x.Name
	}
	for _, kid := range x.Kids {
		l.Kids = append(l.Kids, littered(kid))
	}
	return l
}

// kidCounts is how many kids each kind has, at least and at most, in the chapter's words.
func kidCounts(kind int) (least, most int) {
	return [...]int{1: 0, 2: 0, 3: 1, 4: 2, 5: 2, 6: 2, 7: 2, 8: 2, 9: 2, 10: 2, 11: 2, 12: 2, 13: 2, 14: 2, 15: 2, 16: 2, 17: 3, 18: 0, 19: 0, 20: 2, 21: 2, 22: 2}[kind],
		[...]int{1: 0, 2: 0, 3: 1, 4: 2, 5: 2, 6: 2, 7: 2, 8: 2, 9: 2, 10: 2, 11: 2, 12: 2, 13: 2, 14: 2, 15: 2, 16: 2, 17: 3, 18: 8, 19: 200, 20: 2, 21: 2, 22: 2}[kind]
}

func isWrong(t *testing.T, what string, x api.Expr, want api.Errno) {
	t.Helper()
	if got := syn.Wrong(x); got != want {
		t.Errorf("%s: %d comes, not %d", what, got, want)
	}
	if want != api.OK {
		refuses(t, x, want)
	}
}

func TestD4Kinds(t *testing.T) {
	for _, kind := range []int{0, -1, 23, 99, math.MaxInt, math.MinInt} {
		isWrong(t, "no kind", api.Expr{Kind: kind, Name: "a", Val: null.Val}, api.ErrKind)
		isWrong(t, "no kind, littered", api.Expr{Kind: kind, Name: "if", Kids: make([]api.Expr, 300)}, api.ErrKind)
	}
	for kind := 1; kind <= 22; kind++ {
		least, most := kidCounts(kind)
		for n := range 210 {
			x := api.Expr{Kind: kind, Name: "f", Val: null.Val}
			bad := x
			for range n {
				x.Kids = append(x.Kids, null)
				bad.Kids = append(bad.Kids, api.Expr{})
			}
			want, wantBad := api.OK, api.ErrKind
			if n == 0 {
				wantBad = api.OK
			}
			if n < least || n > most {
				// That comes ahead of what is wrong with the kids.
				want, wantBad = api.ErrMany, api.ErrMany
			}
			isWrong(t, "kids", x, want)
			isWrong(t, "bad kids", bad, wantBad)
		}
	}
}

func TestD4Names(t *testing.T) {
	for kind := 1; kind <= 22; kind++ {
		named := slices.Contains([]int{api.XName, api.XCall, api.XFor, api.XSome, api.XEvery}, kind)
		least, most := kidCounts(kind)
		for _, s := range append(taken(), "", "1", "a b", " a", "\xff", strings.Repeat("a", 41)) {
			x := api.Expr{Kind: kind, Name: s, Val: null.Val}
			for range least {
				x.Kids = append(x.Kids, null)
			}
			many := x
			many.Kids = make([]api.Expr, most+1)
			want, wantMany := api.OK, api.ErrMany
			if named {
				want, wantMany = api.ErrName, api.ErrName
			}
			isWrong(t, "name", x, want)
			isWrong(t, "name and kids", many, wantMany)
		}
	}
}

func TestD4Literals(t *testing.T) {
	value := func(kind int) api.Value { return api.Value{Kind: kind} }
	deep := value(api.VNull)
	for range api.MaxDepth {
		deep = api.Value{Kind: api.VList, List: []api.Value{deep}}
	}
	for i, c := range []struct {
		x    api.Expr
		want api.Errno
	}{
		{null, api.OK},
		{yes, api.OK},
		{no, api.OK},
		{num(0, 0), api.OK},
		{num(api.MaxCoef, api.MaxExp), api.OK},
		{num(1, -api.MaxExp), api.OK},
		{num(-1, 0), api.ErrFit},
		{num(-1, -api.MaxExp), api.ErrFit},
		{num(-api.MaxCoef, api.MaxExp), api.ErrFit},
		{num(10, 0), api.ErrForm},
		{num(-10, 0), api.ErrForm},
		{num(0, 1), api.ErrForm},
		{num(1, api.MaxExp+1), api.ErrRange},
		{num(math.MinInt64, 0), api.ErrRange},
		{text(""), api.OK},
		{text(strings.Repeat("a", api.MaxText)), api.OK},
		{text(strings.Repeat("a", api.MaxText+1)), api.ErrMuch},
		{text("a\xff"), api.ErrForm},
		{lit(value(0)), api.ErrKind},
		{lit(value(6)), api.ErrKind},
		{lit(value(api.VList)), api.ErrFit},
		{lit(api.Value{Kind: api.VList, List: []api.Value{null.Val}}), api.ErrFit},
		{lit(api.Value{Kind: api.VList, List: []api.Value{num(10, 0).Val}}), api.ErrForm},
		{lit(api.Value{Kind: api.VList, List: make([]api.Value, api.MaxList+1)}), api.ErrMany},
		{lit(deep), api.ErrMuch},
		// A value's own fields that its kind has not mean nothing, either.
		{lit(api.Value{Kind: api.VNull, Num: api.Dec{Coef: -1}, Text: "\xff"}), api.OK},
		{lit(api.Value{Kind: api.VText, Text: "a", Num: api.Dec{Coef: -1}, List: make([]api.Value, 300)}), api.OK},
		// The value comes ahead of the kids.
		{api.Expr{Kind: api.XLit, Val: num(-1, 0).Val, Kids: []api.Expr{a}}, api.ErrFit},
		{api.Expr{Kind: api.XLit, Kids: []api.Expr{a}}, api.ErrKind},
		{api.Expr{Kind: api.XLit, Val: null.Val, Kids: []api.Expr{a}}, api.ErrMany},
		{api.Expr{Kind: api.XLit, Val: null.Val, Kids: []api.Expr{}}, api.OK},
	} {
		if got := syn.Wrong(c.x); got != c.want {
			t.Errorf("%d: %d comes, not %d", i, got, c.want)
		}
	}
}

// shaped has that many nodes in all: itself, and lists as long as they may be, and one that is shorter.
func shaped(nodes int) api.Expr {
	x := list()
	for left := nodes - 1; left > 0; {
		kid := list()
		for range min(left-1, api.MaxList) {
			kid.Kids = append(kid.Kids, a)
		}
		left -= 1 + len(kid.Kids)
		x.Kids = append(x.Kids, kid)
	}
	return x
}

func endless(n int) api.Expr {
	kids := make([]api.Expr, n)
	for i := range kids {
		kids[i] = list()
		kids[i].Kids = kids
	}
	return list(kids...)
}

func TestD4Bounds(t *testing.T) {
	none := api.Expr{}
	isWrong(t, "as deep as may be", nested(neg, api.MaxShape), api.OK)
	isWrong(t, "deeper", nested(neg, api.MaxShape+1), api.ErrMuch)
	isWrong(t, "far deeper", nested(neg, 60000), api.ErrMuch)
	isWrong(t, "as many as may be", shaped(api.MaxExprs), api.OK)
	isWrong(t, "one more", shaped(api.MaxExprs+1), api.ErrMuch)
	isWrong(t, "far more", shaped(10*api.MaxExprs), api.ErrMuch)
	isWrong(t, "its own kid", endless(1), api.ErrMuch)
	isWrong(t, "its own kids", endless(api.MaxList), api.ErrMuch)
	isWrong(t, "with one behind", list(shaped(api.MaxExprs-2), null), api.OK)
	isWrong(t, "with one too many behind", list(shaped(api.MaxExprs-1), null), api.ErrMuch)
	// A node's bounds come ahead of what else is wrong with it, and it ahead of its kids, and these in their order.
	deep := none
	for range api.MaxShape - 1 {
		deep = neg(deep)
	}
	isWrong(t, "deep, of no kind", deep, api.ErrKind)
	isWrong(t, "deeper, of no kind", neg(deep), api.ErrMuch)
	isWrong(t, "too many, of no kind", list(shaped(api.MaxExprs-1), none), api.ErrMuch)
	isWrong(t, "just as many, of no kind", list(shaped(api.MaxExprs-2), none), api.ErrKind)
	isWrong(t, "the first of two", list(name("if"), none), api.ErrName)
	isWrong(t, "the first of two, turned", list(none, name("if")), api.ErrKind)
	isWrong(t, "a kid's kid first", list(list(list(none)), name("if")), api.ErrKind)
	isWrong(t, "a node first", list(list(list(none)), none, name("if"), call("if")), api.ErrKind)
	isWrong(t, "outside first", call("if", none), api.ErrName)
	isWrong(t, "too many kids first", call("f", make([]api.Expr, 9)...), api.ErrMany)
	isWrong(t, "the last one", node(api.XIf, a, b, num(-1, 0)), api.ErrFit)
}

func TestD5AsItIsRead(t *testing.T) {
	for _, s := range []string{
		"1", "0", "0.1", "1000000", `"a\"\\\n"`, `""`, "null", "true", "false", "a", "é1", "-1", "--a", "-null",
		"[]", "[a]", "[a, 1, [b], []]", "f()", "f(a)", "f(a, b, -c)", "not(a)",
		"if a then b else c", "if if a then b else c then if a then b else c else if a then b else c",
		"for x in a return b", "for x in a in b return c or d", "for x in for y in a return b return for z in c return d",
		"some x in a satisfies b", "every x in a satisfies b", "every x in if a then b else c satisfies some y in b satisfies c",
		"[if a then b else c, for x in a return b]", "f(some x in a satisfies b, c or d)",
		"1 + 2 * 3 - 4 / 5", "a < b and c >= d or not(e)", "a in [1, 2]", "a or b and c = d + a * -b",
		"a = b", "a != b", "a < b", "a <= b", "a > b", "a >= b", "a in b", "a + b", "a - b", "a * b", "a / b", "a and b", "a or b",
		"a - -b", "-a - --b", "-a * -b", "-f(a)", "-[a]", "--[-a]", "-(a + b)", "-(a * b)", "--(a - b)", "-(a = b)", "-(a or b)",
	} {
		x, fault := syn.Read(s)
		if fault.Err != api.OK {
			t.Errorf("%q: %+v comes", s, fault)
		}
		prints(t, x, s)
		prints(t, littered(x), s)
	}
	prints(t, num(api.MaxCoef, api.MaxExp), strings.Repeat("9", 18)+strings.Repeat("0", 40))
	prints(t, num(1, -api.MaxExp), "0."+strings.Repeat("0", 39)+"1")
	prints(t, neg(num(0, 0)), "-0")
	prints(t, text("\x00\t\r日\ufffd"), "\"\x00\t\r日\ufffd\"")
}

// plain has just the fields that its kind has.
func plain(kind int, kids ...api.Expr) api.Expr {
	x := api.Expr{Kind: kind, Kids: kids}
	switch kind {
	case api.XLit:
		x.Val = yes.Val
	case api.XName, api.XCall, api.XFor, api.XSome, api.XEvery:
		x.Name = "f"
	}
	return x
}

func TestD5Brackets(t *testing.T) {
	weak := [][]int{{api.XIf, api.XFor, api.XSome, api.XEvery}, {api.XOr}, {api.XAnd}, {api.XEq, api.XNe, api.XLt, api.XLe, api.XGt, api.XGe, api.XIn}, {api.XAdd, api.XSub}, {api.XMul, api.XDiv}, {api.XNeg}, {api.XLit, api.XName, api.XCall, api.XList}}
	made := func(kind int, kid api.Expr) []api.Expr {
		least, _ := kidCounts(kind)
		var out []api.Expr
		for i := range least {
			x := plain(kind, slices.Repeat([]api.Expr{b}, least)...)
			x.Kids[i] = kid
			out = append(out, x)
		}
		if kind == api.XCall || kind == api.XList {
			out = append(out, plain(kind, kid), plain(kind, b, kid))
		}
		return out
	}
	for i, outer := range weak {
		for j, inner := range weak {
			for _, kind := range inner {
				least, _ := kidCounts(kind)
				kid := plain(kind, slices.Repeat([]api.Expr{a}, least)...)
				alone, _ := syn.Print(kid)
				for _, over := range outer {
					for place, x := range made(over, kid) {
						got, err := syn.Print(x)
						if err != api.OK {
							t.Fatal(err)
						}
						// In words' and brackets' places all may stand; on the left of a sign what is as tight may, but beside those that stand once.
						bare := i == 0 || i == 7 || j > i || j == i && (i == 6 || place == 0 && i != 3)
						if bare != !strings.Contains(got, "("+alone+")") && over != api.XCall {
							t.Errorf("%q comes of %q", got, alone)
						}
						if strings.Contains(got, "((") {
							t.Errorf("%q comes", got)
						}
						reads(t, got, x)
					}
				}
			}
		}
	}
	for s, want := range map[string]string{
		"((a))": "a", "(a + b) + c": "a + b + c", "a + (b + c)": "a + (b + c)", "a - (b + c)": "a - (b + c)", "(a * b) + (c / d)": "a * b + c / d",
		"(a + b) * c": "(a + b) * c", "a / (b * c)": "a / (b * c)", "(a = b) = c": "(a = b) = c", "a = (b in c)": "a = (b in c)", "(a + b) = (c + d)": "a + b = c + d",
		"(a = b) and (c = d)": "a = b and c = d", "(a and b) or c": "a and b or c", "a and (b or c)": "a and (b or c)", "a or (b or c)": "a or (b or c)", "(a or b) = c": "(a or b) = c",
		"-(-1)": "--1", "-(a)": "-a", "(-a) * b": "-a * b", "-((a * b))": "-(a * b)", "(if a then b else c) + 1": "(if a then b else c) + 1", "1 + (if a then b else c)": "1 + (if a then b else c)",
		"-(for x in a return b)": "-(for x in a return b)", "a or (some x in a satisfies b)": "a or (some x in a satisfies b)", "(if a then b else c)": "if a then b else c",
		"if (a or b) then (b) else (if a then b else c)": "if a or b then b else if a then b else c", "for x in (a or b) return (c = d)": "for x in a or b return c = d",
		"[(a), (b or c)]": "[a, b or c]", "f((a), (if a then b else c))": "f(a, if a then b else c)", " a+b ": "a + b", "f ( a,b )": "f(a, b)", "[a,b]": "[a, b]", "if(a)then(b)else(c)": "if a then b else c",
	} {
		x, fault := syn.Read(s)
		if fault.Err != api.OK {
			t.Errorf("%q: %+v comes", s, fault)
		}
		prints(t, x, want)
	}
}

func TestD5Much(t *testing.T) {
	// A list of texts, with quotes, commas and blanks, and brackets: 4 * 1000 bytes, but for what is written around them.
	long := func(n int) api.Expr {
		x := list()
		for range 3 {
			x.Kids = append(x.Kids, text(strings.Repeat("a", api.MaxText)))
		}
		x.Kids = append(x.Kids, text(strings.Repeat("b", n)))
		return x
	}
	frame := 2 + 3*2 + 4*2
	if got, err := syn.Print(long(api.MaxText - frame)); err != api.OK || len(got) != api.MaxSource {
		t.Errorf("%d bytes, %d comes of as many as may be", len(got), err)
	}
	refuses(t, long(api.MaxText-frame+1), api.ErrMuch)
	refuses(t, long(api.MaxText), api.ErrMuch)
	// What counts is how it is written.
	refuses(t, list(text(strings.Repeat(`"`, 1000)), text(strings.Repeat("\n", 1000))), api.ErrMuch)
	// What is wrong is told ahead of it.
	wrong := long(api.MaxText)
	wrong.Kids = append(wrong.Kids, api.Expr{})
	refuses(t, wrong, api.ErrKind)
}

// However expressions are nested, as long as nothing is wrong with them, what is written is not too deep to be read.
func TestD5TheDeepestAreRead(t *testing.T) {
	wraps := []func(x api.Expr) api.Expr{
		neg,
		func(x api.Expr) api.Expr { return list(x) },
		func(x api.Expr) api.Expr { return call("f", x) },
		func(x api.Expr) api.Expr { return node(api.XMul, a, x) },
		func(x api.Expr) api.Expr { return node(api.XEq, x, a) },
		func(x api.Expr) api.Expr { return node(api.XIf, x, a, b) },
		func(x api.Expr) api.Expr { return loop(api.XFor, "x", a, x) },
	}
	for i := range wraps {
		for j := range wraps {
			for k := range wraps {
				turn := 0
				x := nested(func(x api.Expr) api.Expr {
					turn++
					return wraps[[]int{i, j, k}[turn%3]](x)
				}, api.MaxShape)
				s, err := syn.Print(x)
				if err != api.OK {
					t.Fatalf("%d comes", err)
				}
				reads(t, s, x)
			}
		}
	}
}

func TestD5NumbersComeBack(t *testing.T) {
	for _, s := range []string{"0", "1", "10", "0.5", "12.50", "999999999999999999", "0.000000000000000001", "123456789012345678" + strings.Repeat("0", 40)} {
		want, err := dec.Parse(s)
		if err != api.OK {
			t.Fatal(s)
		}
		x, fault := syn.Read(s)
		if fault.Err != api.OK || x.Val.Num != want {
			t.Errorf("%q: %+v, %+v comes", s, x, fault)
		}
	}
}

// The calls only read, and what they answer is the caller's.
func TestD5NothingIsSharedOrChanged(t *testing.T) {
	room := []api.Expr{a, list(text("a"), num(1, 0)), node(api.XIf, a, b, c), text("spare")}
	kept := []api.Expr{a, list(text("a"), num(1, 0)), node(api.XIf, a, b, c), text("spare")}
	x := api.Expr{Kind: api.XList, Kids: room[:3]}
	syn.Wrong(x)
	first, _ := syn.Print(x)
	if !reflect.DeepEqual(room, kept) {
		t.Errorf("%+v is left", room)
	}
	one, _ := syn.Read(first)
	two, _ := syn.Read(first)
	scribble(one)
	if again, _ := syn.Read(first); !alike(again, two) || !alike(two, x) {
		t.Errorf("%+v comes", again)
	}
}

// scribble overwrites all that x has, and the room behind it.
func scribble(x api.Expr) {
	for i := range x.Kids {
		scribble(x.Kids[i])
	}
	for i := range x.Kids[:cap(x.Kids)] {
		x.Kids[:cap(x.Kids)][i] = api.Expr{Kind: 99}
	}
}
