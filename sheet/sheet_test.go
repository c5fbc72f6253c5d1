package sheet_test

import (
	"fmt"
	"reflect"
	"slices"
	"strconv"
	"strings"
	"sync"
	"testing"
	"unsafe"

	"verdict/api"
	"verdict/sheet"
	"verdict/syn"
	"verdict/table"
	"verdict/trials"
)

// head is three lines, behind which rules of two tests and an expression stand.
const head = "table t first\nin a number, b text\nout o number\n"

// short is three lines, behind which rules of a test and an expression stand.
const short = "table t first\nin a number\nout o number\n"

func num(coef int64, exp int) api.Value {
	return api.Value{Kind: api.VNum, Num: api.Dec{Coef: coef, Exp: exp}}
}

func text(s string) api.Value { return api.Value{Kind: api.VText, Text: s} }

func truth(yes bool) api.Value { return api.Value{Kind: api.VBool, Yes: yes} }

func is(v api.Value) api.Test { return api.Test{Kind: api.TeIs, A: v} }

func either(l ...api.Value) api.Test {
	te := api.Test{Kind: api.TeOr}
	for _, v := range l {
		te.Kids = append(te.Kids, is(v))
	}
	return te
}

func lit(v api.Value) api.Expr { return api.Expr{Kind: api.XLit, Val: v} }

func anything() api.Test { return api.Test{Kind: api.TeAny} }

// rule has the tests and expressions that are written so: all but the last of these are tests.
func rule(texts ...string) api.Rule { return ruleOf(len(texts)-1, texts...) }

func ruleOf(tests int, texts ...string) api.Rule {
	r := api.Rule{}
	for i, s := range texts {
		te, fault := api.Test{}, api.Fault{}
		x := api.Expr{}
		if i < tests {
			te, fault = trials.Read(s)
			r.Tests = append(r.Tests, te)
		} else {
			x, fault = syn.Read(s)
			r.Outs = append(r.Outs, x)
		}
		if fault.Err != api.OK {
			panic(s)
		}
	}
	return r
}

// first is the table of head with these rules.
func first(rules ...api.Rule) api.Table {
	return api.Table{
		Name:   "t",
		Policy: api.PolFirst,
		Ins:    []api.Column{{Name: "a", Kind: api.TyNum}, {Name: "b", Kind: api.TyText}},
		Outs:   []api.Column{{Name: "o", Kind: api.TyNum}},
		Rules:  rules,
	}
}

// ordered is a table whose one output, of texts, has this order.
func ordered(order ...api.Value) api.Table {
	return api.Table{
		Name:   "t",
		Policy: api.PolPriority,
		Ins:    []api.Column{{Name: "a", Kind: api.TyNum}},
		Outs:   []api.Column{{Name: "o", Kind: api.TyText, Order: order}},
	}
}

// alike holds what is told against each other: a list without entries is as none.
func alike(a, b any) bool { return fmt.Sprintf("%#v", a) == fmt.Sprintf("%#v", b) }

// plain is t, its lists without entries as none, so that alike tells no difference.
func plain(t api.Table) api.Table {
	columns := func(l []api.Column) []api.Column {
		l = slices.Clone(l)
		for i := range l {
			l[i].Order = append([]api.Value(nil), l[i].Order...)
		}
		return l
	}
	t.Ins, t.Outs = columns(t.Ins), columns(t.Outs)
	t.Rules = append([]api.Rule(nil), t.Rules...)
	return t
}

func reads(t *testing.T, s string, want api.Table) {
	t.Helper()
	got, fault := sheet.Read(s)
	if fault != (api.Fault{}) || !alike(plain(got), plain(want)) {
		t.Errorf("%.200q: %+v, %+v comes, not %+v", s, got, fault, want)
	}
}

// refuses also asks that beside the fault there is nothing.
func refuses(t *testing.T, s string, err api.Errno, at int) {
	t.Helper()
	got, fault := sheet.Read(s)
	if fault != (api.Fault{Err: err, At: at}) || !reflect.DeepEqual(got, api.Table{}) {
		t.Errorf("%.200q: %+v, %+v comes, not %d at %d", s, got, fault, err, at)
	}
}

func prints(t *testing.T, x api.Table, want string) {
	t.Helper()
	if got, err := sheet.Print(x); err != api.OK || got != want {
		t.Errorf("%.200q, %d comes, not %.200q", got, err, want)
	}
}

// keeps also asks that beside the error there is nothing.
func keeps(t *testing.T, x api.Table, want api.Errno) {
	t.Helper()
	if got, err := sheet.Print(x); err != want || got != "" {
		t.Errorf("%.200q, %d comes, not %d", got, err, want)
	}
}

// both asks that a text is read as a table, and this is written as the text.
func both(t *testing.T, s string, x api.Table) {
	t.Helper()
	reads(t, s, x)
	prints(t, x, s)
}

func TestR2R3Example(t *testing.T) {
	want := api.Table{
		Name:   "discount",
		Policy: api.PolUnique,
		Ins:    []api.Column{{Name: "amount", Kind: api.TyNum}, {Name: "member", Kind: api.TyBool}},
		Outs:   []api.Column{{Name: "rate", Kind: api.TyNum}},
		Rules: []api.Rule{
			{Tests: []api.Test{{Kind: api.TeLt, A: num(1, 2)}, is(truth(false))}, Outs: []api.Expr{lit(num(0, 0))}},
			{Tests: []api.Test{{Kind: api.TeIn, A: num(1, 2), B: num(1, 3), OpenB: true}, is(truth(true))}, Outs: []api.Expr{lit(num(1, 1))}},
			{Tests: []api.Test{{Kind: api.TeGe, A: num(1, 3)}, anything()}, Outs: []api.Expr{lit(num(15, 0))}},
		},
	}
	both(t, "table discount unique\nin amount number, member boolean\nout rate number\nrule < 100 | false | 0\nrule [100..1000) | true | 10\nrule >= 1000 | - | 15\n", want)
}

func TestR1Lines(t *testing.T) {
	reads(t, head, first())
	reads(t, head[:len(head)-1], first())
	reads(t, head+"rule - | - | 1\n", first(rule("-", "-", "1")))
	reads(t, head+"rule - | - | 1", first(rule("-", "-", "1")))
	reads(t, head+"rule - | - | 1\nrule 2 | - | 2", first(rule("-", "-", "1"), rule("2", "-", "2")))
	// A line without anything is one, wherever it stands, but there is none behind the last line feed.
	refuses(t, head+"\n", api.ErrForm, 3)
	refuses(t, head+"rule - | - | 1\n\n", api.ErrForm, 4)
	refuses(t, head+"\nrule - | - | 1\n", api.ErrForm, 3)
	refuses(t, "\n"+head, api.ErrForm, 0)
	refuses(t, "table t first\n\nin a number\nout o number\n", api.ErrForm, 1)
	refuses(t, "table t first\nin a number\n\nout o number\n", api.ErrForm, 2)
	for _, s := range []string{"", "\n", "\n\n", "\n\n\n\n"} {
		refuses(t, s, api.ErrForm, 0)
	}
	// Nothing else ends one.
	refuses(t, strings.ReplaceAll(head, "\n", "\r\n"), api.ErrForm, 0)
	refuses(t, strings.ReplaceAll(head, "\n", "\r"), api.ErrForm, 0)
	refuses(t, "table t first\nin a number\r\nout o number\n", api.ErrForm, 1)
	refuses(t, "table t first\nin a number\nout o number\u2028", api.ErrForm, 2)
	refuses(t, head+"rule - | - | 1\r\n", api.ErrForm, 3)
	// A line feed ends a line in quotes and in brackets, too.
	refuses(t, head+"rule - | \"a\nb\" | 1\n", api.ErrMany, 3)
	refuses(t, head+"rule - | - | max([1,\n2])\n", api.ErrForm, 3)
	refuses(t, head+"rule - | - | 1\n + 2\n", api.ErrForm, 4)
}

// pieces asks into how many pieces a rule is cut: where there are not as many as asked for, that is told, and else that such a piece can't be read.
func pieces(t *testing.T, line string, want int) {
	t.Helper()
	for n := 2; n <= 6; n++ {
		s := "table t first\nin "
		for i := range n {
			switch i {
			case 0:
				s += "a0 number"
			case n / 2:
				s += "\nout a" + strconv.Itoa(i) + " number"
			default:
				s += ", a" + strconv.Itoa(i) + " number"
			}
		}
		wantErr := api.ErrMany
		if n == want {
			wantErr = api.ErrForm
		}
		refuses(t, s+"\nrule "+line, wantErr, 3)
	}
}

func TestR1CutRules(t *testing.T) {
	for line, want := range map[string]int{
		"1":     1,
		"||":    3,
		"#|":    2,
		"|#":    2,
		"a,b|,": 2,
		"|||":   4,
		// Quotes.
		`"|"#|`:         2,
		`"|`:            1,
		`|"|`:           2,
		`"a|b""|"|#`:    2,
		`"a"|"b"|#`:     3,
		`"\"|"|#`:       2,
		`"\\"|"|#`:      2,
		`"\\"|#`:        2,
		`"\\\"|"|#`:     2,
		`"\\\\"|#`:      2,
		`"\|"|#`:        2,
		`"\n\"|\\"|#|`:  3,
		`"\`:            1,
		`|"\`:           2,
		`|"\"|`:         2,
		`\"|"|#`:        2,
		`\|#`:           2,
		`\\"|"|#`:       2,
		`'|'|#`:         3,
		"`|#":           2,
		`"é\é|"|#`:      2,
		"\"\xff\\\xff|": 1,
		// Brackets.
		"(|)|#":        2,
		"[|]|#":        2,
		"(|]|#":        2,
		"[|)|#":        2,
		"((|)|)|#":     2,
		"([|)|]|#":     2,
		"(|":           1,
		"|(|":          2,
		"|[(|)|":       2,
		"{|}|#":        3,
		"<|>|#":        3,
		"()|[]|#":      3,
		"(1|2)|[3|4]#": 2,
		// More may be closed than open: then it takes as many that open, and one more.
		")|#":           2,
		"]|#|":          3,
		")|(|#":         3,
		")(|#":          2,
		")((|#":         1,
		")|((|#":        2,
		"))((|#":        2,
		"))]([(|(|#":    2,
		"))]([((|(|#":   1,
		")]|[(|(|)|#|#": 5,
		"|)|(|":         4,
		// Brackets in quotes are none, nor are quotes in brackets brackets.
		`"("|#`:      2,
		`"["|")"|#`:  3,
		`(")"|)|#`:   2,
		`(")|)"|)|#`: 2,
		`(")|)|#`:    1,
		`)"("(|#`:    2,
		`"(\"("|#`:   2,
	} {
		if want > 1 {
			pieces(t, line, want)
		} else {
			refuses(t, short+"rule "+line, api.ErrMany, 3)
		}
	}
}

func TestR1CutPiecesThatAreRead(t *testing.T) {
	for s, want := range map[string]api.Rule{
		`rule - | "a|b", "c\"|" | 1`:             rule("-", `"a|b", "c\"|"`, "1"),
		`rule - | "\\" | 1`:                      rule("-", `"\\"`, "1"),
		`rule - | "\\\"|", "|\\" | 1`:            rule("-", `"\\\"|", "|\\"`, "1"),
		`rule - | "(", ")|(", "[|" | 1`:          rule("-", `"(", ")|(", "[|"`, "1"),
		`rule [1..2) | ("a".."b"] | max([1, 2])`: rule("[1..2)", `("a".."b"]`, "max([1, 2])"),
		`rule (1..2) | not("a") | ((1))`:         rule("(1..2)", `not("a")`, "((1))"),
		`rule -|-|1`:                             rule("-", "-", "1"),
		"rule  \t- | -\t|\t 1\t ":                rule("-", "-", "1"),
		`rule -|"a"|if b = "|" then a else sum(for x in [a, 1] return (x + 1) * 2)`: rule("-", `"a"`, `if b = "|" then a else sum(for x in [a, 1] return (x + 1) * 2)`),
	} {
		reads(t, head+s, first(want))
		reads(t, head+s+"\n", first(want))
	}
}

func TestR1CutColumns(t *testing.T) {
	order := []api.Value{text("a,b"), text(`",`), text("(,"), text(`\`), text("],")}
	both(t, "table t priority\nin a number\nout o text (\"a,b\", \"\\\",\", \"(,\", \"\\\\\", \"],\")\n", ordered(order...))
	x := ordered(text("x"), text("y"))
	x.Outs = append(x.Outs, api.Column{Name: "p", Kind: api.TyNum, Order: []api.Value{num(1, 0), num(2, 0)}}, api.Column{Name: "q", Kind: api.TyBool})
	both(t, "table t priority\nin a number\nout o text (\"x\", \"y\"), p number (1, 2), q boolean\n", x)
	reads(t, "table t priority\nin a number\nout o text (\"x\",\"y\"),p number (1,2),q boolean\n", x)
	// More that closed than were open: the comma in later brackets counts.
	refuses(t, "table t priority\nin a number\nout o number (1)), p number (1, 2)\n", api.ErrForm, 2)
	// Here the pieces are `), o number (1` and ` 2)`, or else an order could be read.
	refuses(t, "table t priority\nin a number\nout ) number, o number (1, 2)\n", api.ErrForm, 2)
	// Here a name: the comma in the brackets does not count, and the name is none.
	refuses(t, "table t priority\nin a number\nout o( number, p number\n", api.ErrForm, 2)
	refuses(t, "table t priority\nin a number\nout o(,) number (1)\n", api.ErrName, 0)
	refuses(t, "table t priority\nin a number\nout \",\" number (1)\n", api.ErrName, 0)
	refuses(t, "table t priority\nin a number\nout \"\\\",\" number (1)\n", api.ErrName, 0)
}

func TestR2Much(t *testing.T) {
	padded := func(size int) string {
		return strings.Replace(head, "in a", "in "+strings.Repeat(" ", size-len(head))+"a", 1)
	}
	reads(t, padded(4*api.MaxSource), first())
	refuses(t, padded(4*api.MaxSource+1), api.ErrMuch, 0)
	refuses(t, strings.Repeat("a", 4*api.MaxSource), api.ErrForm, 0)
	for _, s := range []string{"a", "\n", "\xff", "table "} {
		refuses(t, strings.Repeat(s, 4*api.MaxSource/len(s)+1), api.ErrMuch, 0)
		refuses(t, strings.Repeat(s, 1<<20), api.ErrMuch, 0)
	}
	// It comes ahead of what is wrong with lines.
	refuses(t, head+"rules"+strings.Repeat(" ", 4*api.MaxSource), api.ErrMuch, 0)
	// As many rules as there is room for, and then Wrong says that these are too many.
	n := (4*api.MaxSource - len(short)) / len("rule -|1\n")
	refuses(t, short+strings.Repeat("rule -|1\n", n), api.ErrMany, 0)
	refuses(t, short+strings.Repeat("rule -|1\n", n-1)+"rule -|", api.ErrForm, n+2)
}

func TestR2Head(t *testing.T) {
	rest := "\nin a number\nout o number\n"
	for i, word := range strings.Fields("unique any priority first rule collect sum min max count") {
		want := first()
		want.Ins, want.Policy = want.Ins[:1], i+1
		both(t, "table t "+word+rest, want)
		refuses(t, "table t "+strings.ToUpper(word)+rest, api.ErrForm, 0)
		refuses(t, "table t "+word+"s"+rest, api.ErrForm, 0)
		refuses(t, "table t "+word[1:]+rest, api.ErrForm, 0)
		refuses(t, "table t "+word+" "+rest, api.ErrForm, 0)
		refuses(t, "table t  "+word+rest, api.ErrForm, 0)
		refuses(t, "table "+word+rest, api.ErrForm, 0)
	}
	for _, s := range []string{
		"table", "table ", "table t", "table t ", "tablet first", "Table t first", " table t first", "table\tt first", "table t\tfirst", "table t first\t",
		"t first", "table t first unique", "table t u first", "table t null", "table t 1", "table t none", "table t unique any", "in a number", "rule - | 1", "\ufefftable t first",
	} {
		refuses(t, s+rest, api.ErrForm, 0)
		refuses(t, s, api.ErrForm, 0)
	}
	// What stands ahead of the first blank is the name, whatever it is: what is wrong with it is told in the end.
	for _, s := range []string{"if", "", "1", "a-b", "a|b", `"a"`, "t\t", "\tt", "t\r", "\xff", "a,b", strings.Repeat("a", api.MaxName+1)} {
		refuses(t, "table "+s+" first"+rest, api.ErrName, 0)
		refuses(t, "table "+s+" first", api.ErrForm, 1)
		refuses(t, "table "+s+" first"+rest+"rule", api.ErrForm, 3)
	}
	for _, s := range []string{"table", "first", "rule", "not", "é1", "_", strings.Repeat("a", api.MaxName)} {
		want := first()
		want.Ins, want.Name = want.Ins[:1], s
		both(t, "table "+s+" first"+rest, want)
	}
}

// placed are a table's texts with s in place of its Ins, and in place of its Outs, with the number of that line.
func placed(s string) map[string]int {
	return map[string]int{
		"table t priority\nin " + s + "\nout o number\n": 1,
		"table t priority\nin " + s:                      1,
		"table t priority\nin a number\nout " + s + "\n": 2,
		"table t priority\nin a number\nout " + s:        2,
	}
}

func TestR2Columns(t *testing.T) {
	for s, want := range map[string][]api.Column{
		"a number":                       {{Name: "a", Kind: api.TyNum}},
		"a boolean":                      {{Name: "a", Kind: api.TyBool}},
		"a text":                         {{Name: "a", Kind: api.TyText}},
		"   a text   ":                   {{Name: "a", Kind: api.TyText}},
		"a number,b text":                {{Name: "a", Kind: api.TyNum}, {Name: "b", Kind: api.TyText}},
		" a number ,  b text ":           {{Name: "a", Kind: api.TyNum}, {Name: "b", Kind: api.TyText}},
		"text text, number number":       {{Name: "text", Kind: api.TyText}, {Name: "number", Kind: api.TyNum}},
		"a number, b boolean, é1 text":   {{Name: "a", Kind: api.TyNum}, {Name: "b", Kind: api.TyBool}, {Name: "é1", Kind: api.TyText}},
		"rule number, out text, t text ": {{Name: "rule", Kind: api.TyNum}, {Name: "out", Kind: api.TyText}, {Name: "t", Kind: api.TyText}},
	} {
		x := ordered()
		x.Ins = want
		reads(t, "table t priority\nin "+s+"\nout o text", x)
		x = ordered()
		x.Outs = want
		reads(t, "table t priority\nin a number\nout "+s, x)
	}
	for _, s := range []string{
		"", " ", "a", "a ", "number", "a int", "a Number", "a numbers", "a num", "a list", "a null", "a any", "a  number", "a\tnumber", "a number\t", "a\t number\t",
		"a number,", ",a number", "a number,,b number", ",", "a number;b number", "a number b number", "a number x", "a, number", "a (1)", "a (1) number", "a list of number",
		"a number, b", "a number, b  text", "a number, b int", "a number, b text 1", "a \"number\"", "(a number)", "a number|b number", "a number, ",
	} {
		for text, at := range placed(s) {
			refuses(t, text, api.ErrForm, at)
		}
	}
	// Names are asked in the end.
	for _, s := range []string{"1 number", "if number", "\t number", "a number, a text", "a number, in text", "a|b text", "\ta number", "a\t number", "number\t number", "é- text", "\xff text"} {
		for text, at := range placed(s) {
			if at == 2 || strings.Contains(text, "out") {
				refuses(t, text, api.ErrName, 0)
			} else {
				refuses(t, text, api.ErrForm, 2)
			}
		}
	}
}

func TestR2ColumnLines(t *testing.T) {
	const top = "table t first\n"
	refuses(t, top, api.ErrForm, 1)
	refuses(t, top[:len(top)-1], api.ErrForm, 1)
	for _, s := range []string{"", " ", "in", "ina number", " in a number", "In a number", "in\ta number", "out a number", "a number", "ins a number", "rule - | 1", "table t first", "input a number"} {
		refuses(t, top+s, api.ErrForm, 1)
		refuses(t, top+s+"\nout o number\n", api.ErrForm, 1)
	}
	refuses(t, top+"in a number", api.ErrForm, 2)
	refuses(t, top+"in a number\n", api.ErrForm, 2)
	for _, s := range []string{"", " ", "out", "outo number", " out o number", "Out o number", "out\to number", "in o number", "o number", "outs o number", "rule - | 1", "table t first", "output o number"} {
		refuses(t, top+"in a number\n"+s+"\n", api.ErrForm, 2)
		refuses(t, top+"in a number\n"+s+"\nout o number\n", api.ErrForm, 2)
	}
	refuses(t, top+"out o number\nin a number\n", api.ErrForm, 1)
}

func TestR2Orders(t *testing.T) {
	const top = "table t priority\nin a number\nout o text "
	for s, want := range map[string][]api.Value{
		`("b", "a")`:         {text("b"), text("a")},
		`("b")`:              {text("b")},
		`( "b" ,"a"  )`:      {text("b"), text("a")},
		"(\t\"b\"\t)":        {text("b")},
		`("b", "a", "b")`:    {text("b"), text("a"), text("b")},
		`("")`:               {text("")},
		`(")", "(")`:         {text(")"), text("(")},
		`("\"\\\n")`:         {text("\"\\\n")},
		`("b")  `:            {text("b")},
		`("b", "a"), p text`: {text("b"), text("a")},
	} {
		x := ordered(want...)
		if strings.HasSuffix(s, "p text") {
			x.Outs = append(x.Outs, api.Column{Name: "p", Kind: api.TyText})
		}
		reads(t, top+s, x)
		reads(t, top+s+"\n", x)
	}
	x := ordered()
	x.Outs = []api.Column{{Name: "o", Kind: api.TyNum, Order: []api.Value{num(3, 0), num(-15, -1), num(0, 0), num(1, 9)}}, {Name: "p", Kind: api.TyBool, Order: []api.Value{truth(true), truth(false)}}}
	both(t, "table t priority\nin a number\nout o number (3, -1.5, 0, 1000000000), p boolean (true, false)\n", x)
	reads(t, "table t priority\nin a number\nout o number (3.0, - 1.50, -0, 1000000000.0), p boolean (true,false)", x)
	for _, s := range []string{
		`"b"`, `()`, `( )`, `(`, `)`, `("b"`, `"b")`, `("b") x`, ` ("b")`, "\t(\"b\")", "(\"b\")\t", `["b"]`, `("b"]`, `["b")`, `("b",)`, `(,"b")`, `("b" "a")`, `("b")("a")`, `(b)`, `("b)`, `("b", "\x")`,
		`(-)`, `(< "b")`, `(>= "b")`, `(["a".."b"])`, `(("a".."b"))`, `(not("b"))`, `("b", < "c")`, `(["a".."b"], "c")`, `("b", ("c".."d"))`, `("b", not("a"))`, `("b", -)`, `(("b"))`, `(# "b")`, "(\"\xff\")", `(1 + 1)`, `([1])`, `("b");`,
	} {
		refuses(t, top+s, api.ErrForm, 2)
		refuses(t, top+s+"\nrule", api.ErrForm, 2)
		refuses(t, "table t priority\nin a number "+s+"\nout", api.ErrForm, 1)
	}
}

func TestR2OrdersWithErrorsOfTests(t *testing.T) {
	list := func(n int, s string) string { return "(" + strings.TrimSuffix(strings.Repeat(s+", ", n), ", ") + ")" }
	long := `"` + strings.Repeat("a", api.MaxText) + `"`
	for s, want := range map[string]api.Errno{
		list(api.MaxTests+1, "1"):              api.ErrMany,
		list(api.MaxTests+1, "< 1"):            api.ErrMany,
		"(1000000000.1)":                       api.ErrRange,
		"(-1000000001)":                        api.ErrRange,
		"(0.0000001)":                          api.ErrRange,
		"(1, 2, 0.0000001)":                    api.ErrRange,
		"(< 0.0000001)":                        api.ErrRange,
		"(< true)":                             api.ErrType,
		`([1.."a"])`:                           api.ErrType,
		"(007)":                                api.ErrForm,
		"(" + strings.Repeat("1", 101) + ")":   api.ErrMuch,
		"(" + long[:len(long)-1] + `a")`:       api.ErrMuch,
		"(1" + strings.Repeat(" ", 4000) + ")": api.ErrMuch,
		list(4, long):                          api.ErrMuch,
	} {
		for text, at := range placed("o number " + s) {
			refuses(t, text, want, at)
		}
		// The first column's error is told, ahead of the others' and of further lines'.
		for text, at := range placed("o number " + s + ", p int") {
			refuses(t, text, want, at)
		}
		for text, at := range placed("p int, o number " + s) {
			refuses(t, text, api.ErrForm, at)
		}
	}
	most := slices.Repeat([]api.Value{text("a")}, api.MaxOrder)
	both(t, "table t priority\nin a number\nout o text "+list(api.MaxOrder, `"a"`)+"\n", ordered(most...))
}

// What Wrong says of orders is told in the end.
func TestR2OrdersThatAreWrong(t *testing.T) {
	for s, want := range map[string]api.Errno{
		"table t first\nin a number\nout o number (1)":                                api.ErrMany,
		"table t priority\nin a number (1)\nout o number (1)":                         api.ErrMany,
		"table t priority\nin a number\nout o number (null)":                          api.ErrType,
		"table t priority\nin a number\nout o number (\"1\")":                         api.ErrType,
		"table t priority\nin a number\nout o text (\"a\", 1)":                        api.ErrType,
		"table t priority\nin a number\nout o boolean (true, null)":                   api.ErrType,
		"table t priority\nin a number\nout o boolean, p boolean (0)":                 api.ErrType,
		"table t priority\nin a number\nout o boolean (0), p boolean, q text, r text": api.ErrMany,
	} {
		refuses(t, s, want, 0)
		refuses(t, s+"\nrule - | 1 | |", api.ErrMany, 3)
	}
}

func TestR2Rules(t *testing.T) {
	for _, s := range []string{"", " ", "rule", "rules", "rule\t- | - | 1", " rule - | - | 1", "Rule - | - | 1", "- | - | 1", "rule-|-|1", "table t first", "in a number", "out o number", "#"} {
		refuses(t, head+s+"\n", api.ErrForm, 3)
		refuses(t, head+"rule - | - | 1\n"+s+"\n", api.ErrForm, 4)
		refuses(t, head+"rule - | - | 1\n"+s+"\nrule 1", api.ErrForm, 4)
	}
	for _, s := range []string{"rule ", "rule -", "rule - | 1", "rule - | - | 1 | 1", "rule < | <", "rule || |", "rule - - 1", "rule - , - , 1", "rule (- | - | 1)", "rule - | \"a | 1", "rule - | - | 1 |"} {
		refuses(t, head+s, api.ErrMany, 3)
		refuses(t, head+"rule - | - | 1\n"+s+"\nrule", api.ErrMany, 4)
	}
	for _, s := range []string{
		"rule | - | 1", "rule - || 1", "rule - | - |", "rule x | - | 1", "rule - | - | 1 +", "rule - | -| -", "rule - | b | 1", "rule 1 + 1 | - | 1", "rule < | - | 1", "rule - - | - | 1", "rule - | 1..2 | 1",
		"rule - | - | < 5", "rule - | - | 1, 2", "rule - | - | 1)", "rule ) | - | 1", "rule - | ( | - ) | 1", "rule # | - | 1", "rule - | - | #", "rule - | - | \"a\\x\"", "rule - | - | \xff", "rule \xff | - | 1", "rule - | - | a = b = 1",
	} {
		refuses(t, head+s, api.ErrForm, 3)
		refuses(t, head+"rule - | - | 1\n"+s+"\nrule", api.ErrForm, 4)
	}
}

func TestR2RulesTellTheFirstError(t *testing.T) {
	for s, want := range map[string]api.Errno{
		// What these pieces say by themselves.
		"rule 10000000000 | - | 1":                                               api.ErrRange,
		"rule - | 0.0000001 | 1":                                                 api.ErrRange,
		"rule < true | - | 1":                                                    api.ErrType,
		"rule - | - | for if in [1] return 1":                                    api.ErrName,
		"rule - | - | f(1,2,3,4,5,6,7,8,9)":                                      api.ErrMany,
		"rule - | - | " + strings.Repeat("-", 300) + "1":                         api.ErrMuch,
		"rule - | - | " + strings.Repeat("-", 100) + "1":                         api.ErrMuch,
		"rule - | - | \"" + strings.Repeat("a", 1001) + "\"":                     api.ErrMuch,
		"rule " + strings.TrimSuffix(strings.Repeat("1,", 21), ",") + " | - | 1": api.ErrMany,
		"rule - | \"" + strings.Repeat("a", 1001) + "\" | 1":                     api.ErrMuch,
		// The one that stands first is told.
		"rule 10000000000 | < | 1 +":                            api.ErrRange,
		"rule < | 10000000000 | 1 +":                            api.ErrForm,
		"rule - | 10000000000 | 1 +":                            api.ErrRange,
		"rule - | < | for if in [1] return 1":                   api.ErrForm,
		"rule < true | 10000000000 | for if in [1] return 1":    api.ErrType,
		"rule - | < true | for if in [1] return 1":              api.ErrType,
		"rule 10000000000 | < | 1 + | 1":                        api.ErrMany,
		"rule - | - | for if in [1] return f(1,2,3,4,5,6,7,8,9": api.ErrName,
	} {
		refuses(t, head+s, want, 3)
		refuses(t, head+s+"\n\nrule", want, 3)
		refuses(t, head+"rule - | - | 1\nrule 1 | \"x\" | a\n"+s, want, 5)
	}
	// The first expression's error, and the first line's.
	two := "table t first\nin a number\nout o number, p number\n"
	refuses(t, two+"rule - | for if in [1] return 1 | 1 +", api.ErrName, 3)
	refuses(t, two+"rule - | 1 + | for if in [1] return 1", api.ErrForm, 3)
	refuses(t, two+"rule - | 1 | 1 +\nrule 10000000000 | 1 | 1", api.ErrForm, 3)
	refuses(t, two+"rule 10000000000 | 1 | 1\nrule - | 1 | 1 +", api.ErrRange, 3)
}

// A piece's blanks are among the bytes that are read.
func TestR2LongPieces(t *testing.T) {
	blanks := func(n int) string { return strings.Repeat(" ", n) }
	fits, much := blanks(api.MaxSource-1), blanks(api.MaxSource)
	for _, s := range []string{"rule %s-| - | 1", "rule -%s| - | 1", "rule - |%s-| 1", "rule - |-%s| 1", "rule - | - |%s1", "rule - | - |1%s"} {
		reads(t, head+fmt.Sprintf(s, fits), first(rule("-", "-", "1")))
		refuses(t, head+fmt.Sprintf(s, much), api.ErrMuch, 3)
	}
	refuses(t, head+"rule "+much+"< | - | 1", api.ErrMuch, 3)
	refuses(t, head+"rule < |"+much+"-| 1", api.ErrForm, 3)
	// Those around columns are left out.
	reads(t, "table t first\nin "+much+"a number"+much+",b text\nout "+much+"o number", first())
	refuses(t, "table t priority\nin a number\nout o number (1"+fits+"), p number ("+much+"1)", api.ErrMuch, 2)
}

func TestR2WhatWrongSays(t *testing.T) {
	for s, want := range map[string]api.Errno{
		"table if first\nin a number\nout o number\n":                                              api.ErrName,
		"table t first\nin a number, a text\nout o number\n":                                       api.ErrName,
		"table t first\nin a number\nout o number, p text, o text\n":                               api.ErrName,
		"table t first\nin a number, b number, c number, d number\nout o number\n":                 api.ErrMany,
		"table t first\nin a number\nout o number, p number, q number, r number\n":                 api.ErrMany,
		"table t sum\nin a number\nout o text\n":                                                   api.ErrFit,
		"table t min\nin a number\nout o number, p number\n":                                       api.ErrFit,
		"table t count\nin a number\nout o number, p number\n":                                     api.ErrFit,
		head + strings.Repeat("rule - | - | 1\n", api.MaxRules+1):                                  api.ErrMany,
		head + "rule \"x\" | - | 1\n":                                                              api.ErrType,
		head + "rule - | 1 | 1\n":                                                                  api.ErrType,
		head + "rule - | - | \"x\"\n":                                                              api.ErrType,
		head + "rule - | - | b\n":                                                                  api.ErrType,
		head + "rule - | - | o\n":                                                                  api.ErrName,
		head + "rule - | - | f(a)\n":                                                               api.ErrName,
		head + "rule - | - | max(1, 2)\n":                                                          api.ErrMany,
		head + "rule - | - | a + b\n":                                                              api.ErrType,
		"table t first\nin a number, a number, a number, a number\nout o number\nrule -|-|-|-|1\n": api.ErrMany,
	} {
		refuses(t, s, want, 0)
		// What is wrong with a line, be it the last one, comes ahead of it.
		refuses(t, s+"rule", api.ErrForm, strings.Count(s, "\n"))
	}
	// Just as many as there may be.
	reads(t, head+strings.Repeat("rule - | - | 1\n", api.MaxRules), first(slices.Repeat([]api.Rule{rule("-", "-", "1")}, api.MaxRules)...))
}

func TestR3Print(t *testing.T) {
	x := first(rule("[1..2)", `not("a", < "b")`, "-(a + 1) * 2"), rule("< 5, 7", "-", "if b = \"|\" then 1 else max([a, 2])"))
	both(t, head+"rule [1..2) | not(\"a\", < \"b\") | -(a + 1) * 2\nrule < 5, 7 | - | if b = \"|\" then 1 else max([a, 2])\n", x)
	both(t, head, first())
	x = api.Table{
		Name:   "é1",
		Policy: api.PolPriority,
		Ins:    []api.Column{{Name: "a", Kind: api.TyNum}, {Name: "b", Kind: api.TyText}, {Name: "c", Kind: api.TyBool}},
		Outs:   []api.Column{{Name: "a", Kind: api.TyBool, Order: []api.Value{truth(false)}}, {Name: "p", Kind: api.TyText, Order: []api.Value{text("é|\"\n"), text("")}}, {Name: "q", Kind: api.TyNum, Order: []api.Value{num(-5, -6), num(1, 9), num(0, 0)}}},
		Rules:  []api.Rule{ruleOf(3, "-", "null", "true, false", "c", "b + \"\\n\"", "-a"), ruleOf(3, "null", `("a".."b")`, "not(true)", "true", "null", "0.5")},
	}
	both(t, strings.Join([]string{
		"table é1 priority",
		"in a number, b text, c boolean",
		`out a boolean (false), p text ("é|\"\n", ""), q number (-0.000005, 1000000000, 0)`,
		`rule - | null | true, false | c | b + "\n" | -a`,
		`rule null | ("a".."b") | not(true) | true | null | 0.5`,
		"",
	}, "\n"), x)
	// What is written more freely is written as it must be.
	got, _ := sheet.Read("table t first\nin  a number ,b text\nout o number \nrule <5,[ 7..9 ]|-|((a)) +1")
	prints(t, got, head+"rule < 5, [7..9] | - | a + 1\n")
}

func TestR3WhatWrongSays(t *testing.T) {
	keeps(t, api.Table{}, api.ErrName)
	keeps(t, api.Table{Name: "t"}, api.ErrKind)
	keeps(t, api.Table{Name: "t", Policy: 11}, api.ErrKind)
	keeps(t, api.Table{Name: "t", Policy: -1}, api.ErrKind)
	keeps(t, api.Table{Name: "t", Policy: api.PolFirst}, api.ErrMany)
	for i, c := range []struct {
		change func(x *api.Table)
		want   api.Errno
	}{
		{func(x *api.Table) { x.Name = "a b" }, api.ErrName},
		{func(x *api.Table) { x.Name = "a\nb" }, api.ErrName},
		{func(x *api.Table) { x.Ins = nil }, api.ErrMany},
		{func(x *api.Table) { x.Outs = nil }, api.ErrMany},
		{func(x *api.Table) { x.Ins[0].Name = "a," }, api.ErrName},
		{func(x *api.Table) { x.Ins[0].Kind = api.TyList }, api.ErrKind},
		{func(x *api.Table) { x.Outs[0].Kind = api.TyAny }, api.ErrKind},
		{func(x *api.Table) { x.Outs[0].Order = []api.Value{num(1, 0)} }, api.ErrMany},
		{func(x *api.Table) { x.Policy = api.PolPriority; x.Ins[0].Order = []api.Value{num(1, 0)} }, api.ErrMany},
		{func(x *api.Table) { x.Policy = api.PolPriority; x.Outs[0].Order = []api.Value{{Kind: api.VNull}} }, api.ErrType},
		{func(x *api.Table) { x.Policy = api.PolPriority; x.Outs[0].Order = []api.Value{{Kind: api.VList}} }, api.ErrType},
		{func(x *api.Table) { x.Policy = api.PolPriority; x.Outs[0].Order = []api.Value{{}} }, api.ErrKind},
		{func(x *api.Table) { x.Policy = api.PolPriority; x.Outs[0].Order = []api.Value{num(10, 0)} }, api.ErrForm},
		{func(x *api.Table) { x.Policy = api.PolPriority; x.Outs[0].Order = []api.Value{num(1, 41)} }, api.ErrRange},
		{func(x *api.Table) { x.Rules[0].Tests = x.Rules[0].Tests[:1] }, api.ErrMany},
		{func(x *api.Table) { x.Rules[0].Outs = nil }, api.ErrMany},
		{func(x *api.Table) { x.Rules[0].Tests[0].Kind = 0 }, api.ErrKind},
		{func(x *api.Table) { x.Rules[0].Tests[0] = is(num(1, 10)) }, api.ErrRange},
		{func(x *api.Table) { x.Rules[0].Tests[0] = is(text("a")) }, api.ErrType},
		{func(x *api.Table) { x.Rules[0].Outs[0] = lit(num(-1, 0)) }, api.ErrFit},
		{func(x *api.Table) { x.Rules[0].Outs[0] = lit(text("a")) }, api.ErrType},
		{func(x *api.Table) { x.Rules = slices.Repeat(x.Rules, 11) }, api.ErrMany},
	} {
		x := first(rule("-", "-", "1"))
		c.change(&x)
		if err := table.Wrong(x); err != c.want {
			t.Fatalf("%d: %d is wrong, not %d", i, err, c.want)
		}
		keeps(t, x, c.want)
	}
}

// deep is a test that Wrong takes, but that can't be written.
func deep() api.Test {
	return api.Test{Kind: api.TeOr, Kids: []api.Test{anything()}}
}

// sum is an expression of texts that has so many bytes when it is written.
func sum(size int) api.Expr {
	x := lit(text(""))
	for size -= 2; size > 0; {
		n := min(size-5, 900)
		if rest := size - 5 - n; 0 < rest && rest < 5 {
			n -= 5
		}
		x = api.Expr{Kind: api.XAdd, Kids: []api.Expr{x, lit(text(strings.Repeat("x", n)))}}
		size -= 5 + n
	}
	return x
}

// among is a test of texts that has so many bytes when it is written.
func among(size int) api.Test {
	te := either(text(""))
	for size -= 2; size > 0; {
		n := min(size-4, 900)
		if rest := size - 4 - n; 0 < rest && rest < 4 {
			n -= 4
		}
		te.Kids = append(te.Kids, is(text(strings.Repeat("x", n))))
		size -= 4 + n
	}
	return te
}

// wide is a table of two texts in, two out, and one rule.
func wide(a, b api.Test, c, d api.Expr) api.Table {
	return api.Table{
		Name:   "t",
		Policy: api.PolPriority,
		Ins:    []api.Column{{Name: "a", Kind: api.TyText}, {Name: "b", Kind: api.TyText}},
		Outs:   []api.Column{{Name: "c", Kind: api.TyText}, {Name: "d", Kind: api.TyText}},
		Rules:  []api.Rule{{Tests: []api.Test{a, b}, Outs: []api.Expr{c, d}}},
	}
}

func TestR3Orders(t *testing.T) {
	for _, v := range []api.Value{num(1, 20), num(1, 10), num(-1, 10), num(1000000001, 0), num(1, -7), num(-123456789, -7), num(1, -40), num(5, 40)} {
		x := ordered(v)
		x.Outs[0].Kind = api.TyNum
		keeps(t, x, api.ErrFit)
		x.Outs[0].Order = []api.Value{num(1, 0), v}
		keeps(t, x, api.ErrFit)
		x.Outs = append(slices.Repeat([]api.Column{{Name: "p", Kind: api.TyNum, Order: []api.Value{num(1, 0)}}}, 1), x.Outs...)
		keeps(t, x, api.ErrFit)
		// What Wrong says comes ahead of it, of rules too.
		x.Rules = []api.Rule{ruleOf(1, "-", "1", "b")}
		keeps(t, x, api.ErrName)
	}
	for _, v := range []api.Value{num(1, 9), num(-1, 9), num(999999999999999, -6), num(-1, -6), num(0, 0)} {
		x := ordered(v)
		x.Outs[0].Kind = api.TyNum
		got, err := sheet.Print(x)
		if err != api.OK {
			t.Errorf("%+v: %d comes", v, err)
		}
		reads(t, got, x)
	}
}

func TestR3TellsTheFirstError(t *testing.T) {
	one, free, long := lit(text("1")), anything(), sum(api.MaxSource+1)
	if _, err := syn.Print(long); err != api.ErrMuch {
		t.Fatal(err)
	}
	if _, err := trials.Print(among(api.MaxSource + 1)); err != api.ErrMuch {
		t.Fatal(err)
	}
	keeps(t, wide(deep(), free, one, one), api.ErrFit)
	keeps(t, wide(free, deep(), one, one), api.ErrFit)
	keeps(t, wide(free, api.Test{Kind: api.TeNot, Kids: []api.Test{{Kind: api.TeNot, Kids: []api.Test{is(text("a"))}}}}, one, one), api.ErrFit)
	keeps(t, wide(free, either(text("a")), one, one), api.ErrFit)
	keeps(t, wide(among(api.MaxSource+1), free, one, one), api.ErrMuch)
	keeps(t, wide(free, free, long, one), api.ErrMuch)
	keeps(t, wide(free, free, one, long), api.ErrMuch)
	// Tests from the first one on, then expressions.
	keeps(t, wide(deep(), among(api.MaxSource+1), one, one), api.ErrFit)
	keeps(t, wide(among(api.MaxSource+1), deep(), one, one), api.ErrMuch)
	keeps(t, wide(deep(), free, long, one), api.ErrFit)
	keeps(t, wide(free, deep(), one, long), api.ErrFit)
	// Rule by rule.
	x := wide(free, free, one, long)
	x.Rules = append(x.Rules, wide(deep(), free, one, one).Rules...)
	keeps(t, x, api.ErrMuch)
	slices.Reverse(x.Rules)
	keeps(t, x, api.ErrFit)
	x.Rules = slices.Insert(x.Rules, 0, wide(free, free, one, one).Rules...)
	keeps(t, x, api.ErrFit)
	// Orders come ahead of rules, and all of these ahead of too many bytes.
	x = wide(free, free, one, long)
	x.Outs[1].Kind, x.Outs[1].Order = api.TyNum, []api.Value{num(1, 20)}
	x.Rules[0].Outs[1] = lit(num(1, 0))
	x.Rules[0].Outs[0] = long
	keeps(t, x, api.ErrFit)
	x.Outs[1].Order = nil
	keeps(t, x, api.ErrMuch)
	x = full(4*api.MaxSource + 1)
	x.Rules[9].Tests[0] = deep()
	keeps(t, x, api.ErrFit)
}

// full is a table whose text has so many bytes.
func full(size int) api.Table {
	x := wide(anything(), anything(), lit(text("")), lit(text("")))
	x.Rules = slices.Repeat(x.Rules, api.MaxRules)
	size -= len("table t priority\nin a text, b text\nout c text, d text\n") + api.MaxRules*len("rule - | - | \"\" | \"\"\n")
	for i := range x.Rules {
		x.Rules[i].Outs = slices.Clone(x.Rules[i].Outs)
		x.Rules[i].Tests = slices.Clone(x.Rules[i].Tests)
		for j := range 2 {
			n := min(size, 900)
			x.Rules[i].Outs[j] = lit(text(strings.Repeat("y", n)))
			size -= n
		}
	}
	if size > 0 {
		panic(size)
	}
	return x
}

func TestR3Much(t *testing.T) {
	for _, size := range []int{1000, 4*api.MaxSource - 1, 4 * api.MaxSource} {
		x := full(size)
		got, err := sheet.Print(x)
		if err != api.OK || len(got) != size {
			t.Errorf("%d bytes, %d comes, not %d", len(got), err, size)
		}
		reads(t, got, x)
	}
	for _, size := range []int{4*api.MaxSource + 1, 4*api.MaxSource + 2, 17000} {
		keeps(t, full(size), api.ErrMuch)
	}
	keeps(t, ordered(slices.Repeat([]api.Value{text(strings.Repeat("\"", 1000))}, 20)...), api.ErrMuch)
}

// orderedBy is a table one of whose orders has so many bytes when it is written.
func orderedBy(size int) api.Table {
	x := wide(anything(), anything(), lit(text("1")), lit(text("1")))
	for _, kid := range among(size).Kids {
		x.Outs[1].Order = append(x.Outs[1].Order, kid.A)
	}
	return x
}

// A piece is written with blanks around it, which Read counts, so the last bytes that Print of chapters 4 and 8 writes are more than these read with them.
func TestR3LongPieces(t *testing.T) {
	one, free := lit(text("1")), anything()
	for _, c := range []struct {
		blanks int // that are read with the piece
		make   func(size int) api.Table
	}{
		{1, func(size int) api.Table { return wide(among(size), free, one, one) }},
		{2, func(size int) api.Table { return wide(free, among(size), one, one) }},
		{2, func(size int) api.Table { return wide(free, free, sum(size), one) }},
		{1, func(size int) api.Table { return wide(free, free, one, sum(size)) }},
	} {
		for _, size := range []int{3000, api.MaxSource - c.blanks - 1, api.MaxSource - c.blanks} {
			writes(t, c.make(size), size, api.Fault{})
		}
		for size := api.MaxSource - c.blanks + 1; size <= api.MaxSource; size++ {
			writes(t, c.make(size), size, api.Fault{Err: api.ErrMuch, At: 3})
		}
		for _, size := range []int{api.MaxSource + 1, api.MaxSource + 2, api.MaxSource + 100} {
			keeps(t, c.make(size), api.ErrMuch)
		}
	}
}

// An order has no bound of its own when it is written, only when it is read as a test.
func TestR3LongOrders(t *testing.T) {
	for _, size := range []int{3000, api.MaxSource - 1, api.MaxSource} {
		writes(t, orderedBy(size), size, api.Fault{})
	}
	empty, _ := sheet.Print(orderedBy(2))
	most := 4*api.MaxSource - (len(empty) - 2)
	for _, size := range []int{api.MaxSource + 1, api.MaxSource + 2, 10000, most - 1, most} {
		writes(t, orderedBy(size), size, api.Fault{Err: api.ErrMuch, At: 2})
	}
	keeps(t, orderedBy(most+1), api.ErrMuch)
	keeps(t, orderedBy(most+2), api.ErrMuch)
}

// writes asks that x is written, by as many bytes at least, and what Read says of them: if nothing, it is x.
func writes(t *testing.T, x api.Table, size int, want api.Fault) {
	t.Helper()
	got, err := sheet.Print(x)
	if err != api.OK || len(got) < size || len(got) > 4*api.MaxSource {
		t.Errorf("%d bytes, %d comes", len(got), err)
		return
	}
	if want.Err != api.OK {
		refuses(t, got, want.Err, want.At)
		return
	}
	reads(t, got, x)
}

// Fields that a kind has not mean nothing, and are not written.
func TestR3FieldsThatMeanNothing(t *testing.T) {
	junk := api.Value{Kind: 77, Yes: true, Text: "\xff", List: make([]api.Value, 3), Num: api.Dec{Coef: 10}}
	x := first(api.Rule{
		Tests: []api.Test{
			{Kind: api.TeAny, A: junk, B: junk, OpenA: true, Kids: []api.Test{{}}},
			{Kind: api.TeIs, A: api.Value{Kind: api.VText, Text: "a", Num: api.Dec{Coef: 10}, List: make([]api.Value, 1)}, B: junk, OpenB: true, Kids: []api.Test{{}}},
		},
		Outs: []api.Expr{{Kind: api.XLit, Name: "if", Val: api.Value{Kind: api.VNum, Num: api.Dec{Coef: 7}, Text: "\xff"}}},
	})
	prints(t, x, head+"rule - | \"a\" | 7\n")
	y := ordered(api.Value{Kind: api.VText, Text: "a", Num: api.Dec{Coef: 10}, Yes: true, List: []api.Value{{}}})
	prints(t, y, "table t priority\nin a number\nout o text (\"a\")\n")
}

func TestR2R3NilAndEmpty(t *testing.T) {
	x := first(api.Rule{Tests: []api.Test{{Kind: api.TeAny, Kids: []api.Test{}}, {Kind: api.TeAny}}, Outs: []api.Expr{{Kind: api.XList, Kids: []api.Expr{}}}})
	x.Rules[0].Outs[0] = api.Expr{Kind: api.XCall, Name: "count", Kids: []api.Expr{{Kind: api.XList, Kids: []api.Expr{}}}}
	x.Ins[0].Order, x.Outs[0].Order = []api.Value{}, []api.Value{}
	prints(t, x, head+"rule - | - | count([])\n")
	x.Rules = []api.Rule{}
	prints(t, x, head)
}

// litter writes over all lists of x, and the room behind them.
func litter(x reflect.Value) {
	switch x.Kind() {
	case reflect.Struct:
		for i := range x.NumField() {
			litter(x.Field(i))
		}
	case reflect.Slice:
		all := x.Slice3(0, x.Cap(), x.Cap())
		for i := range all.Len() {
			litter(all.Index(i))
			all.Index(i).SetZero()
		}
	}
}

// places tells how often each place of a list, or of the room behind it, is there, and which texts there are.
func places(x reflect.Value, times map[uintptr]int, texts *[]string) {
	switch x.Kind() {
	case reflect.String:
		*texts = append(*texts, x.String())
	case reflect.Struct:
		for i := range x.NumField() {
			places(x.Field(i), times, texts)
		}
	case reflect.Slice:
		for i := range x.Cap() {
			times[x.Slice(0, x.Cap()).Index(i).Addr().Pointer()]++
		}
		for i := range x.Len() {
			places(x.Index(i), times, texts)
		}
	}
}

const much = "table tt priority\nin aa number, bb text\nout oo text (\"xx\", \"yy\", \"xx\"), pp number (3, 1)\nrule < 5, 7, [8..9) | not(\"aa\", \"bb\") | upper(bb) + \"zz\" | sum(for xx in [aa, 1] return -xx)\nrule - | \"aa\" | \"xx\" | aa\n"

func TestR2AnswersAreNewMemory(t *testing.T) {
	given := strings.Clone(much)
	from := uintptr(unsafe.Pointer(unsafe.StringData(given)))
	x, fault := sheet.Read(given)
	y, _ := sheet.Read(given)
	if fault != (api.Fault{}) {
		t.Fatal(fault)
	}
	times, texts := map[uintptr]int{}, []string{}
	places(reflect.ValueOf(&x).Elem(), times, &texts)
	places(reflect.ValueOf(&y).Elem(), times, &texts)
	for at, n := range times {
		if n > 1 {
			t.Errorf("%x is there %d times", at, n)
		}
	}
	for _, s := range texts {
		if at := uintptr(unsafe.Pointer(unsafe.StringData(s))); s != "" && from <= at && at < from+uintptr(len(given)) {
			t.Errorf("%q is a part of what was handed in", s)
		}
	}
	litter(reflect.ValueOf(&x).Elem())
	prints(t, y, much)
	z, _ := sheet.Read(given)
	prints(t, z, much)
}

// spare gives all lists of x room behind them, in which something stands.
func spare(x reflect.Value) {
	switch x.Kind() {
	case reflect.Struct:
		for i := range x.NumField() {
			spare(x.Field(i))
		}
	case reflect.Slice:
		n := x.Len()
		if n == 0 {
			return
		}
		more := reflect.AppendSlice(reflect.MakeSlice(x.Type(), 0, 2*n+3), x)
		more = reflect.AppendSlice(more, x.Slice(0, n))
		x.Set(more.Slice(0, n))
		for i := range n {
			spare(x.Index(i))
		}
	}
}

func TestR3OnlyRead(t *testing.T) {
	x, _ := sheet.Read(much)
	spare(reflect.ValueOf(&x).Elem())
	before := fmt.Sprintf("%#v", x) + behind(x)
	prints(t, x, much)
	if after := fmt.Sprintf("%#v", x) + behind(x); after != before {
		t.Errorf("%s is left, not %s", after, before)
	}
}

// behind tells what stands in the room behind some lists.
func behind(x api.Table) string {
	return fmt.Sprintf("%#v", []any{x.Ins[:cap(x.Ins)], x.Outs[:cap(x.Outs)], x.Rules[:cap(x.Rules)], x.Rules[0].Tests[:cap(x.Rules[0].Tests)], x.Rules[0].Outs[:cap(x.Rules[0].Outs)], x.Outs[0].Order[:cap(x.Outs[0].Order)]})
}

// Tables that hold themselves, or whose lists are the same list many times.
func TestR3Endless(t *testing.T) {
	for _, many := range []int{1, 2, 20} {
		tests, exprs, values := make([]api.Test, many), make([]api.Expr, many), make([]api.Value, many)
		for i := range many {
			tests[i] = api.Test{Kind: api.TeNot, Kids: tests}
			exprs[i] = api.Expr{Kind: api.XList, Kids: exprs}
			values[i] = api.Value{Kind: api.VList, List: values}
		}
		x := first(rule("-", "-", "1"))
		x.Rules[0].Tests[0] = tests[0]
		keeps(t, x, api.ErrMuch)
		x = first(rule("-", "-", "1"))
		x.Rules[0].Outs[0] = exprs[0]
		keeps(t, x, api.ErrMuch)
		x = ordered(values...)
		keeps(t, x, api.ErrMuch)
	}
}

func TestR2R3AtOnce(t *testing.T) {
	x, _ := sheet.Read(much)
	var wait sync.WaitGroup
	for range 8 {
		wait.Go(func() {
			for range 50 {
				both(t, much, x)
				refuses(t, much+"rule", api.ErrForm, 5)
			}
		})
	}
	wait.Wait()
}
