package trials_test

import (
	"fmt"
	"iter"
	"math/big"
	"math/rand"
	"reflect"
	"regexp"
	"strings"
	"testing"

	"verdict/api"
	"verdict/lex"
	"verdict/logic"
	"verdict/trials"
)

// The chapter's form of tests once more, as a pattern over letters, one for each token: n a number, t a text, w null, true or false, N `not` with its bracket, o a sign, . the two points, x what stands nowhere; all else stands for itself.
const (
	valuePattern = `(?:-?n|t|w)`
	testPattern  = `(?:o?` + valuePattern + `|[[(]` + valuePattern + `\.` + valuePattern + `[\])])`
	listPattern  = testPattern + `(?:,` + testPattern + `)*`
)

var wholePattern = regexp.MustCompile(`^(?:-|N` + listPattern + `\)|` + listPattern + `)$`)

// rests end what has begun, each from another place on.
var rests = []string{"", "n", ".n]", "n.n]", "]", "n]"}

// lettered is a letter for each token; `not` and its bracket have one.
func lettered(tokens []api.Token) (letters string, at []int) {
	for i := 0; i < len(tokens); i++ {
		token := tokens[i]
		letter := "x"
		switch {
		case token.Kind == api.TNum:
			letter = "n"
		case token.Kind == api.TText:
			letter = "t"
		case token.Kind == api.TWord && strings.Contains(" null true false ", " "+token.Text+" "):
			letter = "w"
		case token.Kind == api.TWord && token.Text == "not" && i == 0 && len(tokens) > 1 && tokens[1].Kind == api.TSign && tokens[1].Text == "(":
			letter = "N"
			i++
		case token.Kind == api.TSign && strings.Contains(" < <= > >= ", " "+token.Text+" "):
			letter = "o"
		case token.Kind == api.TSign && token.Text == "..":
			letter = "."
		case token.Kind == api.TSign && strings.Contains("-[](),", token.Text):
			letter = token.Text
		}
		letters += letter
		at = append(at, token.At)
	}
	return letters, at
}

// goesOn tells whether something that begins so is a test; what was asked once is kept.
func goesOn(letters string) bool {
	goes, ok := asked[letters]
	if ok {
		return goes
	}
	for _, rest := range rests {
		goes = goes || wholePattern.MatchString(letters+rest) || wholePattern.MatchString(letters+rest+")")
	}
	asked[letters] = goes
	return goes
}

var asked = map[string]bool{}

// faultOf is what is wrong with the form of a text whose tokens are these.
func faultOf(tokens []api.Token, end int) api.Fault {
	letters, at := lettered(tokens)
	at = append(at, end)
	stuck := 0
	for stuck < len(letters) && goesOn(letters[:stuck+1]) {
		stuck++
	}
	commas := 0
	for i, letter := range letters[:stuck] {
		if commas == api.MaxTests {
			return api.Fault{Err: api.ErrMany, At: at[i]}
		}
		if letter == ',' {
			commas++
		}
	}
	if stuck < len(letters) || !wholePattern.MatchString(letters) {
		return api.Fault{Err: api.ErrForm, At: at[stuck]}
	}
	return api.Fault{}
}

// testOf makes the test of a text whose form is right, piece by piece.
func testOf(tokens []api.Token) api.Test {
	letters, _ := lettered(tokens)
	if letters == "-" {
		return api.Test{Kind: api.TeAny}
	}
	negated := letters[0] == 'N'
	if negated {
		tokens = tokens[2 : len(tokens)-1]
	}
	var kids []api.Test
	var piece []api.Token
	for _, token := range tokens {
		if token.Kind == api.TSign && token.Text == "," {
			kids = append(kids, pieceOf(piece))
			piece = nil
			continue
		}
		piece = append(piece, token)
	}
	kids = append(kids, pieceOf(piece))
	if negated {
		return not(kids...)
	}
	if len(kids) > 1 {
		return or(kids...)
	}
	return kids[0]
}

func pieceOf(tokens []api.Token) api.Test {
	var values []api.Value
	signs := ""
	for _, token := range tokens {
		switch token.Kind {
		case api.TNum:
			v := api.Value{Kind: api.VNum, Num: token.Num}
			if strings.HasSuffix(signs, "-") {
				v.Num.Coef *= -1
			}
			values = append(values, v)
		case api.TText:
			values = append(values, text(token.Text))
		case api.TWord:
			values = append(values, map[string]api.Value{"null": null, "true": yes, "false": no}[token.Text])
		default:
			signs += token.Text
		}
	}
	signs = strings.ReplaceAll(signs, "-", "")
	switch signs {
	case "":
		return test(api.TeIs, values[0])
	case "<":
		return test(api.TeLt, values[0])
	case "<=":
		return test(api.TeLe, values[0])
	case ">":
		return test(api.TeGt, values[0])
	case ">=":
		return test(api.TeGe, values[0])
	}
	return span(values[0], values[1], signs[0] == '(', signs[len(signs)-1] == ')')
}

// errnos are all that is wrong with t, in the chapter's order.
func errnos(t api.Test, deep int) iter.Seq[api.Errno] {
	return func(yield func(api.Errno) bool) {
		told := func(err api.Errno, holds bool) bool { return !holds || yield(err) }
		lists := t.Kind == api.TeOr || t.Kind == api.TeNot
		if !told(api.ErrMuch, deep > 4) || !told(api.ErrKind, t.Kind < 1 || t.Kind > 9) {
			return
		}
		if !told(api.ErrMany, lists && (len(t.Kids) == 0 || len(t.Kids) > 20)) {
			return
		}
		if lists {
			for _, kid := range t.Kids {
				for err := range errnos(kid, deep+1) {
					if !yield(err) {
						return
					}
				}
			}
		}
		if t.Kind < api.TeIs || t.Kind > api.TeIn {
			return
		}
		values := []api.Value{t.A, t.B}[:1+t.Kind/api.TeIn]
		for _, v := range values {
			if err := logic.Wrong(v); !told(err, err != api.OK) || !told(api.ErrFit, v.Kind == api.VList) || !told(api.ErrRange, v.Kind == api.VNum && isFar(v.Num)) {
				return
			}
		}
		kinds := fmt.Sprint(values[0].Kind, values[len(values)-1].Kind)
		told(api.ErrType, t.Kind != api.TeIs && kinds != "3 3" && kinds != "4 4")
	}
}

func rational(d api.Dec) *big.Rat {
	r, _ := new(big.Rat).SetString(fmt.Sprintf("%de%d", d.Coef, d.Exp))
	return r
}

func isFar(d api.Dec) bool {
	return d.Exp < -6 || new(big.Rat).Abs(rational(d)).Cmp(big.NewRat(1000000000, 1)) > 0
}

// known is what a test says: 0 that it is false, 2 that it is true, 1 neither.
func known(t api.Test, v api.Value) int {
	switch t.Kind {
	case api.TeAny:
		return 2
	case api.TeOr, api.TeNot:
		most := 0
		for _, kid := range t.Kids {
			most = max(most, known(kid, v))
		}
		if t.Kind == api.TeNot {
			return 2 - most
		}
		return most
	case api.TeIs:
		if v.Kind != t.A.Kind {
			if v.Kind == api.VNull || t.A.Kind == api.VNull {
				return 0
			}
			return 1
		}
		if reflect.DeepEqual(v, t.A) {
			return 2
		}
		return 0
	}
	if v.Kind != t.A.Kind {
		return 1
	}
	holds := map[int]bool{
		api.TeLt: order(v, t.A) < 0,
		api.TeLe: order(v, t.A) <= 0,
		api.TeGt: order(v, t.A) > 0,
		api.TeGe: order(v, t.A) >= 0,
	}[t.Kind]
	if t.Kind == api.TeIn {
		a, b := order(v, t.A), order(v, t.B)
		holds = (a > 0 || a == 0 && !t.OpenA) && (b < 0 || b == 0 && !t.OpenB)
	}
	if holds {
		return 2
	}
	return 0
}

// order is below 0 if a is less than b, and above if it is more; both are numbers, or texts.
func order(a, b api.Value) int {
	if a.Kind == api.VNum {
		return rational(a.Num).Cmp(rational(b.Num))
	}
	return strings.Compare(a.Text, b.Text)
}

// dice makes things up, the same ones each time.
type dice struct {
	*rand.Rand
}

func (d dice) value() api.Value {
	values := []api.Value{null, yes, no, num(0, 0), one, two, five, num(-5, 0), num(25, -1), num(1, -6), num(1, 9), num(-1, 9), text(""), text("a"), text("b\"\\\n"), text("é")}
	return values[d.Intn(len(values))]
}

// oddValue may be one that no test may have.
func (d dice) oddValue() api.Value {
	if d.Intn(4) > 0 {
		return d.value()
	}
	odd := wrongValues()
	return odd[d.Intn(len(odd))].v
}

// test is often right, but may be wrong in any way.
func (d dice) test(deep int) api.Test {
	t := api.Test{Kind: api.TeAny + d.Intn(9), A: d.value(), B: d.value(), OpenA: d.Intn(2) == 0, OpenB: d.Intn(2) == 0}
	if d.Intn(2) == 0 {
		t.A, t.B = num(int64(d.Intn(9)), 0), num(int64(d.Intn(9)), 0)
	}
	if d.Intn(20) == 0 {
		t.A = d.oddValue()
	}
	if d.Intn(20) == 0 {
		t.B = d.oddValue()
	}
	if d.Intn(40) == 0 {
		t.Kind = d.Intn(13) - 1
	}
	kids := d.Intn(4)
	if d.Intn(60) == 0 {
		kids = 19 + d.Intn(3)
	}
	if deep > 0 {
		for range kids {
			t.Kids = append(t.Kids, d.test(deep-1))
		}
	}
	return t
}

func TestH1H2AgainstTheChapter(t *testing.T) {
	d := dice{rand.New(rand.NewSource(8))}
	right := 0
	for range 40000 {
		x := d.test(d.Intn(6))
		want := api.OK
		for err := range errnos(x, 1) {
			want = err
			break
		}
		if got := trials.Wrong(x); got != want {
			t.Fatalf("%s: %d comes, not %d", brief(x), got, want)
		}
		if want != api.OK {
			continue
		}
		right++
		for _, v := range []api.Value{d.value(), d.value(), num(int64(d.Intn(9)), 0), list(d.value())} {
			got, err := trials.Does(x, v)
			if err != api.OK || !reflect.DeepEqual(got, []api.Value{no, null, yes}[known(x, v)]) {
				t.Fatalf("%s of %s: %s, %d comes", brief(x), brief(v), brief(got), err)
			}
		}
	}
	if right < 10000 {
		t.Errorf("only %d were right", right)
	}
}

// A test that fits a type says something else than that it is not known, of all values of that type but null.
func TestH2WhatFitsIsKnown(t *testing.T) {
	d := dice{rand.New(rand.NewSource(9))}
	values := map[int][]api.Value{
		api.TyBool: {yes, no},
		api.TyNum:  {num(0, 0), num(-1, 40), five, num(25, -1)},
		api.TyText: {text(""), text("a"), text("zz")},
	}
	for range 20000 {
		x := d.test(d.Intn(4))
		if trials.Wrong(x) != api.OK {
			continue
		}
		for typ, l := range values {
			sure := true
			for _, v := range l {
				sure = sure && isSure(x, v)
			}
			if got := trials.Fits(x, api.Type{Kind: typ}); got != sure {
				t.Fatalf("%s, %d: %v comes", brief(x), typ, got)
			}
		}
	}
}

// isSure tells whether each single test within x says something of v.
func isSure(x api.Test, v api.Value) bool {
	if x.Kind == api.TeOr || x.Kind == api.TeNot {
		for _, kid := range x.Kids {
			if !isSure(kid, v) {
				return false
			}
		}
		return true
	}
	got, err := trials.Does(x, v)
	return err == api.OK && got.Kind == api.VBool
}

// readsAsTheChapterSays holds Read against the pattern.
func readsAsTheChapterSays(t *testing.T, s string) {
	t.Helper()
	tokens, want := lex.Tokens(s)
	x := api.Test{}
	if want.Err == api.OK {
		want = faultOf(tokens, len(s))
	}
	if want.Err == api.OK {
		x = testOf(tokens)
		for err := range errnos(x, 1) {
			x, want = api.Test{}, api.Fault{Err: err}
			break
		}
	}
	if got, fault := trials.Read(s); fault != want || !reflect.DeepEqual(got, x) {
		t.Fatalf("%q: %s, %+v comes, not %s, %+v", s, brief(got), fault, brief(x), want)
	}
}

var words = []string{"1", "2.5", "\"a\"", "null", "not", "x", "<", ">=", "=", "-", "..", "(", ")", "[", "]", ","}

func TestH3AllShortRows(t *testing.T) {
	rows := []string{""}
	for range 4 {
		var longer []string
		for _, row := range rows {
			for _, word := range words {
				readsAsTheChapterSays(t, row+word)
				longer = append(longer, row+word+" ")
			}
		}
		rows = longer
	}
}

func (d dice) valueText() string {
	return []string{"1", "2.5", "-1", "- 0.5", "\"a\"", "\"not(\"", "null", "true", "false", "1000000001", "0.0000001"}[d.Intn(11)]
}

func (d dice) testText() string {
	switch d.Intn(4) {
	case 0:
		return []string{"<", "<=", ">", ">= "}[d.Intn(4)] + d.valueText()
	case 1:
		return "[("[d.Intn(2):][:1] + d.valueText() + ".." + d.valueText() + "])"[d.Intn(2):][:1]
	}
	return d.valueText()
}

func (d dice) text() string {
	n := 1 + d.Intn(4)
	if d.Intn(4) == 0 {
		n = api.MaxTests - 1 + d.Intn(4)
	}
	var tests []string
	for range n {
		tests = append(tests, d.testText())
	}
	s := strings.Join(tests, []string{",", ", ", "\n,\t"}[d.Intn(3)])
	if d.Intn(3) == 0 {
		return "not(" + s + ")"
	}
	return s
}

// broken is a text with a token set in, or with a piece taken out.
func (d dice) broken(s string) string {
	at := d.Intn(len(s) + 1)
	if d.Intn(2) == 0 {
		return s[:at] + words[d.Intn(len(words))] + s[at:]
	}
	return s[:at] + s[min(len(s), at+1+d.Intn(3)):]
}

func TestH3AgainstTheChapter(t *testing.T) {
	d := dice{rand.New(rand.NewSource(10))}
	for range 8000 {
		s := d.text()
		readsAsTheChapterSays(t, s)
		readsAsTheChapterSays(t, d.broken(s))
	}
}

func valueWritten(v api.Value) string {
	switch v.Kind {
	case api.VNum:
		s := rational(v.Num).FloatString(6)
		return strings.TrimSuffix(strings.TrimRight(s, "0"), ".")
	case api.VText:
		return `"` + strings.NewReplacer("\\", `\\`, `"`, `\"`, "\n", `\n`).Replace(v.Text) + `"`
	case api.VBool:
		return fmt.Sprint(v.Yes)
	}
	return "null"
}

// signsOf are how tests of one value are written, from TeIs on.
var signsOf = []string{"", "< ", "<= ", "> ", ">= "}

func testWritten(x api.Test) string {
	switch x.Kind {
	case api.TeAny:
		return "-"
	case api.TeIn:
		brackets := map[[2]bool]string{{false, false}: "[%s..%s]", {false, true}: "[%s..%s)", {true, false}: "(%s..%s]", {true, true}: "(%s..%s)"}
		return fmt.Sprintf(brackets[[2]bool{x.OpenA, x.OpenB}], valueWritten(x.A), valueWritten(x.B))
	case api.TeOr, api.TeNot:
		out := ""
		for _, kid := range x.Kids {
			out += ", " + testWritten(kid)
		}
		return map[int]string{api.TeOr: out[2:], api.TeNot: "not(" + out[2:] + ")"}[x.Kind]
	}
	return signsOf[x.Kind-api.TeIs] + valueWritten(x.A)
}

// told is x with all fields that its kind has not empty, as Read tells it.
func told(x api.Test) api.Test {
	switch x.Kind {
	case api.TeAny:
		return anything
	case api.TeIn:
		return span(x.A, x.B, x.OpenA, x.OpenB)
	case api.TeOr, api.TeNot:
		var kids []api.Test
		for _, kid := range x.Kids {
			kids = append(kids, told(kid))
		}
		return api.Test{Kind: x.Kind, Kids: kids}
	}
	return test(x.Kind, x.A)
}

func TestH4AgainstTheChapter(t *testing.T) {
	d := dice{rand.New(rand.NewSource(11))}
	written := 0
	for range 40000 {
		x := d.test(d.Intn(3))
		if trials.Wrong(x) != api.OK {
			continue
		}
		want := api.OK
		if x.Kind == api.TeOr || x.Kind == api.TeNot {
			for _, kid := range x.Kids {
				if kid.Kind == api.TeAny || kid.Kind > api.TeIn {
					want = api.ErrFit
				}
			}
			if x.Kind == api.TeOr && len(x.Kids) == 1 {
				want = api.ErrFit
			}
		}
		got, err := trials.Print(x)
		if err != want {
			t.Fatalf("%s: %d comes, not %d", brief(x), err, want)
		}
		if err != api.OK {
			continue
		}
		written++
		if got != testWritten(x) {
			t.Fatalf("%q comes, not %q", got, testWritten(x))
		}
		reads(t, got, told(x))
	}
	if written < 10000 {
		t.Errorf("only %d were written", written)
	}
}
