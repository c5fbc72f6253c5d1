package syn_test

import (
	"iter"
	"math/rand"
	"slices"
	"strings"
	"testing"

	"verdict/api"
	"verdict/lex"
	"verdict/syn"
)

// The chapter's grammar once more: each rule is what stands ahead, and of what it is made. NAME, NUM and TEXT stand for tokens of that kind, OR and AND for the words, since these are rules, too; all else that is no rule stands for itself.
const grammar = `
E : if E then E else E
E : for NAME in E return E
E : some NAME in E satisfies E
E : every NAME in E satisfies E
E : or
or : and
or : or OR and
and : cmp
and : and AND cmp
cmp : sum
cmp : sum = sum
cmp : sum != sum
cmp : sum < sum
cmp : sum <= sum
cmp : sum > sum
cmp : sum >= sum
cmp : sum in sum
sum : mul
sum : sum + mul
sum : sum - mul
mul : neg
mul : mul * neg
mul : mul / neg
neg : piece
neg : - neg
piece : NUM
piece : TEXT
piece : null
piece : true
piece : false
piece : ( E )
piece : [ ]
piece : [ many ]
piece : NAME
piece : NAME ( )
piece : NAME ( many )
many : E
many : many , E
`

var kindOf = map[string]int{"OR": api.XOr, "AND": api.XAnd, "=": api.XEq, "!=": api.XNe, "<": api.XLt, "<=": api.XLe, ">": api.XGt, ">=": api.XGe, "in": api.XIn, "+": api.XAdd, "-": api.XSub, "*": api.XMul, "/": api.XDiv}

type rule struct {
	head string
	body []string
}

// state is a rule of which so much is there, from that token on.
type state struct {
	rule, dot, from int
}

type earley struct {
	rules []rule
	heads map[string]bool
}

func newEarley() *earley {
	e := &earley{heads: map[string]bool{}}
	for line := range strings.SplitSeq(strings.TrimSpace(grammar), "\n") {
		head, body, _ := strings.Cut(line, " : ")
		e.rules = append(e.rules, rule{head, strings.Fields(body)})
		e.heads[head] = true
	}
	return e
}

// is tells whether a token may stand for a part of a rule.
func (e *earley) is(t api.Token, part string) bool {
	switch part {
	case "NAME":
		return t.Kind == api.TWord && len(t.Text) <= 40 && !slices.Contains(taken(), t.Text)
	case "NUM":
		return t.Kind == api.TNum
	case "TEXT":
		return t.Kind == api.TText
	case "OR", "AND":
		part = strings.ToLower(part)
	}
	return (t.Kind == api.TWord || t.Kind == api.TSign) && t.Text == part
}

// parse goes from token to token with all rules that may be under way, and tells where none goes on. It answers how many tokens go on, whether a name might have stood there, and whether they are an expression.
func (e *earley) parse(tokens []api.Token) (good int, name, done bool) {
	sets := [][]state{e.closed(nil, nil, "E", 0)}
	for i := 0; ; i++ {
		name, done = false, false
		var next []state
		for _, s := range sets[i] {
			body := e.rules[s.rule].body
			if s.dot == len(body) {
				done = done || s.from == 0 && e.rules[s.rule].head == "E"
				continue
			}
			name = name || body[s.dot] == "NAME"
			if i < len(tokens) && !e.heads[body[s.dot]] && e.is(tokens[i], body[s.dot]) {
				next = append(next, state{s.rule, s.dot + 1, s.from})
			}
		}
		if i == len(tokens) || len(next) == 0 {
			return i, name, done
		}
		sets = append(sets, e.closed(next, sets, "", i+1))
	}
}

// closed adds what is asked for by what is there, and what is ended by it.
func (e *earley) closed(set []state, sets [][]state, start string, at int) []state {
	seen := map[state]bool{}
	for _, s := range set {
		seen[s] = true
	}
	add := func(s state) {
		if !seen[s] {
			seen[s] = true
			set = append(set, s)
		}
	}
	ask := func(head string) {
		for i, r := range e.rules {
			if r.head == head {
				add(state{i, 0, at})
			}
		}
	}
	ask(start)
	for i := 0; i < len(set); i++ {
		s := set[i]
		body := e.rules[s.rule].body
		if s.dot < len(body) {
			if e.heads[body[s.dot]] {
				ask(body[s.dot])
			}
			continue
		}
		// No rule is made of nothing, so what is ended began earlier.
		for _, up := range sets[s.from] {
			if b := e.rules[up.rule].body; up.dot < len(b) && b[up.dot] == e.rules[s.rule].head {
				add(state{up.rule, up.dot + 1, up.from})
			}
		}
	}
	return set
}

// splitter makes expressions of tokens: it tries all rules, and wherever their parts may end.
type splitter struct {
	*earley
	tokens []api.Token
	known  map[span][]api.Expr
}

type span struct {
	head string
	i, j int
}

// tree answers what head is from i to j (of many: all of them); nil, if it is not there.
func (s *splitter) tree(head string, i, j int) []api.Expr {
	at := span{head, i, j}
	if found, ok := s.known[at]; ok {
		return found
	}
	s.known[at] = nil
	for _, r := range s.rules {
		if r.head != head {
			continue
		}
		if parts, ok := s.parts(r.body, i, j); ok {
			s.known[at] = s.made(r, i, parts)
			break
		}
	}
	return s.known[at]
}

// parts are the expressions in a rule's body.
func (s *splitter) parts(body []string, i, j int) ([][]api.Expr, bool) {
	if len(body) == 0 {
		return nil, i == j
	}
	if i >= j {
		return nil, false
	}
	if !s.heads[body[0]] {
		if !s.is(s.tokens[i], body[0]) {
			return nil, false
		}
		return s.parts(body[1:], i+1, j)
	}
	// A rule that begins with itself would never end, if it took all.
	for k := j - len(body) + 1; k > i; k-- {
		rest, ok := s.parts(body[1:], k, j)
		if !ok {
			continue
		}
		if first := s.tree(body[0], i, k); first != nil {
			return append([][]api.Expr{first}, rest...), true
		}
	}
	return nil, false
}

func (s *splitter) made(r rule, i int, parts [][]api.Expr) []api.Expr {
	t := s.tokens[i]
	kids := []api.Expr{}
	for _, p := range parts {
		kids = append(kids, p...)
	}
	one := func(x api.Expr) []api.Expr { return []api.Expr{x} }
	switch {
	case r.head == "many":
		return kids
	case len(r.body) == 1 && s.heads[r.body[0]], r.body[0] == "(":
		return kids
	case r.body[0] == "if":
		return one(node(api.XIf, kids...))
	case r.body[0] == "for":
		return one(loop(api.XFor, s.tokens[i+1].Text, kids[0], kids[1]))
	case r.body[0] == "some":
		return one(loop(api.XSome, s.tokens[i+1].Text, kids[0], kids[1]))
	case r.body[0] == "every":
		return one(loop(api.XEvery, s.tokens[i+1].Text, kids[0], kids[1]))
	case r.body[0] == "-":
		return one(neg(kids[0]))
	case r.body[0] == "[":
		return one(list(kids...))
	case r.body[0] == "NUM":
		return one(num(t.Num.Coef, t.Num.Exp))
	case r.body[0] == "TEXT":
		return one(text(t.Text))
	case r.body[0] == "null":
		return one(null)
	case r.body[0] == "true":
		return one(yes)
	case r.body[0] == "false":
		return one(no)
	case len(r.body) == 1:
		return one(name(t.Text))
	case r.body[0] == "NAME":
		return one(call(t.Text, kids...))
	}
	return one(node(kindOf[r.body[1]], kids...))
}

// said is what the grammar says of a text that is within all bounds.
func (e *earley) said(t *testing.T, s string) (api.Expr, api.Fault) {
	tokens, fault := lex.Tokens(s)
	if fault.Err != api.OK {
		return api.Expr{}, fault
	}
	good, name, done := e.parse(tokens)
	switch {
	case good < len(tokens) && name && tokens[good].Kind == api.TWord:
		return api.Expr{}, api.Fault{Err: api.ErrName, At: tokens[good].At}
	case good < len(tokens):
		return api.Expr{}, api.Fault{Err: api.ErrForm, At: tokens[good].At}
	case !done:
		return api.Expr{}, api.Fault{Err: api.ErrForm, At: len(s)}
	}
	cut := splitter{e, tokens, map[span][]api.Expr{}}
	x := cut.tree("E", 0, len(tokens))
	if len(x) != 1 {
		t.Fatalf("%q: the grammar is at odds with itself", s)
	}
	return x[0], api.Fault{}
}

// same holds what Read says against what the grammar says.
func same(t *testing.T, e *earley, s string) (api.Expr, bool) {
	t.Helper()
	want, fault := e.said(t, s)
	if fault.Err != api.OK {
		faults(t, s, fault.Err, fault.At)
		return api.Expr{}, false
	}
	reads(t, s, want)
	return want, true
}

// texts are all that are made of at most that many parts, with blanks between.
func texts(most int, parts ...string) iter.Seq[string] {
	return func(yield func(string) bool) {
		var from func(s string, left int) bool
		from = func(s string, left int) bool {
			if !yield(s) {
				return false
			}
			for _, p := range parts {
				if left > 0 && !from(s+p+" ", left-1) {
					return false
				}
			}
			return true
		}
		from("", most)
	}
}

func TestD3AsTheGrammarSays(t *testing.T) {
	e := newEarley()
	goods := 0
	for _, c := range []struct {
		most  int
		parts string
	}{
		{3, `a 1 "a" null true false ( ) [ ] , + - * / = != < <= > >= in .. and or if then else for return some every satisfies`},
		{5, `a ( ) [ ] , - and`},
		{5, `a - + * = or in`},
		{7, `a if then else`},
		{6, `a for in return`},
		{6, `a some in satisfies`},
	} {
		for s := range texts(c.most, strings.Fields(c.parts)...) {
			if _, good := same(t, e, s); good {
				goods++
			}
		}
	}
	if goods < 500 {
		t.Errorf("only %d expressions among them", goods)
	}
}

// wild is some expression, that deep at most.
func wild(r *rand.Rand, deep int) api.Expr {
	names := []string{"a", "b", "é1", "x_", "not"}
	kind := 1 + r.Intn(22)
	if deep == 1 {
		kind = 1 + r.Intn(2)
	}
	x := api.Expr{Kind: kind}
	switch kind {
	case api.XLit:
		return []api.Expr{null, yes, no, num(int64(1+r.Intn(9)), r.Intn(5)-2), num(0, 0), text("a\"\\\n"), text(""), text("or")}[r.Intn(8)]
	case api.XName, api.XCall, api.XFor, api.XSome, api.XEvery:
		x.Name = names[r.Intn(len(names))]
	}
	least, most := kidCounts(kind)
	for range least + r.Intn(min(most, 3)+1-least) {
		x.Kids = append(x.Kids, wild(r, deep-1))
	}
	return x
}

// What is written is read, and none of its brackets may be left out.
func TestD5WhatIsWrittenIsRead(t *testing.T) {
	e := newEarley()
	seeded := rand.New(rand.NewSource(4))
	for i := range 3000 {
		x := wild(seeded, 1+seeded.Intn(5))
		s, err := syn.Print(x)
		if err != api.OK {
			if err != api.ErrMuch {
				t.Fatalf("%d comes", err)
			}
			continue
		}
		reads(t, s, x)
		if len(s) < 60 && i%5 == 0 {
			same(t, e, s)
		}
		if len(s) < 500 {
			noneToSpare(t, s, x)
		}
	}
}

// noneToSpare leaves out each pair of brackets that is not a call's.
func noneToSpare(t *testing.T, s string, x api.Expr) {
	t.Helper()
	tokens, _ := lex.Tokens(s)
	var open []int
	for i, token := range tokens {
		if token.Kind != api.TSign {
			continue
		}
		switch token.Text {
		case "(":
			open = append(open, i)
		case ")":
			from := open[len(open)-1]
			open = open[:len(open)-1]
			if from > 0 && tokens[from-1].Kind == api.TWord && syn.Named(tokens[from-1].Text) {
				continue
			}
			less := s[:tokens[from].At] + " " + s[tokens[from].At+1:token.At] + " " + s[token.At+1:]
			if y, fault := syn.Read(less); fault.Err == api.OK && alike(x, y) {
				t.Errorf("%q says the same as %q", less, s)
			}
		}
	}
}

func TestD3AsTheGrammarSaysOfLongTexts(t *testing.T) {
	e := newEarley()
	seeded := rand.New(rand.NewSource(5))
	parts := strings.Fields(`a b 1 "a" null ( ) ( ) [ ] , , + - * / = < in and or if then else for return some every satisfies ..`)
	goods, bads := 0, 0
	for range 6000 {
		s, err := syn.Print(wild(seeded, 1+seeded.Intn(4)))
		if err != api.OK || len(s) > 150 {
			continue
		}
		tokens, _ := lex.Tokens(s)
		var pieces []string
		for i, token := range tokens {
			end := len(s)
			if i+1 < len(tokens) {
				end = tokens[i+1].At
			}
			pieces = append(pieces, strings.TrimSpace(s[token.At:end]))
		}
		for range seeded.Intn(3) {
			at := seeded.Intn(len(pieces))
			part := parts[seeded.Intn(len(parts))]
			switch seeded.Intn(4) {
			case 0:
				pieces[at] = part
			case 1:
				pieces = slices.Insert(pieces, at, part)
			case 2:
				pieces = slices.Delete(pieces, at, at+1)
				pieces = append(pieces, "a")
			case 3:
				other := seeded.Intn(len(pieces))
				pieces[at], pieces[other] = pieces[other], pieces[at]
			}
		}
		if _, good := same(t, e, strings.Join(pieces, strings.Repeat(" ", 1+seeded.Intn(2)))); good {
			goods++
		} else {
			bads++
		}
	}
	if goods < 500 || bads < 500 {
		t.Errorf("%d expressions, and %d others, are too few", goods, bads)
	}
}

func FuzzRead(f *testing.F) {
	for _, s := range []string{"1 + a * 2", "if a then b else c", "for x in [1, 2] return -x", `f("a", null) >= 0.5`, "some x in a satisfies (x or b) and c", "((", "a = b = c"} {
		f.Add(s)
	}
	f.Fuzz(func(t *testing.T, s string) {
		x, fault := syn.Read(s)
		if fault.Err != api.OK {
			if fault.At < 0 || fault.At > len(s) || !alike(x, api.Expr{}) {
				t.Errorf("%q: %+v comes", s, fault)
			}
			return
		}
		if err := syn.Wrong(x); err != api.OK {
			t.Errorf("%q: %d comes", s, err)
		}
		out, err := syn.Print(x)
		if err == api.ErrMuch {
			return
		}
		reads(t, out, x)
		if again, _ := syn.Print(x); again != out {
			t.Errorf("%q, then %q comes", out, again)
		}
	})
}
