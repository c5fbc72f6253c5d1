package sheet_test

import (
	"fmt"
	"math/rand"
	"regexp"
	"strings"
	"testing"

	"verdict/api"
	"verdict/lex"
	"verdict/sheet"
	"verdict/syn"
	"verdict/table"
	"verdict/trials"
)

// The chapter's words once more, by another way: lines are held against patterns, and what stands in quotes is painted over.

var (
	quotes      = regexp.MustCompile(`"(?:\\.|[^"\\])*(?:"|\\?$)`)
	headLine    = regexp.MustCompile(`^table ([^ ]*) (unique|any|priority|first|rule|collect|sum|min|max|count)$`)
	columnPiece = regexp.MustCompile(`^ *([^ ]+) (boolean|number|text)(?: \((.*)\))? *$`)
)

// cuts are the pieces of a line, whose signs are looked for one by one, each with all that stands ahead of it.
func cuts(line, sign string) []string {
	painted := quotes.ReplaceAllStringFunc(line, func(s string) string { return strings.Repeat("_", len(s)) })
	var l []string
	begin := 0
	for i := range painted {
		ahead := painted[:i]
		open := strings.Count(ahead, "(") + strings.Count(ahead, "[")
		closed := strings.Count(ahead, ")") + strings.Count(ahead, "]")
		if painted[i:i+1] == sign && open <= closed {
			l = append(l, line[begin:i])
			begin = i + 1
		}
	}
	return append(l, line[begin:])
}

func columnsSaid(line, word string) ([]api.Column, api.Errno) {
	if !strings.HasPrefix(line, word) {
		return nil, api.ErrForm
	}
	var l []api.Column
	for _, piece := range cuts(line[len(word):], ",") {
		parts := columnPiece.FindStringSubmatchIndex(piece)
		if parts == nil {
			return nil, api.ErrForm
		}
		c := api.Column{Name: piece[parts[2]:parts[3]], Kind: map[string]int{"boolean": api.TyBool, "number": api.TyNum, "text": api.TyText}[piece[parts[4]:parts[5]]]}
		if parts[6] >= 0 {
			te, fault := trials.Read(piece[parts[6]:parts[7]])
			if fault.Err != api.OK {
				return nil, fault.Err
			}
			if te.Kind != api.TeOr {
				te = api.Test{Kids: []api.Test{te}}
			}
			for _, kid := range te.Kids {
				if kid.Kind != api.TeIs {
					return nil, api.ErrForm
				}
				c.Order = append(c.Order, kid.A)
			}
		}
		l = append(l, c)
	}
	return l, api.OK
}

func ruleSaid(x api.Table, line string) (api.Rule, api.Errno) {
	if !strings.HasPrefix(line, "rule ") {
		return api.Rule{}, api.ErrForm
	}
	l := cuts(line[5:], "|")
	if len(l) != len(x.Ins)+len(x.Outs) {
		return api.Rule{}, api.ErrMany
	}
	r := api.Rule{}
	for len(l) > 0 {
		te, testFault := trials.Read(l[0])
		e, exprFault := syn.Read(l[0])
		switch {
		case len(r.Tests) < len(x.Ins) && testFault.Err == api.OK:
			r.Tests = append(r.Tests, te)
		case len(r.Tests) < len(x.Ins):
			return api.Rule{}, testFault.Err
		case exprFault.Err == api.OK:
			r.Outs = append(r.Outs, e)
		default:
			return api.Rule{}, exprFault.Err
		}
		l = l[1:]
	}
	return r, api.OK
}

// said is the table of a text by the chapter's words.
func said(s string) (api.Table, api.Fault) {
	if len(s) > 16000 {
		return api.Table{}, api.Fault{Err: api.ErrMuch}
	}
	var x api.Table
	at := 0
	for ; s != "" || at < 3; at++ {
		line, rest, _ := strings.Cut(s, "\n")
		err := api.OK
		switch at {
		case 0:
			parts := headLine.FindStringSubmatch(line)
			if parts == nil {
				return api.Table{}, api.Fault{Err: api.ErrForm}
			}
			x.Name = parts[1]
			x.Policy = 1 + strings.Count(strings.Split("unique any priority first rule collect sum min max count.", parts[2])[0], " ")
		case 1:
			x.Ins, err = columnsSaid(line, "in ")
		case 2:
			x.Outs, err = columnsSaid(line, "out ")
		default:
			var r api.Rule
			r, err = ruleSaid(x, line)
			x.Rules = append(x.Rules, r)
		}
		if err != api.OK {
			return api.Table{}, api.Fault{Err: err, At: at}
		}
		s = rest
	}
	if err := table.Wrong(x); err != api.OK {
		return api.Table{}, api.Fault{Err: err}
	}
	return x, api.Fault{}
}

// shown is the text of a table, or what keeps it from being one, by the chapter's words.
func shown(x api.Table) (string, api.Errno) {
	if err := table.Wrong(x); err != api.OK {
		return "", err
	}
	s := "table " + x.Name + " " + strings.Fields("unique any priority first rule collect sum min max count")[x.Policy-1] + "\nin "
	for _, c := range append(append([]api.Column{}, x.Ins...), x.Outs...) {
		s += c.Name + map[int]string{api.TyBool: " boolean", api.TyNum: " number", api.TyText: " text"}[c.Kind]
		for i, v := range c.Order {
			if trials.Wrong(is(v)) != api.OK {
				return "", api.ErrFit
			}
			s += []string{", ", " ("}[boolOf(i == 0)] + lex.Written(v) + []string{"", ")"}[boolOf(i == len(c.Order)-1)]
		}
		s += ", "
	}
	// The Outs stand in a line of their own.
	l := cuts(s, ",")
	n := len(x.Ins)
	s = strings.Join(l[:n], ",") + "\nout" + strings.Join(l[n:len(l)-1], ",") + "\n"
	for _, r := range x.Rules {
		var pieces []string
		for _, te := range r.Tests {
			piece, err := trials.Print(te)
			if err != api.OK {
				return "", err
			}
			pieces = append(pieces, piece)
		}
		for _, e := range r.Outs {
			piece, err := syn.Print(e)
			if err != api.OK {
				return "", err
			}
			pieces = append(pieces, piece)
		}
		s += fmt.Sprintln("rule", strings.Join(pieces, " | "))
	}
	return s, api.OK
}

func boolOf(yes bool) int {
	if yes {
		return 1
	}
	return 0
}

type dice struct{ *rand.Rand }

func (d dice) of(l ...string) string { return l[d.Intn(len(l))] }

// odd is seldom true: then something comes that is seldom right.
func (d dice) odd() bool { return d.Intn(60) == 0 }

// blanks are mostly one.
func (d dice) blanks() string { return d.of(" ", " ", " ", " ", "", "  ", "\t") }

func (d dice) kind() string {
	if d.odd() {
		return d.of("int", "", " number", "text ", "text (1)", "Number")
	}
	return d.of("number", "text", "boolean")
}

func (d dice) value(kind string) string {
	if d.odd() {
		return d.of("null", "1", "true", `""`, "1000000001", "0.0000001", "x", `"`, "(", "|")
	}
	switch kind {
	case "number":
		return d.of("1", "2.50", "-3", "0", "- 1")
	case "text":
		return d.of(`"a"`, `"b|c"`, `"\"|"`, `"\\"`, `"(,"`, `"]"`, `""`, `"é\n"`)
	}
	return d.of("true", "false")
}

func (d dice) list(kind string) string {
	l := []string{d.value(kind)}
	for d.Intn(3) == 0 {
		l = append(l, d.value(kind))
	}
	return strings.Join(l, ","+d.blanks())
}

func (d dice) test(kind string) string {
	n := d.Intn(7)
	switch {
	case n < 2:
		return "-"
	case n == 2:
		return "not(" + d.list(kind) + ")"
	case n == 3 || kind == "boolean":
		return d.list(kind)
	case n == 4:
		return d.of("<", "<=", ">", ">=") + " " + d.value(kind)
	}
	return d.of("[", "(") + d.value(kind) + ".." + d.value(kind) + d.of("]", ")")
}

func (d dice) expr(kind string) string {
	if d.odd() {
		return d.of("a", "b", "a +", "(a", "[1, 2]", "for if in a return a", "f(1)", "1 | 2", "a = b = c", "")
	}
	switch kind {
	case "number":
		return d.of("1", "2.5", "max([1, 2])", "((3))", "-1", "1+2 * 3", "sum(for x in [1] return x)", "null")
	case "text":
		return d.of(`"a|b"`, `"\"" + "|"`, `if true then "|" else "\\"`, `upper("(")`, "null")
	}
	return d.of("true", "not(false)", `"|" = "]"`, "1 in [1, 2]", "some x in [1] satisfies x > 0")
}

// columns are written, and the kind of each one.
func (d dice) columns(order bool) (string, []string) {
	var l, kinds []string
	for i := range 1 + d.Intn(3) {
		name, kind := []string{"a", "b", "é1"}[i], d.kind()
		if d.odd() {
			name = d.of("a", "if", "x y", "1", "", "number", "a,b", "(")
		}
		s := d.of("", " ", "  ") + name + " " + kind
		if order && d.Intn(2) == 0 || d.odd() {
			s += " (" + d.list(kind) + ")"
		}
		l, kinds = append(l, s+d.of("", "", " ")), append(kinds, kind)
	}
	return strings.Join(l, ","), kinds
}

// sheet is a text that is often right.
func (d dice) sheet() string {
	policy := d.of("unique", "any", "priority", "priority", "first", "rule", "collect", "sum", "min", "max", "count")
	name := "t"
	if d.odd() {
		policy, name = d.of("last", "", "first "), d.of("in", "t", "", "1")
	}
	ins, inKinds := d.columns(false)
	outs, outKinds := d.columns(policy == "priority")
	l := []string{"table " + name + " " + policy, "in " + ins, "out " + outs}
	for range d.Intn(4) {
		var pieces []string
		for _, kind := range inKinds {
			pieces = append(pieces, d.test(kind))
		}
		for _, kind := range outKinds {
			pieces = append(pieces, d.expr(kind))
		}
		l = append(l, "rule "+strings.Join(pieces, d.blanks()+"|"+d.blanks()))
	}
	return strings.Join(l, "\n") + d.of("", "\n")
}

// spoil changes a text a little.
func (d dice) spoil(s string) string {
	from := d.Intn(len(s) + 1)
	to := min(len(s), from+d.Intn(3))
	return s[:from] + d.of("", " ", ",", "|", "(", ")", "[", "]", `"`, `\`, "\n", "-", "1", "rule ", "\xff") + s[to:]
}

func TestR2R3AgainstTheChapter(t *testing.T) {
	d := dice{rand.New(rand.NewSource(17))}
	faults := map[api.Errno]int{}
	rules, orders := 0, 0
	for range 25000 {
		s := d.sheet()
		for range d.Intn(3) {
			s = d.spoil(s)
		}
		want, wantFault := said(s)
		got, fault := sheet.Read(s)
		if fault != wantFault || !alike(plain(got), plain(want)) {
			t.Fatalf("%q: %+v, %+v comes, not %+v, %+v", s, got, fault, want, wantFault)
		}
		faults[fault.Err]++
		if fault.Err != api.OK {
			continue
		}
		rules += len(got.Rules)
		orders += len(got.Outs[0].Order)
		text, err := shown(got)
		prints(t, got, text)
		reads(t, text, got)
		if err != api.OK {
			t.Fatalf("%q: %d comes", s, err)
		}
	}
	for _, err := range []api.Errno{api.OK, api.ErrForm, api.ErrRange, api.ErrMany, api.ErrName, api.ErrFit, api.ErrType} {
		if faults[err] < 20 {
			t.Errorf("%d times %d comes", faults[err], err)
		}
	}
	if rules < 1000 || orders < 100 {
		t.Errorf("%d rules, %d values of orders", rules, orders)
	}
}

// Signs, quotes and brackets in all ways: into how many pieces a line is cut is seen by ErrMany.
func TestR1AgainstTheChapter(t *testing.T) {
	d := dice{rand.New(rand.NewSource(18))}
	counts := map[int]int{}
	for range 60000 {
		line := ""
		for range d.Intn(12) {
			line += d.of("|", "|", "|", `"`, `"`, `\`, "(", ")", "[", "]", "a", "é", ",")
		}
		want := api.ErrForm
		n := len(cuts(line, "|"))
		if n != 2 {
			want = api.ErrMany
		}
		_, fault := sheet.Read(short + "rule " + line)
		_, asRule := said(short + "rule " + line)
		if fault != (api.Fault{Err: want, At: 3}) && fault != asRule {
			t.Fatalf("%q: %+v comes, not %d", line, fault, want)
		}
		counts[n]++
		// The same with commas: a piece is no column, so the first one that is none is told, or its name.
		line = strings.ReplaceAll(line, "|", ", b number,")
		s := "table t priority\nin a number\nout b number" + line + " text\n"
		want2, wantFault := said(s)
		got, fault := sheet.Read(s)
		if fault != wantFault || !alike(plain(got), plain(want2)) {
			t.Fatalf("%q: %+v, %+v comes, not %+v, %+v", s, got, fault, want2, wantFault)
		}
	}
	for n := 1; n < 5; n++ {
		if counts[n] < 100 {
			t.Errorf("%d lines have %d pieces", counts[n], n)
		}
	}
}

// Tables that are made by hand are written, and read again, or it is told why not.
func TestR3AgainstTheChapter(t *testing.T) {
	d := dice{rand.New(rand.NewSource(19))}
	errs := map[api.Errno]int{}
	for range 20000 {
		x, fault := sheet.Read(d.sheet())
		if fault.Err != api.OK {
			continue
		}
		d.change(&x)
		want, wantErr := shown(x)
		got, err := sheet.Print(x)
		if got != want || err != wantErr {
			t.Fatalf("%+v: %q, %d comes, not %q, %d", x, got, err, want, wantErr)
		}
		errs[err]++
		if err == api.OK {
			again, fault := sheet.Read(got)
			if text, _ := sheet.Print(again); fault.Err != api.OK || text != got {
				t.Fatalf("%q: %+v, %+v comes", got, again, fault)
			}
		}
	}
	for _, err := range []api.Errno{api.OK, api.ErrFit, api.ErrKind, api.ErrMany, api.ErrType} {
		if errs[err] < 5 {
			t.Errorf("%d times %d comes", errs[err], err)
		}
	}
}

// change changes a table a little, or not at all.
func (d dice) change(x *api.Table) {
	switch d.Intn(8) {
	case 0:
		x.Policy = d.Intn(12)
	case 1:
		for i := range x.Outs {
			for j := range x.Outs[i].Order {
				if d.Intn(3) == 0 {
					x.Outs[i].Order[j].Num.Exp = 20 - d.Intn(40)
				}
			}
		}
	case 2:
		for i := range x.Rules {
			x.Rules[i].Tests[0] = api.Test{Kind: api.TeOr, Kids: []api.Test{x.Rules[i].Tests[0]}}
		}
	case 3:
		for i := range x.Rules {
			x.Rules[i].Tests[0] = api.Test{Kind: api.TeNot, Kids: []api.Test{x.Rules[i].Tests[0]}}
		}
	case 4:
		x.Outs[0].Kind = d.Intn(7)
	case 5:
		x.Outs = append(x.Outs, x.Ins...)
	}
}
