package sheet

import (
	"strings"

	"verdict/api"
	"verdict/syn"
	"verdict/table"
	"verdict/trials"
)

// headLines is how many lines each table has ahead of its rules.
const headLines = 3

// Read reads the table that text is, or tells what is wrong with it, and in which line.
func Read(text string) (api.Table, api.Fault) {
	if len(text) > maxBytes {
		return api.Table{}, api.Fault{Err: api.ErrMuch}
	}
	lines := linesOf(text)
	// A line that is not there is as one that begins with nothing: no line of a table does.
	for len(lines) < headLines {
		lines = append(lines, "")
	}
	r := reader{}
	for at, line := range lines {
		if err := r.line(at, line); err != api.OK {
			return api.Table{}, api.Fault{Err: err, At: at}
		}
	}
	if err := table.Wrong(r.Table); err != api.OK {
		return api.Table{}, api.Fault{Err: err}
	}
	return r.Table, api.Fault{}
}

// reader has what the lines so far say.
type reader struct {
	api.Table
}

func (r *reader) line(at int, line string) (err api.Errno) {
	switch at {
	case 0:
		return r.head(line)
	case 1:
		r.Ins, err = columnsOf(line, inWord)
	case 2:
		r.Outs, err = columnsOf(line, outWord)
	default:
		return r.rule(line)
	}
	return err
}

func (r *reader) head(line string) api.Errno {
	rest, begins := strings.CutPrefix(line, tableWord)
	name, word, _ := strings.Cut(rest, " ")
	policy, known := policyOf(word)
	if !begins || !known {
		return api.ErrForm
	}
	r.Name, r.Policy = strings.Clone(name), policy
	return api.OK
}

func (r *reader) rule(line string) api.Errno {
	rest, begins := strings.CutPrefix(line, ruleWord)
	if !begins {
		return api.ErrForm
	}
	pieces, n := cut(rest, '|'), len(r.Ins)
	if len(pieces) != n+len(r.Outs) {
		return api.ErrMany
	}
	tests, err := all(pieces[:n], trials.Read)
	if err != api.OK {
		return err
	}
	outs, err := all(pieces[n:], syn.Read)
	if err != api.OK {
		return err
	}
	r.Rules = append(r.Rules, api.Rule{Tests: tests, Outs: outs})
	return api.OK
}

// all reads each piece, up to the first error.
func all[T any](pieces []string, read func(string) (T, api.Fault)) ([]T, api.Errno) {
	var list []T
	for _, piece := range pieces {
		x, fault := read(piece)
		if fault.Err != api.OK {
			return nil, fault.Err
		}
		list = append(list, x)
	}
	return list, api.OK
}

// columnsOf is the columns that stand in line behind word.
func columnsOf(line, word string) ([]api.Column, api.Errno) {
	rest, begins := strings.CutPrefix(line, word)
	if !begins {
		return nil, api.ErrForm
	}
	return all(cut(rest, ','), columnOf)
}

// columnOf is the column that a piece says; where in the piece something is wrong nobody asks.
func columnOf(piece string) (api.Column, api.Fault) {
	name, rest, _ := strings.Cut(strings.Trim(piece, " "), " ")
	word, order, ordered := strings.Cut(rest, " ")
	kind, known := kindOf(word)
	if !known {
		return api.Column{}, api.Fault{Err: api.ErrForm}
	}
	c := api.Column{Name: strings.Clone(name), Kind: kind}
	if !ordered {
		return c, api.Fault{}
	}
	values, err := orderOf(order)
	if err != api.OK {
		return api.Column{}, api.Fault{Err: err}
	}
	c.Order = values
	return c, api.Fault{}
}

// orderOf is the values of an order in its brackets.
func orderOf(text string) ([]api.Value, api.Errno) {
	inner, opens := strings.CutPrefix(text, "(")
	inner, closes := strings.CutSuffix(inner, ")")
	if !opens || !closes {
		return nil, api.ErrForm
	}
	t, fault := trials.Read(inner)
	if fault.Err != api.OK {
		return nil, fault.Err
	}
	if t.Kind == api.TeOr {
		return valuesOf(t.Kids...)
	}
	return valuesOf(t)
}

// valuesOf is the values that tests ask for, if they ask for nothing else.
func valuesOf(tests ...api.Test) ([]api.Value, api.Errno) {
	var values []api.Value
	for _, t := range tests {
		if t.Kind != api.TeIs {
			return nil, api.ErrForm
		}
		values = append(values, t.A)
	}
	return values, api.OK
}
