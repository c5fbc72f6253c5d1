package sheet

import (
	"strings"

	"verdict/api"
	"verdict/syn"
	"verdict/table"
	"verdict/trials"
)

// Print writes t as Read reads it. Whether Read also takes each order and each piece, which are texts of their own and have bounds of their own, is not asked: only the whole one's bound is told of.
func Print(t api.Table) (string, api.Errno) {
	if err := table.Wrong(t); err != api.OK {
		return "", err
	}
	text, err := written(t)
	if err != api.OK {
		return "", err
	}
	if len(text) > maxBytes {
		return "", api.ErrMuch
	}
	return text, api.OK
}

// written is the lines of a table with which nothing is wrong, as far as they can be written.
func written(t api.Table) (string, api.Errno) {
	ins, err := columnsText(t.Ins)
	if err != api.OK {
		return "", err
	}
	outs, err := columnsText(t.Outs)
	if err != api.OK {
		return "", err
	}
	rules, err := joined(t.Rules, ruleLine, "")
	if err != api.OK {
		return "", err
	}
	head := tableWord + t.Name + " " + policyWord(t.Policy) + "\n"
	return head + inWord + ins + "\n" + outWord + outs + "\n" + rules, api.OK
}

// joined is the texts of all entries with sep between, or the first error.
func joined[T any](list []T, write func(T) (string, api.Errno), sep string) (string, api.Errno) {
	texts := make([]string, 0, len(list))
	for _, x := range list {
		text, err := write(x)
		if err != api.OK {
			return "", err
		}
		texts = append(texts, text)
	}
	return strings.Join(texts, sep), api.OK
}

func columnsText(columns []api.Column) (string, api.Errno) {
	return joined(columns, columnText, ", ")
}

func columnText(c api.Column) (string, api.Errno) {
	text := c.Name + " " + kindWord(c.Kind)
	if len(c.Order) == 0 {
		return text, api.OK
	}
	order, err := joined(c.Order, valueText, ", ")
	if err != api.OK {
		return "", err
	}
	return text + " (" + order + ")", api.OK
}

// valueText writes a value of an order as the test that asks for it: in this way it is read.
func valueText(v api.Value) (string, api.Errno) {
	text, err := trials.Print(api.Test{Kind: api.TeIs, A: v})
	if err != api.OK {
		return "", api.ErrFit
	}
	return text, api.OK
}

func ruleLine(r api.Rule) (string, api.Errno) {
	tests, err := joined(r.Tests, trials.Print, " | ")
	if err != api.OK {
		return "", err
	}
	outs, err := joined(r.Outs, syn.Print, " | ")
	if err != api.OK {
		return "", err
	}
	return ruleWord + tests + " | " + outs + "\n", api.OK
}
