package table

import (
	"slices"

	"verdict/api"
	"verdict/logic"
	"verdict/syn"
	"verdict/trials"
	"verdict/types"
)

// Wrong tells what is wrong with t as a table.
func Wrong(t api.Table) api.Errno {
	if err := wrongHead(t); err != api.OK {
		return err
	}
	if len(t.Rules) > api.MaxRules {
		return api.ErrMany
	}
	names := namesOf(t.Ins)
	for _, r := range t.Rules {
		if err := wrongRule(t, r, names); err != api.OK {
			return err
		}
	}
	return api.OK
}

// wrongHead tells of t without its rules.
func wrongHead(t api.Table) api.Errno {
	if !syn.Named(t.Name) {
		return api.ErrName
	}
	if t.Policy < api.PolUnique || t.Policy > api.PolCount {
		return api.ErrKind
	}
	if err := wrongColumns(t.Ins, api.MaxIns, 0); err != api.OK {
		return err
	}
	if err := wrongColumns(t.Outs, api.MaxOuts, mostOrdered(t.Policy)); err != api.OK {
		return err
	}
	if !isReckoned(t.Policy, t.Outs) {
		return api.ErrFit
	}
	return api.OK
}

// mostOrdered is how many values an output's order has at most: only one policy asks for them.
func mostOrdered(policy int) int {
	if policy == api.PolPriority {
		return api.MaxOrder
	}
	return 0
}

// wrongColumns tells of inputs or outputs, of which there are at most most, each with an order of at most ordered values.
func wrongColumns(columns []api.Column, most, ordered int) api.Errno {
	if len(columns) < 1 || len(columns) > most {
		return api.ErrMany
	}
	for i, c := range columns {
		if !syn.Named(c.Name) || hasName(columns[:i], c.Name) {
			return api.ErrName
		}
		if err := wrongColumn(c, ordered); err != api.OK {
			return err
		}
	}
	return api.OK
}

func hasName(columns []api.Column, name string) bool {
	return slices.ContainsFunc(columns, func(c api.Column) bool { return c.Name == name })
}

// wrongColumn tells of c without its name.
func wrongColumn(c api.Column, ordered int) api.Errno {
	if c.Kind != api.TyBool && c.Kind != api.TyNum && c.Kind != api.TyText {
		return api.ErrKind
	}
	if len(c.Order) > ordered {
		return api.ErrMany
	}
	for _, v := range c.Order {
		if err := logic.Wrong(v); err != api.OK {
			return err
		}
		// Null is of each type, but has no place in an order.
		if v.Kind == api.VNull || !types.Has(v, typeOf(c)) {
			return api.ErrType
		}
	}
	return api.OK
}

// isReckoned tells whether a policy that makes one number of all rows has outputs of which it can.
func isReckoned(policy int, outs []api.Column) bool {
	switch policy {
	case api.PolSum, api.PolMin, api.PolMax:
		return len(outs) == 1 && outs[0].Kind == api.TyNum
	case api.PolCount:
		return len(outs) == 1
	}
	return true
}

// namesOf is what the expressions may name: the inputs.
func namesOf(ins []api.Column) []api.Var {
	names := make([]api.Var, 0, len(ins))
	for _, c := range ins {
		names = append(names, api.Var{Name: c.Name, Type: typeOf(c)})
	}
	return names
}

func typeOf(c api.Column) api.Type {
	return api.Type{Kind: c.Kind}
}

func wrongRule(t api.Table, r api.Rule, names []api.Var) api.Errno {
	if len(r.Tests) != len(t.Ins) || len(r.Outs) != len(t.Outs) {
		return api.ErrMany
	}
	for i, test := range r.Tests {
		if err := wrongTest(test, typeOf(t.Ins[i])); err != api.OK {
			return err
		}
	}
	for i, x := range r.Outs {
		if err := wrongOut(x, names, typeOf(t.Outs[i])); err != api.OK {
			return err
		}
	}
	return api.OK
}

func wrongTest(test api.Test, typ api.Type) api.Errno {
	if err := trials.Wrong(test); err != api.OK {
		return err
	}
	if !trials.Fits(test, typ) {
		return api.ErrType
	}
	return api.OK
}

func wrongOut(x api.Expr, names []api.Var, typ api.Type) api.Errno {
	has, err := types.Type(x, names)
	if err != api.OK {
		return err
	}
	if !types.Fits(has, typ) {
		return api.ErrType
	}
	return api.OK
}
