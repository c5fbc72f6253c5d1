package table

import (
	"verdict/api"
	"verdict/eval"
	"verdict/logic"
)

// row is what a rule that hits says: a value for each output.
type row []api.Value

// rowsOf has the rows of the rules that hit, or the first error that one of their expressions has.
func rowsOf(t api.Table, hits []int, vals []api.Value) ([]row, api.Errno) {
	binds := bindsOf(t.Ins, vals)
	rows := make([]row, 0, len(hits))
	for _, i := range hits {
		r, err := rowOf(t.Rules[i].Outs, binds)
		if err != api.OK {
			return nil, err
		}
		rows = append(rows, r)
	}
	return rows, api.OK
}

func bindsOf(ins []api.Column, vals []api.Value) []api.Bind {
	binds := make([]api.Bind, 0, len(ins))
	for i, c := range ins {
		binds = append(binds, api.Bind{Name: c.Name, Val: vals[i]})
	}
	return binds
}

func rowOf(outs []api.Expr, binds []api.Bind) (row, api.Errno) {
	r := make(row, 0, len(outs))
	for _, x := range outs {
		v, err := eval.Eval(x, binds)
		if err != api.OK {
			return nil, err
		}
		r = append(r, v)
	}
	return r, api.OK
}

// told is the row as it is answered.
func (r row) told() api.Value {
	if len(r) == 1 {
		return r[0]
	}
	return listOf(r)
}

func (r row) isSame(other row) bool {
	return isTrue(logic.Equal(listOf(r), listOf(other)))
}

// places is where the row's values stand in the orders of their outputs.
func (r row) places(outs []api.Column) []int {
	places := make([]int, 0, len(r))
	for i, v := range r {
		places = append(places, placeOf(v, outs[i].Order))
	}
	return places
}

func placeOf(v api.Value, order []api.Value) int {
	for i, one := range order {
		if isTrue(logic.Equal(v, one)) {
			return i
		}
	}
	return len(order)
}

func listOf(vals []api.Value) api.Value {
	return api.Value{Kind: api.VList, List: vals}
}

func isTrue(v api.Value) bool {
	return v.Kind == api.VBool && v.Yes
}
