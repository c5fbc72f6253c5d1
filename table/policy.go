package table

import (
	"slices"
	"strconv"

	"verdict/api"
	"verdict/dec"
)

// decided is what the table's policy makes of the rows, of which there is at least one.
func decided(t api.Table, rows []row) (api.Value, api.Errno) {
	switch t.Policy {
	case api.PolUnique:
		return onlyOne(rows)
	case api.PolAny:
		return agreed(rows)
	case api.PolPriority:
		return foremost(rows, t.Outs).told(), api.OK
	case api.PolRule:
		return toldAll(rows), api.OK
	case api.PolCollect:
		return toldAll(eachOnce(rows)), api.OK
	case api.PolSum, api.PolMin, api.PolMax:
		return reckoned(t.Policy, rows), api.OK
	}
	return rows[0].told(), api.OK
}

func onlyOne(rows []row) (api.Value, api.Errno) {
	if len(rows) > 1 {
		return api.Value{}, api.ErrFit
	}
	return rows[0].told(), api.OK
}

func agreed(rows []row) (api.Value, api.Errno) {
	for _, r := range rows[1:] {
		if !r.isSame(rows[0]) {
			return api.Value{}, api.ErrFit
		}
	}
	return rows[0].told(), api.OK
}

// foremost is the first row that no other one is ahead of.
func foremost(rows []row, outs []api.Column) row {
	return slices.MinFunc(rows, func(a, b row) int {
		return slices.Compare(a.places(outs), b.places(outs))
	})
}

func toldAll(rows []row) api.Value {
	all := make([]api.Value, 0, len(rows))
	for _, r := range rows {
		all = append(all, r.told())
	}
	return listOf(all)
}

func eachOnce(rows []row) []row {
	var kept []row
	for _, r := range rows {
		if !slices.ContainsFunc(kept, r.isSame) {
			kept = append(kept, r)
		}
	}
	return kept
}

// reckoned makes one number of the rows' only values: these are numbers or null, for the output is a number.
func reckoned(policy int, rows []row) api.Value {
	numbers := make([]api.Value, 0, len(rows))
	for _, r := range rows {
		if r[0].Kind != api.VNum {
			return null()
		}
		numbers = append(numbers, r[0])
	}
	switch policy {
	case api.PolMin:
		return slices.MinFunc(numbers, compareNumbers)
	case api.PolMax:
		return slices.MaxFunc(numbers, compareNumbers)
	}
	return sumOf(numbers)
}

// compareNumbers is asked of numbers with which nothing is wrong, so that Cmp tells no error.
func compareNumbers(a, b api.Value) int {
	order, _ := dec.Cmp(a.Num, b.Num)
	return order
}

func sumOf(numbers []api.Value) api.Value {
	sum := numbers[0].Num
	for _, v := range numbers[1:] {
		next, err := dec.Add(sum, v.Num)
		if err != api.OK {
			return null()
		}
		sum = next
	}
	return number(sum)
}

// counted is the number n: Parse writes it as numbers are, without noughts at the end.
func counted(n int) api.Value {
	d, _ := dec.Parse(strconv.Itoa(n))
	return number(d)
}

func null() api.Value {
	return api.Value{Kind: api.VNull}
}

func number(d api.Dec) api.Value {
	return api.Value{Kind: api.VNum, Num: d}
}
