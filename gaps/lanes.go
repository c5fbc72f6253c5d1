package gaps

import (
	"iter"
	"slices"

	"verdict/api"
	"verdict/points"
	"verdict/table"
)

// rules is a set of rules, a bit for each: a table has at most MaxRules of them.
type rules uint16

func rule(i int) rules {
	return 1 << i
}

// first is the set of the first rule alone; of none if there is none.
func (r rules) first() rules {
	return r & -r
}

// lane is an input: its points, and for each of them the rules whose test of this input is true.
type lane struct {
	points []api.Value
	hits   []rules
}

// lanesOf tells what is wrong with t, or is too much to be looked at, ahead of asking any test.
func lanesOf(t api.Table) ([]lane, api.Errno) {
	if err := table.Wrong(t); err != api.OK {
		return nil, err
	}
	lanes := make([]lane, 0, len(t.Ins))
	cells := 1
	for i, c := range t.Ins {
		l, err := points.Points(c.Kind, testsOf(t.Rules, i))
		if err != api.OK {
			return nil, err
		}
		cells *= len(l)
		if cells > api.MaxCells {
			return nil, api.ErrMuch
		}
		lanes = append(lanes, lane{points: l})
	}
	for i := range lanes {
		lanes[i].ask(testsOf(t.Rules, i))
	}
	return lanes, api.OK
}

// testsOf is what the rules ask of one input.
func testsOf(l []api.Rule, input int) []api.Test {
	tests := make([]api.Test, 0, len(l))
	for _, r := range l {
		tests = append(tests, r.Tests[input])
	}
	return tests
}

// ask is told each rule's test.
func (l *lane) ask(tests []api.Test) {
	l.hits = make([]rules, len(l.points))
	for i, test := range tests {
		for at, yes := range truths([]api.Test{test}, l.points) {
			if yes {
				l.hits[at] |= rule(i)
			}
		}
	}
}

// lists goes over all lists that have one point for each input, the first input's slowest, each with the rules that hit it: those that do so in all lanes. The list is only lent.
func lists(lanes []lane) iter.Seq2[[]api.Value, rules] {
	return func(see func([]api.Value, rules) bool) {
		look(lanes, make([]api.Value, 0, len(lanes)), ^rules(0), see)
	}
}

// look goes over all that begin with these values, and tells whether it may go on.
func look(lanes []lane, vals []api.Value, hit rules, see func([]api.Value, rules) bool) bool {
	if len(lanes) == 0 {
		return see(vals, hit)
	}
	for i, v := range lanes[0].points {
		if !look(lanes[1:], append(vals, v), hit&lanes[0].hits[i], see) {
			return false
		}
	}
	return true
}

// find tells the first list of which it is true that the rules that hit it are as wanted.
func find(lanes []lane, wanted func(rules) bool) ([]api.Value, bool) {
	for vals, hit := range lists(lanes) {
		if wanted(hit) {
			return slices.Clone(vals), true
		}
	}
	return nil, false
}
