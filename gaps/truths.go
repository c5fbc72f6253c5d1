package gaps

import (
	"sort"

	"verdict/api"
	"verdict/logic"
)

// truths tells of which points one of the tests is true. No point is null, and the tests fit their kind, so that each of them is true or false of a point; nothing is left unknown.
//
// There may be so many points, and tests in tests, that asking each test of each point would take far too long: of a test without kids it is searched from where on, and up to where, it is true.
func truths(tests []api.Test, points []api.Value) []bool {
	yes := make([]bool, len(points))
	mark(yes, tests, points)
	return yes
}

func mark(yes []bool, tests []api.Test, points []api.Value) {
	for _, t := range tests {
		switch t.Kind {
		case api.TeOr:
			mark(yes, t.Kids, points)
		case api.TeNot:
			for i, one := range truths(t.Kids, points) {
				yes[i] = yes[i] || !one
			}
		default:
			from, to := run(t, points)
			for i := from; i < to; i++ {
				yes[i] = true
			}
		}
	}
}

// run tells from where on, and up to where, a test without kids is true: points rise, so those of which it is stand side by side.
func run(t api.Test, points []api.Value) (from, to int) {
	switch t.Kind {
	case api.TeIs:
		// No point is null.
		if t.A.Kind == api.VNull {
			return 0, 0
		}
		return below(t.A, points), upTo(t.A, points)
	case api.TeLt:
		return 0, below(t.A, points)
	case api.TeLe:
		return 0, upTo(t.A, points)
	case api.TeGt:
		return upTo(t.A, points), len(points)
	case api.TeGe:
		return below(t.A, points), len(points)
	case api.TeIn:
		return begin(t, points), end(t, points)
	}
	return 0, len(points)
}

func begin(t api.Test, points []api.Value) int {
	if t.OpenA {
		return upTo(t.A, points)
	}
	return below(t.A, points)
}

func end(t api.Test, points []api.Value) int {
	if t.OpenB {
		return below(t.B, points)
	}
	return upTo(t.B, points)
}

// below is how many points are less than v.
func below(v api.Value, points []api.Value) int {
	return sort.Search(len(points), func(i int) bool { return !isLess(points[i], v) })
}

// upTo is how many points are not more than v.
func upTo(v api.Value, points []api.Value) int {
	return sort.Search(len(points), func(i int) bool { return isLess(v, points[i]) })
}

// isLess is the order in which points stand; of truths Less says nothing.
func isLess(a, b api.Value) bool {
	if a.Kind == api.VBool {
		return !a.Yes && b.Yes
	}
	return logic.Less(a, b).Yes
}
