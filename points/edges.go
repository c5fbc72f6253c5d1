package points

import (
	"maps"
	"slices"
	"strings"

	"verdict/api"
	"verdict/dec"
)

// edgesOf is what the tests hold values against, rising, each once: of their values those that take tells.
func edgesOf[E comparable](l []api.Test, take func(api.Value) (E, bool), compare func(a, b E) int) []E {
	seen := make(map[E]struct{})
	see := func(v api.Value) {
		if edge, ok := take(v); ok {
			seen[edge] = struct{}{}
		}
	}
	for _, t := range l {
		eachValue(t, see)
	}
	return slices.SortedFunc(maps.Keys(seen), compare)
}

// eachValue shows see the values of a test and of its kids; what stands in fields that a kind has not is none.
func eachValue(t api.Test, see func(api.Value)) {
	switch t.Kind {
	case api.TeIs, api.TeLt, api.TeLe, api.TeGt, api.TeGe:
		see(t.A)
	case api.TeIn:
		see(t.A)
		see(t.B)
	case api.TeOr, api.TeNot:
		for _, kid := range t.Kids {
			eachValue(kid, see)
		}
	}
}

func numberIn(v api.Value) (api.Dec, bool) {
	return v.Num, v.Kind == api.VNum
}

func textIn(v api.Value) (string, bool) {
	return v.Text, v.Kind == api.VText
}

// compareNumbers is asked of numbers with which nothing is wrong, so that Cmp tells no error.
func compareNumbers(a, b api.Dec) int {
	order, _ := dec.Cmp(a, b)
	return order
}

// numberPoints has the edges at its odd places. Numbers in tests have so few digits that what lies beside and between them is neither rounded nor too much.
func numberPoints(edges []api.Dec) []api.Value {
	if len(edges) == 0 {
		return []api.Value{number(api.Dec{})}
	}
	one := api.Dec{Coef: 1}
	ahead, _ := dec.Sub(edges[0], one)
	behind, _ := dec.Add(edges[len(edges)-1], one)
	points := make([]api.Value, 0, 2*len(edges)+1)
	points = append(points, number(ahead))
	for i, edge := range edges {
		if i > 0 {
			points = append(points, number(middle(edges[i-1], edge)))
		}
		points = append(points, number(edge))
	}
	return append(points, number(behind))
}

func middle(a, b api.Dec) api.Dec {
	both, _ := dec.Add(a, b)
	half, _ := dec.Div(both, api.Dec{Coef: 2})
	return half
}

// haveRoom tells whether a byte can stand behind each text.
func haveRoom(edges []string) bool {
	return !slices.ContainsFunc(edges, func(edge string) bool { return len(edge) >= api.MaxText })
}

// textPoints rises as the edges do: between a text and it with a byte 0 behind lies none, so what is there already is the last one.
func textPoints(edges []string) []api.Value {
	points := make([]api.Value, 0, 2*len(edges)+1)
	points = append(points, text(""))
	for _, edge := range edges {
		if points[len(points)-1].Text != edge {
			points = append(points, text(strings.Clone(edge)))
		}
		points = append(points, text(edge+"\x00"))
	}
	return points
}

func number(d api.Dec) api.Value {
	return api.Value{Kind: api.VNum, Num: d}
}

func text(s string) api.Value {
	return api.Value{Kind: api.VText, Text: s}
}
