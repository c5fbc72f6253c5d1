package eval

import (
	"slices"

	"verdict/api"
	"verdict/dec"
	"verdict/logic"
)

// allAre tells whether the list has nothing of another kind.
func allAre(kind int, list []api.Value) bool {
	return !slices.ContainsFunc(list, func(v api.Value) bool {
		return v.Kind != kind
	})
}

// inOrder tells whether it is known of any two of the list which one is less.
func inOrder(list []api.Value) bool {
	return allAre(api.VNum, list) || allAre(api.VText, list)
}

// order holds two against each other of which it is known which one is less.
func order(a, b api.Value) int {
	switch {
	case isTrue(logic.Less(a, b)):
		return -1
	case isTrue(logic.Less(b, a)):
		return 1
	}
	return 0
}

func ofMin(args []api.Value) api.Value {
	list := args[0].List
	if len(list) == 0 || !inOrder(list) {
		return null()
	}
	return slices.MinFunc(list, order)
}

func ofMax(args []api.Value) api.Value {
	list := args[0].List
	if len(list) == 0 || !inOrder(list) {
		return null()
	}
	return slices.MaxFunc(list, order)
}

func ofSum(args []api.Value) api.Value {
	add := func(sum, v api.Value) api.Value {
		return reckoned(dec.Add, sum, v)
	}
	return folded(add, number(api.Dec{}, api.OK), args[0].List)
}

func ofCount(args []api.Value) api.Value {
	return counted(len(args[0].List))
}

func ofItem(args []api.Value) api.Value {
	list := args[0].List
	at, ok := placeOf(args[1], len(list))
	if !ok || at >= len(list) {
		return null()
	}
	return list[at]
}

func ofConcat(args []api.Value) api.Value {
	return listOf(slices.Concat(args[0].List, args[1].List))
}

func ofReverse(args []api.Value) api.Value {
	turned := slices.Clone(args[0].List)
	slices.Reverse(turned)
	return listOf(turned)
}

func ofDistinct(args []api.Value) api.Value {
	var kept []api.Value
	for _, v := range args[0].List {
		same := func(one api.Value) bool {
			return isTrue(logic.Equal(one, v))
		}
		if !slices.ContainsFunc(kept, same) {
			kept = append(kept, v)
		}
	}
	return listOf(kept)
}

func ofSort(args []api.Value) api.Value {
	if !inOrder(args[0].List) {
		return null()
	}
	sorted := slices.Clone(args[0].List)
	slices.SortStableFunc(sorted, order)
	return listOf(sorted)
}
