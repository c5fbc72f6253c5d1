package eval

import (
	"strings"
	"unicode/utf8"

	"verdict/api"
)

func ofLength(args []api.Value) api.Value {
	return counted(utf8.RuneCountInString(args[0].Text))
}

func ofRunes(turn func(rune) rune) func([]api.Value) api.Value {
	return func(args []api.Value) api.Value {
		return textOf(strings.Map(turn, args[0].Text))
	}
}

func ofTexts(holds func(s, part string) bool) func([]api.Value) api.Value {
	return func(args []api.Value) api.Value {
		return truth(holds(args[0].Text, args[1].Text))
	}
}

func ofSubstring(args []api.Value) api.Value {
	runes := []rune(args[0].Text)
	at, placed := placeOf(args[1], len(runes))
	many, counts := whole(args[2])
	if !placed || at > len(runes) || !counts || many < 0 {
		return null()
	}
	return textOf(string(runes[at:min(at+many, len(runes))]))
}
