package lex

import (
	"verdict/api"
	"verdict/dec"
)

// Meant is the value that a token says by itself, if it says one.
func Meant(t api.Token) (api.Value, bool) {
	switch t.Kind {
	case api.TNum:
		return api.Value{Kind: api.VNum, Num: t.Num}, true
	case api.TText:
		return api.Value{Kind: api.VText, Text: t.Text}, true
	case api.TWord:
		switch t.Text {
		case "null":
			return api.Value{Kind: api.VNull}, true
		case "true", "false":
			return api.Value{Kind: api.VBool, Yes: t.Text == "true"}, true
		}
	}
	return api.Value{}, false
}

// Written is a value as it stands in a text: of a list, of what is no value and of a number with which something is wrong it is empty, since nothing stands for these.
func Written(v api.Value) string {
	switch v.Kind {
	case api.VNull:
		return "null"
	case api.VBool:
		if v.Yes {
			return "true"
		}
		return "false"
	case api.VNum:
		// Beside an error the text is empty.
		text, _ := dec.Print(v.Num)
		return text
	case api.VText:
		return Quote(v.Text)
	}
	return ""
}
