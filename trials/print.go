package trials

import (
	"strings"

	"verdict/api"
	"verdict/lex"
)

// Print writes t so that Read reads it.
func Print(t api.Test) (string, api.Errno) {
	if err := Wrong(t); err != api.OK {
		return "", err
	}
	if !isFlat(t) {
		return "", api.ErrFit
	}
	text := written(t)
	if len(text) > api.MaxSource {
		return "", api.ErrMuch
	}
	return text, api.OK
}

// isFlat tells whether t is written as no more than one list: Read knows no tests that are deeper.
func isFlat(t api.Test) bool {
	switch t.Kind {
	case api.TeOr:
		return len(t.Kids) > 1 && areSingle(t.Kids)
	case api.TeNot:
		return areSingle(t.Kids)
	}
	return true
}

func areSingle(kids []api.Test) bool {
	for _, kid := range kids {
		switch kid.Kind {
		case api.TeAny, api.TeOr, api.TeNot:
			return false
		}
	}
	return true
}

// written is a test that is flat as it is read.
func written(t api.Test) string {
	switch t.Kind {
	case api.TeAny:
		return "-"
	case api.TeIs:
		return lex.Written(t.A)
	case api.TeIn:
		return opening(t) + lex.Written(t.A) + ".." + lex.Written(t.B) + closing(t)
	case api.TeOr:
		return listed(t.Kids)
	case api.TeNot:
		return "not(" + listed(t.Kids) + ")"
	}
	return signOf(t.Kind) + " " + lex.Written(t.A)
}

func listed(kids []api.Test) string {
	texts := make([]string, len(kids))
	for i, kid := range kids {
		texts[i] = written(kid)
	}
	return strings.Join(texts, ", ")
}

func opening(t api.Test) string {
	if t.OpenA {
		return "("
	}
	return "["
}

func closing(t api.Test) string {
	if t.OpenB {
		return ")"
	}
	return "]"
}

func signOf(kind int) string {
	for _, s := range signs {
		if s.kind == kind {
			return s.text
		}
	}
	return ""
}
