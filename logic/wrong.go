package logic

import (
	"unicode/utf8"

	"verdict/api"
	"verdict/dec"
)

// Wrong tells what is wrong with v as a value.
func Wrong(v api.Value) api.Errno {
	l := look{}
	return l.wrong(v, 1)
}

// look goes over a value and what is in it, and counts.
type look struct {
	seen int
}

// wrong tells of v, which stands that deep in what was handed in. The bounds come first: so even a list that holds itself has an end.
func (l *look) wrong(v api.Value, depth int) api.Errno {
	l.seen++
	if l.seen > api.MaxNodes || depth > api.MaxDepth {
		return api.ErrMuch
	}
	switch v.Kind {
	case api.VNull, api.VBool:
		return api.OK
	case api.VNum:
		return dec.Wrong(v.Num)
	case api.VText:
		return wrongText(v.Text)
	case api.VList:
		return l.wrongList(v.List, depth+1)
	}
	return api.ErrKind
}

func wrongText(text string) api.Errno {
	if len(text) > api.MaxText {
		return api.ErrMuch
	}
	if !utf8.ValidString(text) {
		return api.ErrForm
	}
	return api.OK
}

func (l *look) wrongList(list []api.Value, depth int) api.Errno {
	if len(list) > api.MaxList {
		return api.ErrMany
	}
	for _, v := range list {
		if err := l.wrong(v, depth); err != api.OK {
			return err
		}
	}
	return api.OK
}
