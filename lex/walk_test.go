package lex_test

import (
	"errors"
	"reflect"
	"testing"

	"verdict/api"
	"verdict/lex"
)

// walkOver is a walk over a text with which nothing is wrong.
func walkOver(t *testing.T, s string) lex.Walk {
	t.Helper()
	w, fault := lex.Over(s)
	if fault != (api.Fault{}) {
		t.Fatalf("%q: %+v comes", s, fault)
	}
	return w
}

// isStuck checks what an error carries.
func isStuck(t *testing.T, err error, want api.Errno, at int) {
	t.Helper()
	var what lex.Unread
	if !errors.As(err, &what) || what.Fault != (api.Fault{Err: want, At: at}) {
		t.Errorf("%v comes, not %d at %d", err, want, at)
	}
}

func TestWalkGoesOverAllTokens(t *testing.T) {
	for _, s := range []string{"", "  ", "a", " a <= 1.5 \"b\" ", "not(1, 2)"} {
		w := walkOver(t, s)
		tokens, _ := lex.Tokens(s)
		for i, token := range tokens {
			if w.Left() != len(tokens)-i || !reflect.DeepEqual(w.Next(), token) {
				t.Errorf("%q, %d: %d are left, %+v comes", s, i, w.Left(), w.Next())
			}
			isStuck(t, w.End(), api.ErrForm, token.At)
			w.Pass()
		}
		for range 2 {
			if w.Left() != 0 || !reflect.DeepEqual(w.Next(), api.Token{At: len(s)}) || w.End() != nil {
				t.Errorf("%q: at its end %d are left, %+v comes", s, w.Left(), w.Next())
			}
			isStuck(t, w.Stuck(api.ErrMany), api.ErrMany, len(s))
			w.Pass()
		}
	}
}

func TestWalkTellsWhatTokensSays(t *testing.T) {
	for _, s := range []string{"#", "a \xff", "\"a", "1 \"\\x\""} {
		_, want := lex.Tokens(s)
		w, got := lex.Over(s)
		if got != want || got.Err == api.OK || w.Left() != 0 || w.Next() != (api.Token{}) {
			t.Errorf("%q: %+v comes, not %+v", s, got, want)
		}
	}
}

func TestWalkSeesAndTakes(t *testing.T) {
	w := walkOver(t, `not ( "-" - 5`)
	for _, texts := range [][]string{{"no"}, {"("}, {"not", "-"}, {"not", "(", "-"}, {"not", "(", `"-"`}, {""}} {
		if w.Sees(texts...) || w.Take(texts...) || w.Left() != 5 {
			t.Errorf("%q is seen", texts)
		}
	}
	for _, texts := range [][]string{{}, {"not"}, {"not", "("}} {
		if !w.Sees(texts...) {
			t.Errorf("%q is not seen", texts)
		}
	}
	if !w.Take("not", "(") || w.Left() != 3 || w.Take("-") {
		t.Errorf("%d are left", w.Left())
	}
	isStuck(t, w.Need("-"), api.ErrForm, 6)
	w.Pass()
	// A number is no word, whatever it is told as.
	if err := w.Need("-"); err != nil || w.Sees("5") || w.Sees("5", "5") || w.Left() != 1 {
		t.Errorf("%v comes, %d are left", err, w.Left())
	}
	w.Pass()
	if w.Sees("") || w.Sees("-") || !w.Sees() {
		t.Error("something is seen at the end")
	}
	isStuck(t, w.Need(")"), api.ErrForm, 13)
}

func TestUnreadSaysWhatItIs(t *testing.T) {
	err := lex.Unread{Fault: api.Fault{Err: api.ErrName, At: 12}}
	if got := err.Error(); got != "error 7 at byte 12" {
		t.Errorf("%q comes", got)
	}
}

func TestMeantAndWritten(t *testing.T) {
	for _, c := range []struct {
		text string
		want api.Value
	}{
		{"null", api.Value{Kind: api.VNull}},
		{"true", api.Value{Kind: api.VBool, Yes: true}},
		{"false", api.Value{Kind: api.VBool}},
		{"0", api.Value{Kind: api.VNum}},
		{"12.5", api.Value{Kind: api.VNum, Num: api.Dec{Coef: 125, Exp: -1}}},
		{`""`, api.Value{Kind: api.VText}},
		{`"null"`, api.Value{Kind: api.VText, Text: "null"}},
		{`"a\"b\\\n"`, api.Value{Kind: api.VText, Text: "a\"b\\\n"}},
	} {
		w := walkOver(t, c.text)
		if v, ok := lex.Meant(w.Next()); !ok || !reflect.DeepEqual(v, c.want) {
			t.Errorf("%q: %+v comes", c.text, v)
		}
		if got := lex.Written(c.want); got != c.text {
			t.Errorf("%q comes, not %q", got, c.text)
		}
	}
	for _, s := range []string{"", "a", "Null", "-", "[", ".."} {
		w := walkOver(t, s)
		if v, ok := lex.Meant(w.Next()); ok || !reflect.DeepEqual(v, api.Value{}) {
			t.Errorf("%q: %+v comes", s, v)
		}
	}
}

func TestWrittenOfWhatNothingStandsFor(t *testing.T) {
	for _, v := range []api.Value{{}, {Kind: 6}, {Kind: api.VList}, {Kind: api.VNum, Num: api.Dec{Coef: 10}}} {
		if got := lex.Written(v); got != "" {
			t.Errorf("%+v: %q comes", v, got)
		}
	}
	if got := lex.Written(api.Value{Kind: api.VNum, Num: api.Dec{Coef: -15, Exp: -1}}); got != "-1.5" {
		t.Errorf("%q comes", got)
	}
}
