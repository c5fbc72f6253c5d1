package lex

import (
	"strconv"

	"verdict/api"
)

// Unread is what can't be read, as an error.
type Unread struct {
	api.Fault
}

func (u Unread) Error() string {
	return "error " + strconv.Itoa(int(u.Err)) + " at byte " + strconv.Itoa(u.At)
}

// Walk goes over the tokens of a text, one by one, within whatever reads them.
type Walk struct {
	left []api.Token
	end  int // of the text
}

// Over is a walk over the tokens of text, or what is wrong with it.
func Over(text string) (Walk, api.Fault) {
	tokens, fault := Tokens(text)
	if fault.Err != api.OK {
		return Walk{}, fault
	}
	return Walk{left: tokens, end: len(text)}, api.Fault{}
}

// Left is how many tokens there are still.
func (w *Walk) Left() int {
	return len(w.left)
}

// Next is the token that comes next; at the text's end it is of no kind.
func (w *Walk) Next() api.Token {
	if len(w.left) == 0 {
		return api.Token{At: w.end}
	}
	return w.left[0]
}

// Pass goes behind the next token; at the text's end it stays there.
func (w *Walk) Pass() {
	w.left = w.left[min(1, len(w.left)):]
}

// Sees tells whether these words and signs come next, one behind the other; a text that says the same is neither.
func (w *Walk) Sees(texts ...string) bool {
	if len(w.left) < len(texts) {
		return false
	}
	for i, text := range texts {
		t := w.left[i]
		if t.Kind != api.TWord && t.Kind != api.TSign || t.Text != text {
			return false
		}
	}
	return true
}

// Take passes these words and signs, if all of them come next.
func (w *Walk) Take(texts ...string) bool {
	seen := w.Sees(texts...)
	if seen {
		w.left = w.left[len(texts):]
	}
	return seen
}

// Need takes a word or a sign without which it can't go on.
func (w *Walk) Need(text string) error {
	if !w.Take(text) {
		return w.Stuck(api.ErrForm)
	}
	return nil
}

// End asks that nothing is left.
func (w *Walk) End() error {
	if len(w.left) > 0 {
		return w.Stuck(api.ErrForm)
	}
	return nil
}

// Stuck tells what is wrong where the next token begins.
func (w *Walk) Stuck(err api.Errno) error {
	return Unread{api.Fault{Err: err, At: w.Next().At}}
}
