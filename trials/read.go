package trials

import (
	"errors"

	"verdict/api"
	"verdict/lex"
)

// sign stands ahead of the value that others are held against.
type sign struct {
	text string
	kind int
}

var signs = [...]sign{{"<", api.TeLt}, {"<=", api.TeLe}, {">", api.TeGt}, {">=", api.TeGe}}

// Read reads the test that text is, or tells what is wrong with it, and where.
func Read(text string) (api.Test, api.Fault) {
	walk, fault := lex.Over(text)
	if fault.Err != api.OK {
		return api.Test{}, fault
	}
	r := reader{walk}
	t, err := r.whole()
	var what lex.Unread
	if errors.As(err, &what) {
		return api.Test{}, what.Fault
	}
	if err := Wrong(t); err != api.OK {
		return api.Test{}, api.Fault{Err: err}
	}
	return t, api.Fault{}
}

// reader makes tests of what its walk passes.
type reader struct {
	lex.Walk
}

func (r *reader) whole() (api.Test, error) {
	t, err := r.outer()
	if err != nil {
		return api.Test{}, err
	}
	return t, r.End()
}

// outer reads what may stand around a list, and its tests.
func (r *reader) outer() (api.Test, error) {
	// With a number behind it `-` belongs to that.
	if r.Left() == 1 && r.Take("-") {
		return api.Test{Kind: api.TeAny}, nil
	}
	// Without its bracket `not` begins nothing: it stands where a test should.
	if r.Take("not", "(") {
		kids, err := r.list()
		if err != nil {
			return api.Test{}, err
		}
		return api.Test{Kind: api.TeNot, Kids: kids}, r.Need(")")
	}
	kids, err := r.list()
	if err != nil {
		return api.Test{}, err
	}
	if len(kids) == 1 {
		return kids[0], nil
	}
	return api.Test{Kind: api.TeOr, Kids: kids}, nil
}

// list reads one test at least, and as many more as there are.
func (r *reader) list() ([]api.Test, error) {
	var kids []api.Test
	for {
		if len(kids) == api.MaxTests && r.begins() {
			return nil, r.Stuck(api.ErrMany)
		}
		kid, err := r.test()
		if err != nil {
			return nil, err
		}
		kids = append(kids, kid)
		if !r.Take(",") {
			return kids, nil
		}
	}
}

// begins tells whether a test begins with the next token: where none does, there is not one too many.
func (r *reader) begins() bool {
	if _, ok := r.sign(); ok || r.Sees("[") || r.Sees("(") || r.Sees("-") {
		return true
	}
	_, ok := lex.Meant(r.Next())
	return ok
}

// sign is the one that comes next, if one does.
func (r *reader) sign() (sign, bool) {
	for _, s := range signs {
		if r.Sees(s.text) {
			return s, true
		}
	}
	return sign{}, false
}

func (r *reader) test() (api.Test, error) {
	if s, ok := r.sign(); ok {
		r.Pass()
		v, err := r.value()
		return api.Test{Kind: s.kind, A: v}, err
	}
	if r.Sees("[") || r.Sees("(") {
		return r.span()
	}
	v, err := r.value()
	return api.Test{Kind: api.TeIs, A: v}, err
}

// span reads a TeIn, whose bracket comes next.
func (r *reader) span() (api.Test, error) {
	t := api.Test{Kind: api.TeIn, OpenA: r.Sees("(")}
	r.Pass()
	var err error
	if t.A, err = r.value(); err != nil {
		return api.Test{}, err
	}
	if err = r.Need(".."); err != nil {
		return api.Test{}, err
	}
	if t.B, err = r.value(); err != nil {
		return api.Test{}, err
	}
	t.OpenB = r.Take(")")
	if t.OpenB {
		return t, nil
	}
	return t, r.Need("]")
}

func (r *reader) value() (api.Value, error) {
	below := r.Take("-")
	v, ok := lex.Meant(r.Next())
	if !ok || below && v.Kind != api.VNum {
		return api.Value{}, r.Stuck(api.ErrForm)
	}
	r.Pass()
	if below {
		v.Num.Coef = -v.Num.Coef
	}
	return v, nil
}
