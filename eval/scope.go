package eval

import "verdict/api"

// scope looks an expression through for names that stand for nothing, also where it is never come to.
type scope struct {
	names     map[string]int // in how many ways a name stands for something
	functions map[string]function
}

func newScope(binds []api.Bind, functions map[string]function) *scope {
	names := make(map[string]int, len(binds))
	for _, b := range binds {
		names[b.Name]++
	}
	return &scope{names: names, functions: functions}
}

func (s *scope) wrong(x api.Expr) api.Errno {
	if err := s.wrongNode(x); err != api.OK {
		return err
	}
	for i, kid := range x.Kids {
		if err := s.wrongKid(x, i, kid); err != api.OK {
			return err
		}
	}
	return api.OK
}

// wrongNode tells of x without its kids, but for how many a call has.
func (s *scope) wrongNode(x api.Expr) api.Errno {
	switch x.Kind {
	case api.XName:
		if s.names[x.Name] == 0 {
			return api.ErrName
		}
	case api.XCall:
		f, known := s.functions[x.Name]
		if !known {
			return api.ErrName
		}
		if len(x.Kids) != len(f.takes) {
			return api.ErrMany
		}
	}
	return api.OK
}

// wrongKid knows that the name of x stands for something in its second kid alone.
func (s *scope) wrongKid(x api.Expr, i int, kid api.Expr) api.Errno {
	if !goesOver(x.Kind) || i != 1 {
		return s.wrong(kid)
	}
	s.names[x.Name]++
	err := s.wrong(kid)
	s.names[x.Name]--
	return err
}

// goesOver tells of the kinds that go over a list.
func goesOver(kind int) bool {
	return kind == api.XFor || kind == api.XSome || kind == api.XEvery
}
