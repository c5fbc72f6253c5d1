package code

import (
	"slices"

	"verdict/api"
	"verdict/eval"
)

// machine runs instructions in which all names are known.
type machine struct {
	instrs []api.Instr
	at     int // which instruction is next
	nodes  eval.Nodes
	steps  int
	stack  []api.Value
	names  []api.Bind // the innermost one last
	walks  []walk     // the innermost one last
}

// walk is a list that is gone over, and what was found so far.
type walk struct {
	list, found []api.Value
}

func newMachine(instrs []api.Instr, binds []api.Bind) *machine {
	return &machine{instrs: instrs, nodes: eval.NewNodes(), names: slices.Clone(binds)}
}

// run comes to an end, for what is done again counts a node each time.
func (m *machine) run() (api.Value, api.Errno) {
	for m.at < len(m.instrs) {
		one := m.instrs[m.at]
		m.at++
		m.do(one)
		if m.steps > api.MaxSteps {
			return api.Value{}, api.ErrMuch
		}
	}
	return eval.Apart(m.pop()), api.OK
}

func (m *machine) do(one api.Instr) {
	switch one.Op {
	case api.OpCount:
		m.steps++
	case api.OpPush:
		m.push(one.Val)
	case api.OpLoad:
		m.push(m.load(one.Name))
	case api.OpNode:
		m.push(m.nodes.Made(one.Kind, one.Name, m.take(one.N)))
	case api.OpElse:
		if v := m.pop(); v.Kind != api.VBool || !v.Yes {
			m.at = one.To
		}
	case api.OpJump:
		m.at = one.To
	case api.OpEach:
		m.each(one)
	case api.OpNext:
		m.next(one)
	}
}

func (m *machine) push(v api.Value) {
	m.stack = append(m.stack, v)
}

func (m *machine) pop() api.Value {
	return m.take(1)[0]
}

// take tells the n on top, which are there until the next one is pushed.
func (m *machine) take(n int) []api.Value {
	left := len(m.stack) - n
	taken := m.stack[left:]
	m.stack = m.stack[:left]
	return taken
}

func (m *machine) load(name string) api.Value {
	for _, b := range slices.Backward(m.names) {
		if b.Name == name {
			return b.Val
		}
	}
	return api.Value{Kind: api.VNull}
}

// each begins to go over the list on top; where there is nothing to be gone over, what comes of it stands in its place at once.
func (m *machine) each(one api.Instr) {
	over := m.pop()
	switch {
	case over.Kind != api.VList:
		m.push(api.Value{Kind: api.VNull})
		m.at = one.To
	case len(over.List) == 0:
		m.push(m.nodes.Made(one.Kind, one.Name, nil))
		m.at = one.To
	default:
		m.names = append(m.names, api.Bind{Name: one.Name, Val: over.List[0]})
		m.walks = append(m.walks, walk{list: over.List})
	}
}

// next keeps what was found, and goes on with the next one of the list, or, behind the last one, with what comes of all.
func (m *machine) next(one api.Instr) {
	name, inner := &m.names[len(m.names)-1], &m.walks[len(m.walks)-1]
	inner.found = append(inner.found, m.pop())
	if done := len(inner.found); done < len(inner.list) {
		name.Val = inner.list[done]
		m.at = one.To
		return
	}
	m.push(m.nodes.Made(one.Kind, name.Name, inner.found))
	m.names = m.names[:len(m.names)-1]
	m.walks = m.walks[:len(m.walks)-1]
}
