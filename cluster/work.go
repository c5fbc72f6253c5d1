package cluster

import (
	"slices"

	"verdict/api"
	"verdict/raft"
)

// work is a world at work. Its nodes and messages stand in lists of its own, but theirs are still those that were handed in: they are only read, and copied when the world is told, so that what goes on the way is never copied.
type work struct{ api.World }

func begin(w api.World) *work {
	w.Nodes, w.Net = copied(w.Nodes), copied(w.Net)
	return &work{w}
}

// told is the world with no list that anybody else has.
func (a *work) told() api.World {
	for i := range a.Nodes {
		n := &a.Nodes[i]
		n.Log, n.Votes = copied(n.Log), copied(n.Votes)
		n.Next, n.Match = copied(n.Next), copied(n.Match)
	}
	for i := range a.Net {
		a.Net[i].Items = copied(a.Net[i].Items)
	}
	return a.World
}

func copied[E any](l []E) []E {
	return append([]E(nil), l...)
}

// deed is what becomes of a node, and what it says.
type deed func(n api.Node) (api.Node, []api.Msg)

// happen lets e happen, if there is what it happens to.
func (a *work) happen(e api.Event) {
	if do := deedOf(e); do != nil && a.hasNode(e.Node) {
		a.act(e.Node, do)
		a.forget()
	}
	if ofMessage(e.Kind) && a.hasMessage(e.Pick) {
		a.carry(e)
		a.forget()
	}
}

// deedOf is what a node does when e happens to it, nil if e is not of nodes.
func deedOf(e api.Event) deed {
	switch e.Kind {
	case api.EvTimeout:
		return raft.Timeout
	case api.EvBeat:
		return raft.Beat
	case api.EvPropose:
		return func(n api.Node) (api.Node, []api.Msg) {
			n, said, _ := raft.Propose(n, e.Pick)
			return n, said
		}
	case api.EvRestart:
		return func(n api.Node) (api.Node, []api.Msg) { return raft.Restart(n), nil }
	}
	return nil
}

func ofMessage(kind int) bool {
	return kind == api.EvDeliver || kind == api.EvCopy || kind == api.EvDrop
}

func (a *work) hasNode(k int) bool {
	return k >= 1 && k <= len(a.Nodes)
}

func (a *work) hasMessage(k int) bool {
	return k >= 0 && k < len(a.Net)
}

// act has node k do something.
func (a *work) act(k int, do deed) {
	n, said := do(a.Nodes[k-1])
	a.Nodes[k-1] = n
	a.Net = append(a.Net, said...)
}

// carry: the message comes, or goes, or both. It goes first: what is said by it stands behind those that are left.
func (a *work) carry(e api.Event) {
	m := a.Net[e.Pick]
	if e.Kind != api.EvCopy {
		a.Net = slices.Delete(a.Net, e.Pick, e.Pick+1)
	}
	if e.Kind != api.EvDrop && a.hasNode(m.To) {
		a.act(m.To, func(n api.Node) (api.Node, []api.Msg) { return raft.Receive(n, m) })
	}
}

// forget lets the oldest messages go, where there are too many.
func (a *work) forget() {
	a.Net = a.Net[max(0, len(a.Net)-api.MaxNet):]
}
