package raft

import (
	"slices"

	"verdict/api"
)

// work is a node at work: the node as it becomes, and what it has said so far.
type work struct {
	api.Node
	said []api.Msg
}

// begin is n at work, and whether nothing is wrong with it. Its lists are copies: whatever comes of it, what is told is the caller's own.
func begin(n api.Node) (*work, bool) {
	sound := Wrong(n) == api.OK
	n.Log, n.Votes = copied(n.Log), copied(n.Votes)
	n.Next, n.Match = copied(n.Next), copied(n.Match)
	return &work{Node: n}, sound
}

func copied[E any](l []E) []E {
	return append([]E(nil), l...)
}

// most is how many are more than half.
func (w *work) most() int {
	return w.N/2 + 1
}

// termOf is the term of an item by its number, 0 where there is none.
func (w *work) termOf(item int) int {
	if !within(item, 1, len(w.Log)) {
		return 0
	}
	return w.Log[item-1].Term
}

func (w *work) say(m api.Msg) {
	m.From, m.Term = w.Id, w.Term
	w.said = append(w.said, m)
}

// others does something for each other node, in order.
func (w *work) others(do func(k int)) {
	for k := 1; k <= w.N; k++ {
		if k != w.Id {
			do(k)
		}
	}
}

// follow makes it a follower of boss (0: of nobody yet).
func (w *work) follow(boss int) {
	w.Role, w.Boss = api.Follower, boss
	w.Votes, w.Next, w.Match = nil, nil, nil
}

// stand makes it a candidate of the next term.
func (w *work) stand() {
	w.Term++
	w.Role, w.Boss = api.Candidate, 0
	w.Vote, w.Votes = w.Id, []int{w.Id}
	w.others(func(k int) {
		last := len(w.Log)
		w.say(api.Msg{Kind: api.MsgVote, To: k, Index: last, LogTerm: w.termOf(last)})
	})
	w.leadIfMost()
}

// leadIfMost makes it a leader, if most have voted for it. Its own term's items alone can become sure, so it puts one there at once.
func (w *work) leadIfMost() {
	if len(w.Votes) < w.most() {
		return
	}
	w.Role, w.Boss, w.Votes = api.Leader, w.Id, nil
	w.Next = slices.Repeat([]int{len(w.Log) + 1}, w.N)
	w.Match = make([]int, w.N)
	w.put(0)
}

// put has a leader put an item there, if there is room, and lets the others know.
func (w *work) put(cmd int) {
	if len(w.Log) < api.MaxLog {
		w.Log = append(w.Log, api.Item{Term: w.Term, Cmd: cmd})
	}
	w.Match[w.Id-1] = len(w.Log)
	w.Next[w.Id-1] = len(w.Log) + 1
	w.countSure()
	w.others(w.send)
}

// send has a leader send node k what it may lack.
func (w *work) send(k int) {
	from := w.Next[k-1] - 1
	to := min(from+api.MaxBatch, len(w.Log))
	w.say(api.Msg{
		Kind:    api.MsgAppend,
		To:      k,
		Index:   from,
		LogTerm: w.termOf(from),
		Commit:  w.Commit,
		Items:   copied(w.Log[from:to]),
	})
}

// countSure has a leader count how far most nodes are. An item of an older term is not sure by that: who lacks it may still be voted for.
func (w *work) countSure() {
	far := copied(w.Match)
	slices.Sort(far)
	last := far[w.N-w.most()]
	if last > w.Commit && w.termOf(last) == w.Term {
		w.Commit = last
	}
}
