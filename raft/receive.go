package raft

import (
	"slices"

	"verdict/api"
)

// heeds tells whether the message is one for it, and its numbers can be.
func (w *work) heeds(m api.Msg) bool {
	return m.To == w.Id &&
		within(m.From, 1, w.N) && m.From != w.Id &&
		within(m.Term, 1, api.MaxTerm) &&
		within(m.Index, 0, api.MaxLog) &&
		m.Commit >= 0 &&
		within(m.LogTerm, 0, m.Term) &&
		m.Index+len(m.Items) <= api.MaxLog &&
		inOrder(m.Items, max(1, m.LogTerm), m.Term)
}

// deed is what it does when a message of that kind comes, nil if there is no such kind.
func (w *work) deed(kind int) func(m api.Msg) {
	switch kind {
	case api.MsgVote:
		return w.vote
	case api.MsgVoted:
		return w.count
	case api.MsgAppend:
		return w.take
	case api.MsgAppended:
		return w.goOn
	}
	return nil
}

// vote: somebody wants to lead. Whose log is older might lack what is sure.
func (w *work) vote(m api.Msg) {
	last := len(w.Log)
	older := m.LogTerm < w.termOf(last) || m.LogTerm == w.termOf(last) && m.Index < last
	yes := m.Term == w.Term && (w.Vote == 0 || w.Vote == m.From) && !older
	if yes {
		w.Vote = m.From
	}
	w.say(api.Msg{Kind: api.MsgVoted, To: m.From, Yes: yes})
}

// count: somebody has voted.
func (w *work) count(m api.Msg) {
	if w.Role != api.Candidate || m.Term != w.Term || !m.Yes {
		return
	}
	if at, found := slices.BinarySearch(w.Votes, m.From); !found {
		w.Votes = slices.Insert(w.Votes, at, m.From)
	}
	w.leadIfMost()
}

// take: a leader says what is in its log.
func (w *work) take(m api.Msg) {
	if m.Term != w.Term || w.Role == api.Leader {
		w.appended(m.From, false, len(w.Log))
		return
	}
	w.follow(m.From)
	if m.Index > len(w.Log) || m.Index > 0 && w.termOf(m.Index) != m.LogTerm {
		w.appended(m.From, false, min(len(w.Log), m.Index-1))
		return
	}
	w.hold(m.Index, m.Items)
	end := m.Index + len(m.Items)
	w.Commit = max(w.Commit, min(m.Commit, end))
	w.appended(m.From, true, end)
}

func (w *work) appended(to int, yes bool, index int) {
	w.say(api.Msg{Kind: api.MsgAppended, To: to, Yes: yes, Index: index})
}

// hold holds items against those behind item index. What is there already stays, and what follows it too: an older message may have come late.
func (w *work) hold(index int, items []api.Item) {
	for i, one := range items {
		if at := index + i; w.termOf(at+1) != one.Term {
			w.Log = append(w.Log[:at], items[i:]...)
			w.Commit = min(w.Commit, len(w.Log))
			return
		}
	}
}

// goOn: a follower has said how far it is.
func (w *work) goOn(m api.Msg) {
	if w.Role != api.Leader || m.Term != w.Term {
		return
	}
	next, match := &w.Next[m.From-1], &w.Match[m.From-1]
	if !m.Yes {
		*next = max(1, min(*next-1, m.Index+1))
		w.send(m.From)
		return
	}
	*match = max(*match, min(m.Index, len(w.Log)))
	*next = *match + 1
	w.countSure()
	if *next <= len(w.Log) {
		w.send(m.From)
	}
}
