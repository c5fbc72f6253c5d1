package raft

import "verdict/api"

// Wrong tells what is wrong with a node.
func Wrong(n api.Node) api.Errno {
	switch {
	case !numbersFit(n):
		return api.ErrRange
	case !roleFits(n):
		return api.ErrKind
	case len(n.Log) > api.MaxLog:
		return api.ErrMuch
	case !inOrder(n.Log, 1, n.Term):
		return api.ErrForm
	case len(n.Votes) > 0 && n.Role != api.Candidate:
		return api.ErrFit
	case !rising(n.Votes, n.N):
		return api.ErrForm
	case !countsAll(n):
		return api.ErrFit
	case !countsFit(n):
		return api.ErrRange
	}
	return api.OK
}

func numbersFit(n api.Node) bool {
	return within(n.N, 1, api.MaxPeers) &&
		within(n.Id, 1, n.N) &&
		within(n.Vote, 0, n.N) &&
		within(n.Boss, 0, n.N) &&
		within(n.Term, 0, api.MaxTerm) &&
		within(n.Commit, 0, len(n.Log))
}

// roleFits: ahead of the first term nobody can have wanted to lead.
func roleFits(n api.Node) bool {
	return n.Role == api.Follower || n.Term > 0 && within(n.Role, api.Candidate, api.Leader)
}

// countsAll: a leader alone counts what the others have, and of all of them.
func countsAll(n api.Node) bool {
	want := 0
	if n.Role == api.Leader {
		want = n.N
	}
	return len(n.Next) == want && len(n.Match) == want
}

func countsFit(n api.Node) bool {
	for i := range n.Next {
		if !within(n.Next[i], 1, len(n.Log)+1) || !within(n.Match[i], 0, len(n.Log)) {
			return false
		}
	}
	return true
}

// inOrder tells whether the terms of the items are from low to high, and none is less than the one ahead.
func inOrder(l []api.Item, low, high int) bool {
	for _, one := range l {
		if !within(one.Term, low, high) {
			return false
		}
		low = one.Term
	}
	return true
}

// rising tells whether the numbers are from 1 to high, each more than the one ahead.
func rising(l []int, high int) bool {
	low := 1
	for _, x := range l {
		if !within(x, low, high) {
			return false
		}
		low = x + 1
	}
	return true
}

func within(x, low, high int) bool {
	return low <= x && x <= high
}
