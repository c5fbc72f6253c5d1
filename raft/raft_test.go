package raft_test

import (
	"fmt"
	"math"
	"reflect"
	"sync"
	"testing"

	"verdict/api"
	"verdict/raft"
)

// items has an item of each term, each with a Cmd of its own.
func items(terms ...int) []api.Item {
	var l []api.Item
	for i, term := range terms {
		l = append(l, api.Item{Term: term, Cmd: 10*term + i})
	}
	return l
}

func many(n, term int) []api.Item {
	l := make([]api.Item, n)
	for i := range l {
		l[i] = api.Item{Term: term, Cmd: i}
	}
	return l
}

func ints(l ...int) []int { return l }

func list(l ...api.Item) []api.Item { return l }

// follower, candidate and leader are nodes with which nothing is wrong.
func follower() api.Node {
	return api.Node{Id: 2, N: 3, Term: 4, Vote: 1, Log: items(1, 1, 3, 3), Commit: 2, Role: api.Follower, Boss: 1}
}

func candidate() api.Node {
	return api.Node{Id: 3, N: 5, Term: 4, Vote: 3, Log: items(1, 1, 3), Commit: 1, Role: api.Candidate, Votes: ints(3, 5)}
}

func leader() api.Node {
	return api.Node{
		Id: 1, N: 3, Term: 4, Vote: 1, Log: items(1, 1, 3, 4, 4, 4), Commit: 2, Role: api.Leader, Boss: 1,
		Next: ints(7, 3, 7), Match: ints(6, 2, 0),
	}
}

// with is n with something about it changed.
func with(n api.Node, change func(n *api.Node)) api.Node {
	change(&n)
	return n
}

// alike holds what is told against each other: a list without entries is as none.
func alike(a, b any) bool { return fmt.Sprintf("%+v", a) == fmt.Sprintf("%+v", b) }

func same(t *testing.T, what string, got api.Node, said []api.Msg, want api.Node, wantSaid []api.Msg) {
	t.Helper()
	if !alike(got, want) || !alike(said, wantSaid) {
		t.Errorf("%s:\n%+v\n%+v comes, not\n%+v\n%+v", what, got, said, want, wantSaid)
	}
	if err := raft.Wrong(got); err != raft.Wrong(want) {
		t.Errorf("%s: %d is wrong", what, err)
	}
}

// receives asks Receive of what becomes of a node, and of what it says.
func receives(t *testing.T, what string, n api.Node, m api.Msg, want api.Node, said ...api.Msg) {
	t.Helper()
	got, out := raft.Receive(n, m)
	same(t, what, got, out, want, said)
}

func TestP1Start(t *testing.T) {
	for _, c := range []struct {
		id, n int
		err   api.Errno
	}{
		{1, 1, api.OK}, {1, 3, api.OK}, {3, 3, api.OK}, {5, 5, api.OK},
		{0, 3, api.ErrRange}, {4, 3, api.ErrRange}, {1, 0, api.ErrRange}, {1, 6, api.ErrRange},
		{math.MinInt, math.MaxInt, api.ErrRange}, {0, 0, api.ErrRange}, {-1, -1, api.ErrRange},
	} {
		n := raft.Start(c.id, c.n)
		if !reflect.DeepEqual(n, api.Node{Id: c.id, N: c.n, Role: api.Follower}) {
			t.Errorf("%d of %d: %+v", c.id, c.n, n)
		}
		if err := raft.Wrong(n); err != c.err {
			t.Errorf("%d of %d: %d is wrong", c.id, c.n, err)
		}
	}
}

// faulty is a node, and what is wrong with it.
type faulty struct {
	what string
	node api.Node
	err  api.Errno
}

func change(what string, err api.Errno, n api.Node, do func(n *api.Node)) faulty {
	return faulty{what, with(n, do), err}
}

func faultyNumbers() []faulty {
	return []faulty{
		change("N 0", api.ErrRange, follower(), func(n *api.Node) { n.N = 0 }),
		change("N 6", api.ErrRange, follower(), func(n *api.Node) { n.N = 6 }),
		change("N -1", api.ErrRange, follower(), func(n *api.Node) { n.N = -1 }),
		change("Id 0", api.ErrRange, follower(), func(n *api.Node) { n.Id = 0 }),
		change("Id 3", api.OK, follower(), func(n *api.Node) { n.Id = 3 }),
		change("Id 4", api.ErrRange, follower(), func(n *api.Node) { n.Id = 4 }),
		change("Vote -1", api.ErrRange, follower(), func(n *api.Node) { n.Vote = -1 }),
		change("Vote 0", api.OK, follower(), func(n *api.Node) { n.Vote = 0 }),
		change("Vote 3", api.OK, follower(), func(n *api.Node) { n.Vote = 3 }),
		change("Vote 4", api.ErrRange, follower(), func(n *api.Node) { n.Vote = 4 }),
		change("Boss -1", api.ErrRange, follower(), func(n *api.Node) { n.Boss = -1 }),
		change("Boss 0", api.OK, follower(), func(n *api.Node) { n.Boss = 0 }),
		change("Boss 3", api.OK, follower(), func(n *api.Node) { n.Boss = 3 }),
		change("Boss 4", api.ErrRange, follower(), func(n *api.Node) { n.Boss = 4 }),
		change("Term -1", api.ErrRange, follower(), func(n *api.Node) { n.Term = -1 }),
		change("Term 1000000", api.OK, follower(), func(n *api.Node) { n.Term = 1000000 }),
		change("Term 1000001", api.ErrRange, follower(), func(n *api.Node) { n.Term = 1000001 }),
		change("Commit -1", api.ErrRange, follower(), func(n *api.Node) { n.Commit = -1 }),
		change("Commit 0", api.OK, follower(), func(n *api.Node) { n.Commit = 0 }),
		change("Commit 4", api.OK, follower(), func(n *api.Node) { n.Commit = 4 }),
		change("Commit 5", api.ErrRange, follower(), func(n *api.Node) { n.Commit = 5 }),
		change("greatest", api.ErrRange, follower(), func(n *api.Node) { n.Commit = math.MaxInt }),
	}
}

func faultyLists() []faulty {
	return []faulty{
		change("Role 0", api.ErrKind, follower(), func(n *api.Node) { n.Role = 0 }),
		change("Role 4", api.ErrKind, follower(), func(n *api.Node) { n.Role = 4 }),
		change("Role -1", api.ErrKind, follower(), func(n *api.Node) { n.Role = -1 }),
		{"candidate of no term", api.Node{Id: 1, N: 1, Role: api.Candidate}, api.ErrKind},
		{"leader of no term", api.Node{Id: 1, N: 1, Role: api.Leader, Next: ints(1), Match: ints(0)}, api.ErrKind},
		{"candidate", api.Node{Id: 1, N: 1, Term: 1, Role: api.Candidate}, api.OK},
		{"leader", api.Node{Id: 1, N: 1, Term: 1, Role: api.Leader, Next: ints(1), Match: ints(0)}, api.OK},
		change("60 items", api.OK, follower(), func(n *api.Node) { n.Log = many(60, 1) }),
		change("61 items", api.ErrMuch, follower(), func(n *api.Node) { n.Log = many(61, 1) }),
		change("term 0", api.ErrForm, follower(), func(n *api.Node) { n.Log = items(0, 1) }),
		change("term 5", api.ErrForm, follower(), func(n *api.Node) { n.Log = items(1, 5) }),
		change("term 4", api.OK, follower(), func(n *api.Node) { n.Log = items(1, 4) }),
		change("falling terms", api.ErrForm, follower(), func(n *api.Node) { n.Log = items(1, 3, 2) }),
		change("an item of no term", api.ErrForm, raft.Start(1, 1), func(n *api.Node) { n.Log = items(0) }),
		change("an item ahead of terms", api.ErrForm, raft.Start(1, 1), func(n *api.Node) { n.Log = items(1) }),
		change("a follower's votes", api.ErrFit, follower(), func(n *api.Node) { n.Votes = ints(1) }),
		change("a leader's votes", api.ErrFit, leader(), func(n *api.Node) { n.Votes = ints(1) }),
		change("no votes", api.OK, candidate(), func(n *api.Node) { n.Votes = nil }),
		change("all votes", api.OK, candidate(), func(n *api.Node) { n.Votes = ints(1, 2, 3, 4, 5) }),
		change("vote 0", api.ErrForm, candidate(), func(n *api.Node) { n.Votes = ints(0, 1) }),
		change("vote 6", api.ErrForm, candidate(), func(n *api.Node) { n.Votes = ints(1, 6) }),
		change("a vote twice", api.ErrForm, candidate(), func(n *api.Node) { n.Votes = ints(2, 2) }),
		change("falling votes", api.ErrForm, candidate(), func(n *api.Node) { n.Votes = ints(3, 2) }),
		change("greatest vote", api.ErrForm, candidate(), func(n *api.Node) { n.Votes = ints(math.MaxInt, math.MinInt) }),
	}
}

func faultyCounts() []faulty {
	return []faulty{
		change("a follower's Next", api.ErrFit, follower(), func(n *api.Node) { n.Next = ints(1, 1, 1) }),
		change("a follower's Match", api.ErrFit, follower(), func(n *api.Node) { n.Match = ints(1, 1, 1) }),
		change("a candidate's Next", api.ErrFit, candidate(), func(n *api.Node) { n.Next = ints(1) }),
		change("a candidate's Match", api.ErrFit, candidate(), func(n *api.Node) { n.Match = ints(1) }),
		change("no Next", api.ErrFit, leader(), func(n *api.Node) { n.Next = nil }),
		change("no Match", api.ErrFit, leader(), func(n *api.Node) { n.Match = nil }),
		change("Next too short", api.ErrFit, leader(), func(n *api.Node) { n.Next = ints(1, 1) }),
		change("Next too long", api.ErrFit, leader(), func(n *api.Node) { n.Next = ints(1, 1, 1, 1) }),
		change("Match too short", api.ErrFit, leader(), func(n *api.Node) { n.Match = ints(1, 1) }),
		change("Match too long", api.ErrFit, leader(), func(n *api.Node) { n.Match = ints(1, 1, 1, 1) }),
		change("Next 0", api.ErrRange, leader(), func(n *api.Node) { n.Next = ints(1, 1, 0) }),
		change("Next 1", api.OK, leader(), func(n *api.Node) { n.Next = ints(1, 1, 1) }),
		change("Next 7", api.OK, leader(), func(n *api.Node) { n.Next = ints(7, 7, 7) }),
		change("Next 8", api.ErrRange, leader(), func(n *api.Node) { n.Next = ints(8, 7, 7) }),
		change("Match -1", api.ErrRange, leader(), func(n *api.Node) { n.Match = ints(0, -1, 0) }),
		change("Match 0", api.OK, leader(), func(n *api.Node) { n.Match = ints(0, 0, 0) }),
		change("Match 6", api.OK, leader(), func(n *api.Node) { n.Match = ints(6, 6, 6) }),
		change("Match 7", api.ErrRange, leader(), func(n *api.Node) { n.Match = ints(6, 6, 7) }),
	}
}

func faultyAll() []faulty {
	l := append(faultyNumbers(), faultyLists()...)
	return append(l, faultyCounts()...)
}

func TestP1Wrong(t *testing.T) {
	for _, n := range []api.Node{follower(), candidate(), leader(), raft.Start(1, 1)} {
		if err := raft.Wrong(n); err != api.OK {
			t.Errorf("%d is wrong with %+v", err, n)
		}
	}
	for _, c := range faultyAll() {
		if err := raft.Wrong(c.node); err != c.err {
			t.Errorf("%s: %d is wrong, not %d", c.what, err, c.err)
		}
	}
}

// What is wrong is told in the chapter's order: each of these has all that is wrong with those below it, too.
func TestP1OrderOfErrors(t *testing.T) {
	n := leader()
	steps := []struct {
		err  api.Errno
		mend func()
	}{
		{api.ErrRange, func() { n.Commit = 0 }},
		{api.ErrKind, func() { n.Role = api.Leader }},
		{api.ErrMuch, func() { n.Log = items(1, 2, 1) }},
		{api.ErrForm, func() { n.Log = items(1, 2, 3) }},
		{api.ErrFit, func() { n.Role = api.Candidate }},
		{api.ErrForm, func() { n.Votes = ints(1, 2) }},
		{api.ErrFit, func() { n.Role, n.Votes, n.Next, n.Match = api.Leader, nil, ints(1, 5, 1), ints(0, 0, 0) }},
		{api.ErrRange, func() { n.Next[1] = 4 }},
	}
	n.Commit, n.Role, n.Log = 100, 4, items(append(make([]int, 61), 2, 1)...)
	n.Votes, n.Next, n.Match = ints(2, 1), ints(0), ints(9)
	for i, step := range steps {
		if err := raft.Wrong(n); err != step.err {
			t.Errorf("step %d: %d is wrong, not %d", i, err, step.err)
		}
		step.mend()
	}
	if err := raft.Wrong(n); err != api.OK {
		t.Errorf("%d is wrong in the end", err)
	}
}

func TestP1WrongNodesStay(t *testing.T) {
	for _, c := range faultyAll() {
		if c.err == api.OK {
			continue
		}
		n, said := raft.Timeout(c.node)
		same(t, "Timeout "+c.what, n, said, c.node, nil)
		n, said = raft.Beat(c.node)
		same(t, "Beat "+c.what, n, said, c.node, nil)
		n, said, ok := raft.Propose(c.node, 7)
		same(t, "Propose "+c.what, n, said, c.node, nil)
		if ok {
			t.Errorf("%s is proposed to", c.what)
		}
		same(t, "Restart "+c.what, raft.Restart(c.node), nil, c.node, nil)
		for kind := api.MsgVote; kind <= api.MsgAppended; kind++ {
			m := api.Msg{Kind: kind, From: 3 - c.node.Id, To: c.node.Id, Term: 9, Yes: true}
			receives(t, "Receive "+c.what, c.node, m, c.node)
		}
	}
}

func TestP2P3AloneItLeads(t *testing.T) {
	n, said := raft.Timeout(raft.Start(1, 1))
	want := api.Node{
		Id: 1, N: 1, Term: 1, Vote: 1, Log: []api.Item{{Term: 1}}, Commit: 1,
		Role: api.Leader, Boss: 1, Next: ints(2), Match: ints(1),
	}
	same(t, "alone", n, said, want, nil)
	n, said, ok := raft.Propose(n, -7)
	want.Log = append(want.Log, api.Item{Term: 1, Cmd: -7})
	want.Commit, want.Next, want.Match = 2, ints(3), ints(2)
	same(t, "proposed", n, said, want, nil)
	if !ok {
		t.Error("nothing is proposed")
	}
}

func TestP2LeadsWithAFullLog(t *testing.T) {
	n := api.Node{Id: 1, N: 1, Term: 1, Log: many(60, 1), Commit: 3, Role: api.Follower}
	n, said := raft.Timeout(n)
	want := api.Node{
		Id: 1, N: 1, Term: 2, Vote: 1, Log: many(60, 1), Commit: 3,
		Role: api.Leader, Boss: 1, Next: ints(61), Match: ints(60),
	}
	same(t, "full, and of an older term", n, said, want, nil)
	n.Id, n.N, n.Role, n.Votes, n.Next, n.Match = 2, 3, api.Candidate, ints(2), nil, nil
	got, said := raft.Receive(n, api.Msg{Kind: api.MsgVoted, From: 1, To: 2, Term: 2, Yes: true})
	want.Id, want.N, want.Boss, want.Next, want.Match = 2, 3, 2, ints(61, 61, 61), ints(0, 60, 0)
	same(t, "full, of three", got, said, want, []api.Msg{
		{Kind: api.MsgAppend, From: 2, To: 1, Term: 2, Index: 60, LogTerm: 1, Commit: 3},
		{Kind: api.MsgAppend, From: 2, To: 3, Term: 2, Index: 60, LogTerm: 1, Commit: 3},
	})
}

func TestP2Sends(t *testing.T) {
	n := leader()
	for _, c := range []struct {
		next, logTerm int
		items         []api.Item
	}{
		{1, 0, n.Log[0:3]}, {2, 1, n.Log[1:4]}, {3, 1, n.Log[2:5]}, {4, 3, n.Log[3:6]},
		{5, 4, n.Log[4:6]}, {6, 4, n.Log[5:6]}, {7, 4, nil},
	} {
		n.Next = ints(1, c.next, 7)
		got, said := raft.Beat(n)
		same(t, "Beat", got, said, n, []api.Msg{
			{Kind: api.MsgAppend, From: 1, To: 2, Term: 4, Index: c.next - 1, LogTerm: c.logTerm, Commit: 2, Items: c.items},
			{Kind: api.MsgAppend, From: 1, To: 3, Term: 4, Index: 6, LogTerm: 4, Commit: 2},
		})
	}
}

// What is sure is asked by proposing: Match of the others, and up to where that makes the log sure.
func TestP2Sure(t *testing.T) {
	for _, c := range []struct {
		n            int
		match        []int // of the others
		commit, want int
	}{
		{1, nil, 0, 7},
		{2, ints(0), 0, 0},
		{2, ints(6), 0, 6},
		{2, ints(4), 0, 4},
		{2, ints(3), 0, 0}, // of an older term
		{3, ints(0, 0), 2, 2},
		{3, ints(0, 5), 2, 5},
		{3, ints(5, 0), 2, 5},
		{3, ints(3, 0), 2, 2},
		{3, ints(3, 4), 2, 4},
		{3, ints(4, 6), 6, 6},
		{3, ints(4, 5), 6, 6}, // not beyond Commit
		{4, ints(6, 0, 0), 1, 1},
		{4, ints(6, 4, 0), 1, 4},
		{4, ints(0, 4, 6), 1, 4},
		{4, ints(6, 5, 5), 1, 5},
		{5, ints(6, 6, 0, 0), 0, 6},
		{5, ints(0, 5, 0, 6), 0, 5},
		{5, ints(6, 0, 0, 0), 0, 0},
		{5, ints(4, 5, 6, 6), 0, 6},
		{5, ints(4, 4, 6, 3), 0, 4},
		{5, ints(3, 3, 3, 6), 0, 0},
	} {
		n := leader()
		n.N, n.Commit, n.Match = c.n, c.commit, append(ints(0), c.match...)
		n.Next = make([]int, c.n)
		for i := range n.Next {
			n.Next[i] = 7
		}
		got, said, ok := raft.Propose(n, 1)
		if !ok || got.Commit != c.want || len(got.Log) != 7 {
			t.Errorf("%d, Match %v: Commit %d, not %d", c.n, c.match, got.Commit, c.want)
		}
		for _, m := range said {
			if m.Commit != c.want {
				t.Errorf("%d, Match %v: %d is said", c.n, c.match, m.Commit)
			}
		}
	}
}

func TestP2BecomesLeader(t *testing.T) {
	m := api.Msg{Kind: api.MsgVoted, From: 1, To: 3, Term: 4, Yes: true}
	want := candidate()
	want.Role, want.Boss, want.Votes = api.Leader, 3, nil
	want.Log = append(want.Log, api.Item{Term: 4})
	want.Next, want.Match = ints(4, 4, 5, 4, 4), ints(0, 0, 4, 0, 0)
	var said []api.Msg
	for _, k := range ints(1, 2, 4, 5) {
		said = append(said, api.Msg{
			Kind: api.MsgAppend, From: 3, To: k, Term: 4,
			Index: 3, LogTerm: 3, Commit: 1, Items: []api.Item{{Term: 4}},
		})
	}
	receives(t, "three of five", candidate(), m, want, said...)
}

func TestP3Timeout(t *testing.T) {
	for what, n := range map[string]api.Node{"leader": leader(), "leader of the last term": with(leader(), func(n *api.Node) { n.Term = api.MaxTerm })} {
		got, said := raft.Timeout(n)
		same(t, what, got, said, n, nil)
	}
	for what, n := range map[string]api.Node{"follower": follower(), "candidate": candidate()} {
		n.Term = api.MaxTerm
		got, said := raft.Timeout(n)
		same(t, what, got, said, n, nil)
		n.Term--
		got, said = raft.Timeout(n)
		if got.Term != api.MaxTerm || got.Role != api.Candidate || len(said) != n.N-1 {
			t.Errorf("%s of the last term but one: %+v", what, got)
		}
	}
	want := follower()
	want.Term, want.Role, want.Boss, want.Vote, want.Votes = 5, api.Candidate, 0, 2, ints(2)
	got, said := raft.Timeout(follower())
	same(t, "follower", got, said, want, []api.Msg{
		{Kind: api.MsgVote, From: 2, To: 1, Term: 5, Index: 4, LogTerm: 3},
		{Kind: api.MsgVote, From: 2, To: 3, Term: 5, Index: 4, LogTerm: 3},
	})
	want = candidate()
	want.Term, want.Votes = 5, ints(3)
	got, said = raft.Timeout(candidate())
	var wantSaid []api.Msg
	for _, k := range ints(1, 2, 4, 5) {
		wantSaid = append(wantSaid, api.Msg{Kind: api.MsgVote, From: 3, To: k, Term: 5, Index: 3, LogTerm: 3})
	}
	same(t, "candidate", got, said, want, wantSaid)
	got, said = raft.Timeout(raft.Start(1, 2))
	want = api.Node{Id: 1, N: 2, Term: 1, Vote: 1, Role: api.Candidate, Votes: ints(1)}
	same(t, "of two", got, said, want, []api.Msg{{Kind: api.MsgVote, From: 1, To: 2, Term: 1}})
}

func TestP3BeatAndProposeOfNoLeader(t *testing.T) {
	for what, n := range map[string]api.Node{"follower": follower(), "candidate": candidate(), "new": raft.Start(1, 1)} {
		got, said := raft.Beat(n)
		same(t, "Beat "+what, got, said, n, nil)
		got, said, ok := raft.Propose(n, 3)
		same(t, "Propose "+what, got, said, n, nil)
		if ok {
			t.Errorf("%s is proposed to", what)
		}
	}
}

func TestP3Propose(t *testing.T) {
	want := leader()
	want.Log = append(want.Log, api.Item{Term: 4, Cmd: 99})
	want.Next, want.Match = ints(8, 3, 7), ints(7, 2, 0)
	got, said, ok := raft.Propose(leader(), 99)
	same(t, "Propose", got, said, want, []api.Msg{
		{Kind: api.MsgAppend, From: 1, To: 2, Term: 4, Index: 2, LogTerm: 1, Commit: 2, Items: want.Log[2:5]},
		{Kind: api.MsgAppend, From: 1, To: 3, Term: 4, Index: 6, LogTerm: 4, Commit: 2, Items: want.Log[6:]},
	})
	if !ok {
		t.Error("nothing is proposed")
	}
	full := with(leader(), func(n *api.Node) { n.Log = many(60, 4) })
	got, said, ok = raft.Propose(full, 1)
	same(t, "full", got, said, full, nil)
	if ok {
		t.Error("a full log takes one more")
	}
	full.Log = full.Log[:59]
	got, said, ok = raft.Propose(full, 1)
	if !ok || len(got.Log) != 60 || len(said) != 2 {
		t.Errorf("one is left, and %v, %d items come", ok, len(got.Log))
	}
}

func TestP3Restart(t *testing.T) {
	for what, n := range map[string]api.Node{"follower": follower(), "candidate": candidate(), "leader": leader(), "new": raft.Start(2, 5)} {
		want := api.Node{Id: n.Id, N: n.N, Term: n.Term, Vote: n.Vote, Log: n.Log, Role: api.Follower}
		same(t, what, raft.Restart(n), nil, want, nil)
	}
}

// heedless are messages of which nothing comes: each has one thing about it, and without that something would come of it.
func heedless() map[string]api.Msg {
	l := map[string]api.Msg{}
	add := func(what string, change func(m *api.Msg)) {
		m := api.Msg{Kind: api.MsgAppend, From: 3, To: 2, Term: 9, Index: 4, LogTerm: 3, Items: items(3, 4), Commit: 5, Yes: true}
		change(&m)
		l[what] = m
	}
	add("To 1", func(m *api.Msg) { m.To = 1 })
	add("To 0", func(m *api.Msg) { m.To = 0 })
	add("From 0", func(m *api.Msg) { m.From = 0 })
	add("From 4", func(m *api.Msg) { m.From = 4 })
	add("From -1", func(m *api.Msg) { m.From = -1 })
	add("From itself", func(m *api.Msg) { m.From = 2 })
	add("kind 0", func(m *api.Msg) { m.Kind = 0 })
	add("kind 5", func(m *api.Msg) { m.Kind = 5 })
	add("kind -1", func(m *api.Msg) { m.Kind = -1 })
	add("Term 0", func(m *api.Msg) { m.Term, m.LogTerm, m.Items = 0, 0, nil })
	add("Term -1", func(m *api.Msg) { m.Term, m.LogTerm, m.Items = -1, 0, nil })
	add("Term 1000001", func(m *api.Msg) { m.Term = 1000001 })
	add("Index -1", func(m *api.Msg) { m.Index = -1 })
	add("Index 61", func(m *api.Msg) { m.Index, m.Items = 61, nil })
	add("greatest Index", func(m *api.Msg) { m.Index = math.MaxInt })
	add("Commit -1", func(m *api.Msg) { m.Commit = -1 })
	add("LogTerm -1", func(m *api.Msg) { m.LogTerm = -1 })
	add("LogTerm above Term", func(m *api.Msg) { m.LogTerm, m.Items = 10, nil })
	add("61 together", func(m *api.Msg) { m.Index = 59 })
	add("61 items", func(m *api.Msg) { m.Index, m.Items = 0, many(61, 4) })
	add("item of no term", func(m *api.Msg) { m.LogTerm, m.Items = 0, items(0, 1) })
	add("item of a term to come", func(m *api.Msg) { m.Items = items(3, 10) })
	add("falling terms", func(m *api.Msg) { m.Items = items(4, 3) })
	add("first item older than LogTerm", func(m *api.Msg) { m.Items = items(2, 4) })
	return l
}

func TestP4NothingHappens(t *testing.T) {
	for what, m := range heedless() {
		receives(t, what, follower(), m, follower())
		for kind := api.MsgVote; kind <= api.MsgAppended && m.Kind == api.MsgAppend; kind++ {
			m.Kind = kind
			receives(t, what, follower(), m, follower())
			m.Kind = api.MsgAppend
		}
	}
}

// The edges of what P4 lets in: of each of these the node takes the term.
func TestP4Heeds(t *testing.T) {
	base := api.Msg{From: 1, To: 2, Term: 9}
	for what, change := range map[string]func(m *api.Msg){
		"plain":              func(m *api.Msg) {},
		"From 3":             func(m *api.Msg) { m.From = 3 },
		"Term 5":             func(m *api.Msg) { m.Term = 5 },
		"Term 1000000":       func(m *api.Msg) { m.Term = 1000000 },
		"Index 60":           func(m *api.Msg) { m.Index = 60 },
		"greatest Commit":    func(m *api.Msg) { m.Commit = math.MaxInt },
		"LogTerm as Term":    func(m *api.Msg) { m.LogTerm = 9 },
		"60 together":        func(m *api.Msg) { m.Index, m.Items = 58, items(3, 4) },
		"60 items":           func(m *api.Msg) { m.Items = many(60, 9) },
		"items as LogTerm":   func(m *api.Msg) { m.LogTerm, m.Items = 9, items(9, 9) },
		"items of all terms": func(m *api.Msg) { m.Items = items(1, 1, 2, 9) },
	} {
		for kind := api.MsgVote; kind <= api.MsgAppended; kind++ {
			m := base
			m.Kind = kind
			change(&m)
			n, _ := raft.Receive(follower(), m)
			if n.Term != m.Term {
				t.Errorf("%s: nothing happens by kind %d", what, kind)
			}
		}
	}
}

// A message that asks for nothing shows what a greater term does.
func TestP4GreaterTerm(t *testing.T) {
	for what, n := range map[string]api.Node{"follower": follower(), "candidate": candidate(), "leader": leader()} {
		want := api.Node{Id: n.Id, N: n.N, Term: 5, Log: n.Log, Commit: n.Commit, Role: api.Follower}
		for _, kind := range ints(api.MsgVoted, api.MsgAppended) {
			from := n.Id%n.N + 1
			receives(t, what, n, api.Msg{Kind: kind, From: from, To: n.Id, Term: 5, Yes: true}, want)
			receives(t, what, n, api.Msg{Kind: kind, From: from, To: n.Id, Term: 3, Yes: true}, n)
		}
	}
}

func TestP5Vote(t *testing.T) {
	// follower's log has 4 items, the last one of term 3; it has voted for 1 in term 4.
	for _, c := range []struct {
		what                       string
		from, term, index, logTerm int
		vote                       int // ahead of it
		yes                        bool
	}{
		{"as far", 1, 4, 4, 3, 0, true},
		{"again", 1, 4, 4, 3, 1, true},
		{"voted for another", 3, 4, 4, 3, 1, false},
		{"voted for itself", 3, 4, 60, 4, 2, false},
		{"longer", 3, 4, 5, 3, 0, true},
		{"shorter", 3, 4, 3, 3, 0, false},
		{"shorter, but newer", 3, 4, 0, 4, 0, true},
		{"longer, but older", 3, 4, 60, 2, 0, false},
		{"empty", 3, 4, 0, 0, 0, false},
		{"an older term", 1, 3, 4, 3, 1, false},
		{"an older term, nobody", 1, 3, 4, 3, 0, false},
		{"a newer term", 3, 5, 4, 3, 1, true},
		{"a newer term, shorter", 3, 5, 3, 3, 1, false},
		{"a newer term, longer and newer", 3, 1000000, 5, 1000000, 1, true},
	} {
		n := follower()
		n.Vote = c.vote
		want := n
		if c.term > 4 {
			want.Term, want.Vote, want.Boss = c.term, 0, 0
		}
		if c.yes {
			want.Vote = c.from
		}
		m := api.Msg{Kind: api.MsgVote, From: c.from, To: 2, Term: c.term, Index: c.index, LogTerm: c.logTerm}
		receives(t, c.what, n, m, want, api.Msg{Kind: api.MsgVoted, From: 2, To: c.from, Term: want.Term, Yes: c.yes})
	}
	fresh := raft.Start(2, 3)
	want := with(fresh, func(n *api.Node) { n.Term, n.Vote = 1, 3 })
	receives(t, "of an empty log", fresh, api.Msg{Kind: api.MsgVote, From: 3, To: 2, Term: 1}, want, api.Msg{Kind: api.MsgVoted, From: 2, To: 3, Term: 1, Yes: true})
}

func TestP5VoteOfCandidatesAndLeaders(t *testing.T) {
	for what, n := range map[string]api.Node{"candidate": candidate(), "leader": leader()} {
		m := api.Msg{Kind: api.MsgVote, From: 2, To: n.Id, Term: 4, Index: 60, LogTerm: 4}
		no := api.Msg{Kind: api.MsgVoted, From: n.Id, To: 2, Term: 4}
		receives(t, what, n, m, n, no)
		m.Term, m.LogTerm, no.Term, no.Yes = 5, 5, 5, true
		want := api.Node{Id: n.Id, N: n.N, Term: 5, Vote: 2, Log: n.Log, Commit: n.Commit, Role: api.Follower}
		receives(t, what, n, m, want, no)
	}
}

func TestP5Voted(t *testing.T) {
	m := func(from, term int, yes bool) api.Msg {
		return api.Msg{Kind: api.MsgVoted, From: from, To: 3, Term: term, Yes: yes}
	}
	receives(t, "no", candidate(), m(1, 4, false), candidate())
	receives(t, "again", candidate(), m(5, 4, true), candidate())
	receives(t, "late", candidate(), m(1, 3, true), candidate())
	one := with(candidate(), func(n *api.Node) { n.Votes = ints(3) })
	receives(t, "below", one, m(1, 4, true), with(one, func(n *api.Node) { n.Votes = ints(1, 3) }))
	receives(t, "above", one, m(4, 4, true), with(one, func(n *api.Node) { n.Votes = ints(3, 4) }))
	none := with(candidate(), func(n *api.Node) { n.Votes = nil })
	receives(t, "the first", none, m(2, 4, true), with(none, func(n *api.Node) { n.Votes = ints(2) }))
	got, said := raft.Receive(with(candidate(), func(n *api.Node) { n.Votes = ints(3, 4, 5) }), m(4, 4, true))
	if got.Role != api.Leader || len(said) != 4 {
		t.Errorf("most have voted, and one of them again: %+v", got)
	}
	for what, n := range map[string]api.Node{"follower": follower(), "leader": leader()} {
		n.Id, n.N = 3, 3
		receives(t, what, n, m(1, 4, true), n)
	}
}

// Of four, two are not most.
func TestP5VotedOfEach(t *testing.T) {
	for n, need := range ints(0, 1, 2, 2, 3, 3) {
		if n == 0 {
			continue
		}
		x, _ := raft.Timeout(raft.Start(1, n))
		for k := 2; k <= n; k++ {
			if leads := x.Role == api.Leader; leads != (k-1 >= need) {
				t.Errorf("%d of %d: %v", k-1, n, leads)
			}
			x, _ = raft.Receive(x, api.Msg{Kind: api.MsgVoted, From: k, To: 1, Term: 1, Yes: true})
		}
		if x.Role != api.Leader {
			t.Errorf("all of %d: %+v", n, x)
		}
	}
}

// appendTo is a message of node 1 to node 2, in term 4.
func appendTo(index, logTerm, commit int, l ...api.Item) api.Msg {
	return api.Msg{Kind: api.MsgAppend, From: 1, To: 2, Term: 4, Index: index, LogTerm: logTerm, Commit: commit, Items: l}
}

func appended(yes bool, index int) api.Msg {
	return api.Msg{Kind: api.MsgAppended, From: 2, To: 1, Term: 4, Yes: yes, Index: index}
}

func TestP5AppendRefused(t *testing.T) {
	n := follower() // 1, 1, 3, 3
	late := appendTo(4, 3, 9)
	late.Term = 3
	receives(t, "late", n, late, n, appended(false, 4))
	lead := with(leader(), func(n *api.Node) { n.Id, n.Next, n.Match = 2, ints(7, 7, 3), ints(0, 6, 2) })
	receives(t, "a leader", lead, appendTo(4, 3, 9), lead, appended(false, 6))
	receives(t, "beyond the log", n, appendTo(5, 3, 9), n, appended(false, 4))
	receives(t, "far beyond the log", n, appendTo(60, 3, 9), n, appended(false, 4))
	receives(t, "another term at the end", n, appendTo(4, 4, 9, items(4)...), n, appended(false, 3))
	receives(t, "another term within", n, appendTo(2, 2, 9, items(3)...), n, appended(false, 1))
	receives(t, "another term at the beginning", n, appendTo(1, 0, 9, items(1)...), n, appended(false, 0))
	empty := with(n, func(n *api.Node) { n.Log, n.Commit = nil, 0 })
	receives(t, "nothing there", empty, appendTo(1, 1, 9), empty, appended(false, 0))
}

func TestP5AppendIsHeldAgainst(t *testing.T) {
	log := follower().Log // 1, 1, 3, 3
	x := func(term, cmd int) api.Item { return api.Item{Term: term, Cmd: cmd} }
	for _, c := range []struct {
		what   string
		m      api.Msg
		log    []api.Item
		commit int
	}{
		{"nothing behind nothing", appendTo(0, 0, 0), log, 2},
		{"nothing behind nothing, of some term", appendTo(0, 2, 0), log, 2},
		{"nothing behind the end", appendTo(4, 3, 0), log, 2},
		{"one more", appendTo(4, 3, 0, x(3, 7)), append(log[:4:4], x(3, 7)), 2},
		{"three more", appendTo(4, 3, 0, x(3, 7), x(4, 8), x(4, 9)), append(log[:4:4], x(3, 7), x(4, 8), x(4, 9)), 2},
		{"what is there", appendTo(1, 1, 0, x(1, 7), x(3, 8)), log, 2},
		{"what is there, from the beginning on", appendTo(0, 0, 0, x(1, 7)), log, 2},
		{"all that is there, and more", appendTo(2, 1, 0, x(3, 7), x(3, 8), x(4, 9)), append(log[:4:4], x(4, 9)), 2},
		{"the last one differs", appendTo(3, 3, 0, x(4, 7)), append(log[:3:3], x(4, 7)), 2},
		{"one differs, and what follows goes", appendTo(2, 1, 0, x(4, 7)), append(log[:2:2], x(4, 7)), 2},
		{"the second one differs", appendTo(1, 1, 0, x(1, 6), x(2, 7), x(4, 8)), append(log[:2:2], x(2, 7), x(4, 8)), 2},
		{"all differ", appendTo(0, 0, 0, x(2, 7)), list(x(2, 7)), 1},
		{"the log becomes shorter than what was sure", appendTo(0, 0, 9, x(2, 7)), list(x(2, 7)), 1},
		{"as long as what was sure", appendTo(0, 0, 0, x(2, 7), x(2, 8)), list(x(2, 7), x(2, 8)), 2},
		{"more is sure", appendTo(4, 3, 3), log, 3},
		{"all is sure", appendTo(4, 3, 4), log, 4},
		{"more is sure than is there", appendTo(4, 3, 60), log, 4},
		{"more is sure than is known to be alike", appendTo(2, 1, 60, x(3, 7)), log, 3},
		{"less is sure", appendTo(4, 3, 1), log, 2},
		{"sure up to an end that is less", appendTo(1, 1, 60), log, 2},
		{"new, and sure", appendTo(4, 3, 5, x(3, 7), x(4, 8)), append(log[:4:4], x(3, 7), x(4, 8)), 5},
		{"greatest Commit", appendTo(4, 3, math.MaxInt, x(4, 8)), append(log[:4:4], x(4, 8)), 5},
	} {
		want := with(follower(), func(n *api.Node) { n.Log, n.Commit = c.log, c.commit })
		receives(t, c.what, follower(), c.m, want, appended(true, c.m.Index+len(c.m.Items)))
	}
}

// Who hears of a leader of its term follows it, also if its log does not fit yet.
func TestP5AppendMakesFollowers(t *testing.T) {
	n := with(candidate(), func(n *api.Node) { n.Id, n.Vote, n.Votes = 2, 2, ints(2, 5) })
	want := with(n, func(n *api.Node) { n.Role, n.Boss, n.Votes = api.Follower, 1, nil })
	receives(t, "fits", n, appendTo(3, 3, 0), want, appended(true, 3))
	receives(t, "does not fit", n, appendTo(4, 3, 0), want, appended(false, 3))
	other := with(follower(), func(n *api.Node) { n.Boss = 3 })
	receives(t, "another boss", other, appendTo(4, 3, 0), follower(), appended(true, 4))
	lead := with(leader(), func(n *api.Node) { n.Id, n.Term, n.Log = 2, 3, items(1, 1, 3) })
	lead.Next, lead.Match, lead.Boss, lead.Vote = ints(4, 4, 4), ints(0, 3, 0), 2, 2
	want = api.Node{Id: 2, N: 3, Term: 4, Log: lead.Log, Commit: 2, Role: api.Follower, Boss: 1}
	receives(t, "a leader of an older term", lead, appendTo(3, 3, 0), want, appended(true, 3))
}

func TestP5AppendedYes(t *testing.T) {
	// leader's log: 1, 1, 3, 4, 4, 4; Next 7, 3, 7; Match 6, 2, 0; Commit 2.
	n := leader()
	for _, c := range []struct {
		what                      string
		from, index               int
		next, match, commit, says int // of From; says: the Index of what is sent, below 0: nothing is
	}{
		{"one step", 2, 3, 4, 3, 2, 3},
		{"into its term", 2, 4, 5, 4, 4, 4},
		{"near the end", 2, 5, 6, 5, 5, 5},
		{"all", 2, 6, 7, 6, 6, -1},
		{"more than all", 2, 60, 7, 6, 6, -1},
		{"no more", 2, 2, 3, 2, 2, 2},
		{"less", 2, 1, 3, 2, 2, 2},
		{"nothing", 2, 0, 3, 2, 2, 2},
		{"of one that was thought to have all", 3, 2, 3, 2, 2, 2},
		{"all of the other", 3, 6, 7, 6, 6, -1},
		{"nothing of one that was thought to have all", 3, 0, 1, 0, 2, 0},
	} {
		want := leader()
		want.Next[c.from-1], want.Match[c.from-1], want.Commit = c.next, c.match, c.commit
		var said []api.Msg
		if c.says >= 0 {
			said = append(said, api.Msg{
				Kind: api.MsgAppend, From: 1, To: c.from, Term: 4, Index: c.says, LogTerm: append(ints(0), 1, 1, 3, 4, 4, 4)[c.says],
				Commit: c.commit, Items: n.Log[c.says:min(6, c.says+3)],
			})
		}
		receives(t, c.what, n, api.Msg{Kind: api.MsgAppended, From: c.from, To: 1, Term: 4, Index: c.index, Yes: true}, want, said...)
	}
}

func TestP5AppendedNo(t *testing.T) {
	n := leader()
	for _, c := range []struct {
		what              string
		from, index, next int
	}{
		{"one back", 3, 60, 6}, {"one back, as it says", 3, 5, 6}, {"further back", 3, 4, 5},
		{"far back", 3, 1, 2}, {"to the beginning", 3, 0, 1},
		{"one back of 3", 2, 9, 2}, {"to the beginning of 3", 2, 0, 1},
	} {
		want := leader()
		want.Next[c.from-1] = c.next
		m := api.Msg{Kind: api.MsgAppended, From: c.from, To: 1, Term: 4, Index: c.index}
		receives(t, c.what, n, m, want, api.Msg{
			Kind: api.MsgAppend, From: 1, To: c.from, Term: 4, Index: c.next - 1, LogTerm: append(ints(0), 1, 1, 3, 4, 4, 4)[c.next-1],
			Commit: 2, Items: n.Log[c.next-1 : min(6, c.next+2)],
		})
	}
	first := with(leader(), func(n *api.Node) { n.Next = ints(7, 1, 7) })
	receives(t, "at least 1", first, api.Msg{Kind: api.MsgAppended, From: 2, To: 1, Term: 4, Index: 5}, first,
		api.Msg{Kind: api.MsgAppend, From: 1, To: 2, Term: 4, Commit: 2, Items: first.Log[:3]})
}

func TestP5AppendedToNoLeader(t *testing.T) {
	for _, yes := range []bool{false, true} {
		for what, n := range map[string]api.Node{"follower": follower(), "candidate": candidate()} {
			receives(t, what, n, api.Msg{Kind: api.MsgAppended, From: 1, To: n.Id, Term: 4, Index: 3, Yes: yes}, n)
		}
		receives(t, "late", leader(), api.Msg{Kind: api.MsgAppended, From: 2, To: 1, Term: 3, Index: 6, Yes: yes}, leader())
	}
}

// roomy is l with spare room behind it that something stands in.
func roomy[E any](l []E, spare E) []E {
	l = append(append([]E(nil), l...), spare, spare, spare)
	return l[:len(l)-3]
}

func roomyNode(n api.Node) api.Node {
	n.Log, n.Votes = roomy(n.Log, api.Item{Term: 77, Cmd: 77}), roomy(n.Votes, 77)
	n.Next, n.Match = roomy(n.Next, 77), roomy(n.Match, 77)
	return n
}

// whole is all of a node's and a message's lists, with their spare room.
func whole(n api.Node, m api.Msg) string {
	return fmt.Sprint(n, m, n.Log[:cap(n.Log)], n.Votes[:cap(n.Votes)], n.Next[:cap(n.Next)], n.Match[:cap(n.Match)], m.Items[:cap(m.Items)])
}

// blot writes over all that was told, and its spare room.
func blot(n api.Node, said []api.Msg) {
	overItems := func(l []api.Item) {
		for i := range l[:cap(l)] {
			l[:cap(l)][i] = api.Item{Term: -5, Cmd: -5}
		}
	}
	over := func(l []int) {
		for i := range l[:cap(l)] {
			l[:cap(l)][i] = -5
		}
	}
	overItems(n.Log)
	over(n.Votes)
	over(n.Next)
	over(n.Match)
	for _, m := range said {
		overItems(m.Items)
	}
}

// calls are all calls that change nodes.
func calls() []func(n api.Node, m api.Msg) (api.Node, []api.Msg) {
	return []func(n api.Node, m api.Msg) (api.Node, []api.Msg){
		func(n api.Node, m api.Msg) (api.Node, []api.Msg) { return raft.Timeout(n) },
		func(n api.Node, m api.Msg) (api.Node, []api.Msg) { return raft.Beat(n) },
		func(n api.Node, m api.Msg) (api.Node, []api.Msg) {
			n, said, _ := raft.Propose(n, 5)
			return n, said
		},
		func(n api.Node, m api.Msg) (api.Node, []api.Msg) { return raft.Restart(n), nil },
		raft.Receive,
	}
}

func someMessages(id int) []api.Msg {
	var l []api.Msg
	for kind := 0; kind <= 4; kind++ {
		for _, term := range ints(3, 4, 5) {
			for _, index := range ints(0, 2, 3, 4, 6) {
				m := api.Msg{Kind: kind, From: id%3 + 1, To: id, Term: term, Index: index, LogTerm: min(index, 3), Yes: index != 4, Commit: 9}
				m.Items = roomy(items(3, 3, 3), api.Item{Term: 3, Cmd: 66})
				l = append(l, m)
			}
		}
	}
	return l
}

func TestZ2OnlyRead(t *testing.T) {
	for _, n := range []api.Node{follower(), candidate(), leader(), with(leader(), func(n *api.Node) { n.Commit = 77 })} {
		for i, call := range calls() {
			for _, m := range someMessages(n.Id) {
				plain := m
				plain.Items = append([]api.Item(nil), m.Items...)
				want, wantSaid := call(n, plain)
				in := roomyNode(n)
				before := whole(in, m)
				got, said := call(in, m)
				if !alike(got, want) || !alike(said, wantSaid) {
					t.Errorf("call %d: spare room is looked at", i)
				}
				blot(got, said)
				if whole(in, m) != before {
					t.Errorf("call %d: what was handed in has changed", i)
				}
			}
		}
	}
}

func TestZ2AnswersAreNewMemory(t *testing.T) {
	for _, n := range []api.Node{follower(), candidate(), leader(), with(follower(), func(n *api.Node) { n.N = 0 })} {
		for i, call := range calls() {
			for _, m := range someMessages(n.Id) {
				got, said := call(roomyNode(n), m)
				for k := range said {
					told := fmt.Sprint(got, said[:k], said[k+1:])
					blot(api.Node{}, said[k:k+1])
					if fmt.Sprint(got, said[:k], said[k+1:]) != told {
						t.Errorf("call %d: message %d shares its items", i, k)
					}
				}
				told := fmt.Sprint(said)
				blot(got, nil)
				if fmt.Sprint(said) != told {
					t.Errorf("call %d: the node shares its log", i)
				}
			}
		}
	}
}

func TestZ3Empty(t *testing.T) {
	n := raft.Start(2, 3)
	n.Log, n.Votes, n.Next, n.Match = []api.Item{}, ints(), []int{}, []int{}
	for i, call := range calls() {
		m := api.Msg{Kind: api.MsgAppend, From: 1, To: 2, Term: 1, Items: []api.Item{}}
		got, said := call(n, m)
		m.Items = nil
		want, wantSaid := call(raft.Start(2, 3), m)
		if !alike(got, want) || !alike(said, wantSaid) {
			t.Errorf("call %d: %+v, %+v comes", i, got, said)
		}
	}
}

func TestZ1AtOnce(t *testing.T) {
	n, m := leader(), api.Msg{Kind: api.MsgAppended, From: 2, To: 1, Term: 4, Index: 5, Yes: true}
	var group sync.WaitGroup
	for range 8 {
		group.Go(func() {
			for i, call := range calls() {
				got, said := call(n, m)
				want, wantSaid := call(leader(), m)
				if !alike(got, want) || !alike(said, wantSaid) {
					t.Errorf("call %d: %+v, %+v comes", i, got, said)
				}
				blot(got, said)
			}
		})
	}
	group.Wait()
}
