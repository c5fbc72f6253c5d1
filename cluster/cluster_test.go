package cluster_test

import (
	"fmt"
	"math"
	"sync"
	"testing"

	"verdict/api"
	"verdict/cluster"
	"verdict/raft"
)

// alike holds what is told against each other: a list without entries is as none.
func alike(a, b any) bool { return fmt.Sprintf("%+v", a) == fmt.Sprintf("%+v", b) }

func same(t *testing.T, what string, got, want api.World) {
	t.Helper()
	if !alike(got, want) {
		t.Errorf("%s:\n%+v comes, not\n%+v", what, got, want)
	}
}

func world(nodes []api.Node, net ...api.Msg) api.World { return api.World{Nodes: nodes, Net: net} }

// follower, candidate and leader are of term 4, and of three.
func follower(id int) api.Node {
	return api.Node{Id: id, N: 3, Term: 4, Vote: 1, Log: items(1, 1, 3, 3), Commit: 2, Role: api.Follower, Boss: 1}
}

func candidate(id int) api.Node {
	return api.Node{Id: id, N: 3, Term: 4, Vote: id, Log: items(1, 1, 3), Commit: 1, Role: api.Candidate, Votes: []int{id}}
}

func leader(id int) api.Node {
	return api.Node{
		Id: id, N: 3, Term: 4, Vote: id, Log: items(1, 1, 3, 4, 4), Commit: 2, Role: api.Leader, Boss: id,
		Next: []int{6, 3, 6}, Match: []int{5, 2, 0},
	}
}

func items(terms ...int) []api.Item {
	var l []api.Item
	for i, term := range terms {
		l = append(l, api.Item{Term: term, Cmd: 10*term + i})
	}
	return l
}

// some is a world in which each role, and each kind of message, is there.
func some() api.World {
	return world(
		[]api.Node{leader(1), follower(2), candidate(3)},
		api.Msg{Kind: api.MsgVote, From: 3, To: 2, Term: 4, Index: 3, LogTerm: 3},
		api.Msg{Kind: api.MsgAppend, From: 1, To: 2, Term: 4, Index: 4, LogTerm: 3, Items: items(4, 4), Commit: 4},
		api.Msg{Kind: api.MsgVoted, From: 2, To: 3, Term: 4, Yes: true},
		api.Msg{Kind: api.MsgAppended, From: 2, To: 1, Term: 4, Index: 4, Yes: true},
		api.Msg{Kind: api.MsgVote, From: 2, To: 1, Term: 5, Index: 9, LogTerm: 5},
	)
}

// becomes is w with another node k, without message gone (-1: none), and with what is said behind the others.
func becomes(w api.World, k int, n api.Node, gone int, said ...api.Msg) api.World {
	var out api.World
	for i, one := range w.Nodes {
		if i == k-1 {
			one = n
		}
		out.Nodes = append(out.Nodes, one)
	}
	for i, m := range w.Net {
		if i != gone {
			out.Net = append(out.Net, m)
		}
	}
	out.Net = append(out.Net, said...)
	return out
}

func TestQ1Start(t *testing.T) {
	for _, n := range []int{math.MinInt, -1, 0, 6, 7, math.MaxInt} {
		w, err := cluster.Start(n)
		if err != api.ErrRange || !alike(w, api.World{}) {
			t.Errorf("%d: %+v, %d comes", n, w, err)
		}
	}
	for n := 1; n <= 5; n++ {
		w, err := cluster.Start(n)
		var want api.World
		for id := 1; id <= n; id++ {
			want.Nodes = append(want.Nodes, api.Node{Id: id, N: n, Role: api.Follower})
		}
		if err != api.OK {
			t.Errorf("%d: %d comes", n, err)
		}
		same(t, fmt.Sprint(n), w, want)
	}
}

func TestQ1RunErrors(t *testing.T) {
	for _, c := range []struct {
		n, events int
		err       api.Errno
	}{
		{0, 0, api.ErrRange}, {-1, 3, api.ErrRange}, {6, 0, api.ErrRange},
		{0, 301, api.ErrRange}, {6, 301, api.ErrRange},
		{1, 301, api.ErrMany}, {5, 301, api.ErrMany}, {3, 5000, api.ErrMany},
		{1, 300, api.OK}, {3, 300, api.OK}, {3, 0, api.OK},
	} {
		l := make([]api.Event, c.events)
		for i := range l {
			l[i] = api.Event{Kind: api.EvTimeout, Node: 1}
		}
		w, err := cluster.Run(c.n, l)
		if err != c.err {
			t.Errorf("%d nodes, %d events: %d comes, not %d", c.n, c.events, err, c.err)
		}
		if err != api.OK && !alike(w, api.World{}) {
			t.Errorf("%d nodes, %d events: %+v comes beside an error", c.n, c.events, w)
		}
		if err == api.OK && len(w.Nodes) != c.n {
			t.Errorf("%d nodes, %d events: %d nodes come", c.n, c.events, len(w.Nodes))
		}
	}
}

func TestQ1RunIsStepOfEach(t *testing.T) {
	l := []api.Event{
		{Kind: api.EvTimeout, Node: 1}, {Kind: api.EvDeliver}, {Kind: api.EvDeliver, Pick: 1}, {Kind: 9}, {Kind: api.EvPropose, Node: 1, Pick: 7},
		{Kind: api.EvCopy, Pick: 1}, {Kind: api.EvDeliver, Pick: 2}, {Kind: api.EvDrop}, {Kind: api.EvBeat, Node: 1}, {Kind: api.EvRestart, Node: 2},
		{Kind: api.EvDeliver, Pick: 3}, {Kind: api.EvDeliver}, {Kind: api.EvDeliver}, {Kind: api.EvTimeout, Node: 3}, {Kind: api.EvDeliver, Pick: 2},
	}
	for n := 1; n <= 5; n++ {
		want, _ := cluster.Start(n)
		for k := range len(l) + 1 {
			got, err := cluster.Run(n, l[:k])
			if err != api.OK {
				t.Errorf("%d nodes, %d events: %d comes", n, k, err)
			}
			same(t, fmt.Sprintf("%d nodes, %d events", n, k), got, want)
			if k < len(l) {
				want = cluster.Step(want, l[k])
			}
		}
	}
}

// Of three nodes two are enough, and what is sure is known to all who hear of it.
func TestQ1Agree(t *testing.T) {
	w, _ := cluster.Run(3, []api.Event{
		{Kind: api.EvTimeout, Node: 2},
		{Kind: api.EvDrop},             // node 1 never hears of it
		{Kind: api.EvDeliver},          // node 3 is asked
		{Kind: api.EvDeliver},          // node 3 has voted
		{Kind: api.EvDeliver, Pick: 1}, // node 3 takes the first item
		{Kind: api.EvDeliver, Pick: 1}, // and says so
		{Kind: api.EvPropose, Node: 2, Pick: 42},
		{Kind: api.EvDeliver, Pick: 2},
		{Kind: api.EvDeliver, Pick: 2},
	})
	log := []api.Item{{Term: 1}, {Term: 1, Cmd: 42}}
	if n := w.Nodes[1]; n.Role != api.Leader || n.Commit != 2 || !alike(n.Log, log) {
		t.Errorf("%+v leads", n)
	}
	if n := w.Nodes[2]; n.Boss != 2 || n.Commit != 1 || !alike(n.Log, log) {
		t.Errorf("%+v follows", n)
	}
	if !alike(w.Nodes[0], raft.Start(1, 3)) {
		t.Errorf("%+v has heard of something", w.Nodes[0])
	}
	w = cluster.Calm(cluster.Step(w, api.Event{Kind: api.EvBeat, Node: 2}), 300)
	for _, n := range w.Nodes {
		if n.Commit != 2 || !alike(n.Log, log) {
			t.Errorf("all is calm, and %+v is there", n)
		}
	}
}

func TestQ2OfNodes(t *testing.T) {
	for k := 1; k <= 3; k++ {
		w := some()
		n, said := raft.Timeout(w.Nodes[k-1])
		same(t, "EvTimeout", cluster.Step(w, api.Event{Kind: api.EvTimeout, Node: k, Pick: 1}), becomes(w, k, n, -1, said...))
		n, said = raft.Beat(w.Nodes[k-1])
		same(t, "EvBeat", cluster.Step(w, api.Event{Kind: api.EvBeat, Node: k, Pick: 1}), becomes(w, k, n, -1, said...))
		n = raft.Restart(w.Nodes[k-1])
		same(t, "EvRestart", cluster.Step(w, api.Event{Kind: api.EvRestart, Node: k, Pick: 1}), becomes(w, k, n, -1))
		for _, cmd := range []int{0, 1, -1, 8, math.MinInt, math.MaxInt} {
			n, said, _ = raft.Propose(w.Nodes[k-1], cmd)
			same(t, "EvPropose", cluster.Step(w, api.Event{Kind: api.EvPropose, Node: k, Pick: cmd}), becomes(w, k, n, -1, said...))
		}
	}
	w := cluster.Step(some(), api.Event{Kind: api.EvPropose, Node: 1, Pick: 8})
	if last := w.Nodes[0].Log[5]; last != (api.Item{Term: 4, Cmd: 8}) || len(w.Net) != 7 {
		t.Errorf("%v is proposed, and %d messages are there", last, len(w.Net))
	}
}

// Node k is the k-th one, whatever it takes itself for.
func TestQ2NodesByTheirPlace(t *testing.T) {
	w := world([]api.Node{follower(3), follower(1), follower(2)}, api.Msg{Kind: api.MsgVote, From: 2, To: 3, Term: 9})
	got := cluster.Step(w, api.Event{Kind: api.EvTimeout, Node: 1})
	n, said := raft.Timeout(follower(3))
	same(t, "EvTimeout", got, becomes(w, 1, n, -1, said...))
	same(t, "to the third one, which is not node 3", cluster.Step(w, api.Event{Kind: api.EvDeliver}), world(w.Nodes))
	same(t, "and stays", cluster.Step(w, api.Event{Kind: api.EvCopy}), w)
	six := world(append([]api.Node{follower(1), follower(1), follower(1), follower(1), follower(1)}, raft.Start(6, 9)), w.Net...)
	six.Nodes[5].N, six.Nodes[5].Id = 3, 2
	n, said = raft.Timeout(six.Nodes[5])
	same(t, "the sixth one", cluster.Step(six, api.Event{Kind: api.EvTimeout, Node: 6}), becomes(six, 6, n, -1, said...))
}

func TestQ2OfMessages(t *testing.T) {
	w := some()
	for k, m := range w.Net {
		n, said := raft.Receive(w.Nodes[m.To-1], m)
		same(t, "EvDeliver", cluster.Step(w, api.Event{Kind: api.EvDeliver, Node: 9, Pick: k}), becomes(w, m.To, n, k, said...))
		same(t, "EvCopy", cluster.Step(w, api.Event{Kind: api.EvCopy, Node: 9, Pick: k}), becomes(w, m.To, n, -1, said...))
		same(t, "EvDrop", cluster.Step(w, api.Event{Kind: api.EvDrop, Node: 9, Pick: k}), becomes(w, 0, api.Node{}, k))
	}
	got := cluster.Step(w, api.Event{Kind: api.EvDeliver, Pick: 1})
	if n := got.Nodes[1]; len(n.Log) != 6 || n.Commit != 4 || len(got.Net) != 5 || got.Net[4].Kind != api.MsgAppended || !got.Net[4].Yes {
		t.Errorf("%+v comes", got)
	}
}

func TestQ2MessagesToNobody(t *testing.T) {
	for _, to := range []int{0, 4, -1, math.MinInt, math.MaxInt} {
		w := some()
		w.Net[2].To = to
		without := becomes(w, 0, api.Node{}, 2)
		same(t, "EvDeliver", cluster.Step(w, api.Event{Kind: api.EvDeliver, Pick: 2}), without)
		same(t, "EvCopy", cluster.Step(w, api.Event{Kind: api.EvCopy, Pick: 2}), w)
		same(t, "EvDrop", cluster.Step(w, api.Event{Kind: api.EvDrop, Pick: 2}), without)
	}
	w := world(nil, api.Msg{Kind: 1, To: 1}, api.Msg{Kind: 2, To: 1})
	same(t, "no nodes", cluster.Step(w, api.Event{Kind: api.EvDeliver}), world(nil, w.Net[1]))
}

func TestQ2NothingHappens(t *testing.T) {
	w := some()
	for _, kind := range []int{api.EvTimeout, api.EvBeat, api.EvPropose, api.EvRestart} {
		for _, k := range []int{0, -1, 4, 5, math.MinInt, math.MaxInt} {
			same(t, fmt.Sprintf("kind %d of node %d", kind, k), cluster.Step(w, api.Event{Kind: kind, Node: k, Pick: 1}), w)
		}
	}
	for _, kind := range []int{api.EvDeliver, api.EvCopy, api.EvDrop} {
		for _, k := range []int{-1, 5, 6, math.MinInt, math.MaxInt} {
			same(t, fmt.Sprintf("kind %d of message %d", kind, k), cluster.Step(w, api.Event{Kind: kind, Node: 1, Pick: k}), w)
		}
	}
	for _, kind := range []int{0, -1, 8, 9, math.MinInt, math.MaxInt} {
		same(t, fmt.Sprintf("kind %d", kind), cluster.Step(w, api.Event{Kind: kind, Node: 1, Pick: 1}), w)
	}
	for kind := range 9 {
		same(t, fmt.Sprintf("kind %d of nothing", kind), cluster.Step(api.World{}, api.Event{Kind: kind, Node: 1}), api.World{})
	}
}

// A node with which something is wrong stays as it is; a message that comes to it is gone.
func TestQ2WrongNodes(t *testing.T) {
	w := some()
	w.Nodes[0].Next = nil
	w.Nodes[1].Commit = 99
	w.Nodes[2] = api.Node{}
	for kind := range 9 {
		for k := range 4 {
			want := w
			if kind == api.EvDeliver || kind == api.EvDrop {
				want = becomes(w, 0, api.Node{}, 2)
			}
			same(t, fmt.Sprintf("kind %d of node %d", kind, k), cluster.Step(w, api.Event{Kind: kind, Node: k, Pick: 2}), want)
		}
	}
}

// numbered are messages to nobody, told apart by their Index.
func numbered(n int) []api.Msg {
	l := make([]api.Msg, n)
	for i := range l {
		l[i] = api.Msg{Kind: api.MsgVoted, Index: i}
	}
	return l
}

func TestQ2TheOldestGo(t *testing.T) {
	for _, c := range []struct {
		net, gone int
	}{
		{0, 0}, {57, 0}, {58, 0}, {59, 1}, {60, 2}, {61, 3}, {200, 142},
	} {
		w := world([]api.Node{leader(1), follower(2), follower(3)}, numbered(c.net)...)
		n, said := raft.Beat(leader(1))
		want := becomes(w, 1, n, -1, said...)
		want.Net = want.Net[c.gone:]
		same(t, fmt.Sprintf("%d messages, and two more", c.net), cluster.Step(w, api.Event{Kind: api.EvBeat, Node: 1}), want)
	}
}

// Whether there are too many is asked when a message is gone, and what is said by it has come.
func TestQ2TheOldestGoByMessages(t *testing.T) {
	for _, pick := range []int{0, 1, 30, 59} {
		w := world([]api.Node{follower(1), follower(2), follower(3)}, numbered(60)...)
		m := api.Msg{Kind: api.MsgVote, From: 3, To: 2, Term: 4}
		w.Net[pick] = m
		n, said := raft.Receive(follower(2), m)
		same(t, "EvDeliver", cluster.Step(w, api.Event{Kind: api.EvDeliver, Pick: pick}), becomes(w, 2, n, pick, said...))
		same(t, "EvCopy", cluster.Step(w, api.Event{Kind: api.EvCopy, Pick: pick}), becomes(w, 2, n, 0, said...))
		same(t, "EvDrop", cluster.Step(w, api.Event{Kind: api.EvDrop, Pick: pick}), becomes(w, 0, api.Node{}, pick))
	}
}

// More than MaxNet messages can be there only where a world was made by hand: they go with whatever happens, and stay where nothing does.
func TestQ2TooManyMessagesAtFirst(t *testing.T) {
	nodes := []api.Node{follower(1), follower(2), follower(3)}
	w := world(nodes, numbered(70)...)
	for _, kind := range []int{api.EvBeat, api.EvPropose} { // of a follower: nothing is said
		same(t, fmt.Sprintf("kind %d", kind), cluster.Step(w, api.Event{Kind: kind, Node: 2}), world(nodes, w.Net[10:]...))
	}
	for _, kind := range []int{api.EvDeliver, api.EvDrop} {
		same(t, fmt.Sprintf("kind %d", kind), cluster.Step(w, api.Event{Kind: kind, Pick: 3}), world(nodes, w.Net[10:]...))
		without := becomes(world(nodes, w.Net[9:]...), 0, api.Node{}, 11)
		same(t, fmt.Sprintf("kind %d", kind), cluster.Step(w, api.Event{Kind: kind, Pick: 20}), without)
	}
	same(t, "EvCopy", cluster.Step(w, api.Event{Kind: api.EvCopy, Pick: 3}), world(nodes, w.Net[10:]...))
	for kind := range 9 {
		same(t, fmt.Sprintf("kind %d of none", kind), cluster.Step(w, api.Event{Kind: kind, Node: 4, Pick: 70}), w)
	}
	same(t, "Calm of none", cluster.Calm(w, 0), w)
	same(t, "Calm of one", cluster.Calm(w, 1), world(nodes, w.Net[10:]...))
	same(t, "Calm of two", cluster.Calm(w, 2), world(nodes, w.Net[11:]...))
}

func steps(w api.World, n int) api.World {
	for range n {
		w = cluster.Step(w, api.Event{Kind: api.EvDeliver})
	}
	return w
}

func TestQ2Calm(t *testing.T) {
	for _, most := range []int{math.MinInt, -1, 0} {
		same(t, fmt.Sprint(most), cluster.Calm(some(), most), some())
	}
	for most := 1; most <= 30; most++ {
		same(t, fmt.Sprint(most), cluster.Calm(some(), most), steps(some(), most))
	}
	w := cluster.Calm(some(), math.MaxInt)
	if len(w.Net) != 0 {
		t.Errorf("%d messages are left", len(w.Net))
	}
	same(t, "all", w, steps(some(), 300))
	same(t, "nothing", cluster.Calm(api.World{}, 300), api.World{})
}

// Two leaders of one term, which no Run brings about, send each other messages without end.
func TestQ2CalmEnds(t *testing.T) {
	w := world(nil)
	for id := 1; id <= 5; id++ {
		n := leader(id)
		n.N, n.Log, n.Next, n.Match = 5, nil, nil, make([]int, 5)
		for i := range 60 {
			n.Log = append(n.Log, api.Item{Term: 1 + i/30, Cmd: i})
		}
		for k := range 5 {
			n.Next = append(n.Next, 61-7*k-id)
		}
		w.Nodes = append(w.Nodes, n)
	}
	for id := 1; id <= 5; id++ {
		w = cluster.Step(w, api.Event{Kind: api.EvBeat, Node: id})
	}
	for range 7 {
		w = cluster.Step(w, api.Event{Kind: api.EvDrop})
	}
	want := steps(w, 300)
	for _, most := range []int{300, 301, 1000, math.MaxInt} {
		same(t, fmt.Sprint(most), cluster.Calm(w, most), want)
	}
	for _, most := range []int{298, 299, 301, 302} {
		if alike(steps(w, most), want) {
			t.Errorf("%d steps can't be told from 300", most)
		}
	}
	same(t, "299", cluster.Calm(w, 299), steps(w, 299))
}

// roomy is l with spare room behind it that something stands in.
func roomy[E any](l []E, spare E) []E {
	l = append(append([]E(nil), l...), spare, spare, spare)
	return l[:len(l)-3]
}

func roomyWorld(w api.World) api.World {
	w.Nodes, w.Net = roomy(w.Nodes, leader(1)), roomy(w.Net, some().Net[1])
	for i := range w.Nodes {
		n := &w.Nodes[i]
		n.Log, n.Votes = roomy(n.Log, api.Item{Term: 4, Cmd: 77}), roomy(n.Votes, 3)
		n.Next, n.Match = roomy(n.Next, 2), roomy(n.Match, 2)
	}
	for i := range w.Net {
		w.Net[i].Items = roomy(w.Net[i].Items, api.Item{Term: 4, Cmd: 66})
	}
	return w
}

// lists are all lists of a world, one by one.
func lists(w api.World) (ints [][]int, of [][]api.Item) {
	for _, n := range w.Nodes {
		ints = append(ints, n.Votes, n.Next, n.Match)
		of = append(of, n.Log)
	}
	for _, m := range w.Net {
		of = append(of, m.Items)
	}
	return ints, of
}

// whole is a world with the spare room of all its lists.
func whole(w api.World) string {
	w.Nodes, w.Net = w.Nodes[:cap(w.Nodes)], w.Net[:cap(w.Net)]
	out := fmt.Sprint(w)
	ints, of := lists(w)
	for _, l := range ints {
		out += fmt.Sprint(l[:cap(l)])
	}
	for _, l := range of {
		out += fmt.Sprint(l[:cap(l)])
	}
	return out
}

func over[E any](l []E, with E) {
	l = l[:cap(l)]
	for i := range l {
		l[i] = with
	}
}

// blot writes over all that was told, and its spare room.
func blot(w api.World) {
	ints, of := lists(w)
	for _, l := range ints {
		over(l, -5)
	}
	for _, l := range of {
		over(l, api.Item{Term: -5, Cmd: -5})
	}
	over(w.Nodes, api.Node{Id: -5})
	over(w.Net, api.Msg{Kind: -5})
}

// calls are all calls to which a world is handed in.
func calls() []func(w api.World) api.World {
	var l []func(w api.World) api.World
	for kind := range 9 {
		for node := range 5 {
			for pick := -1; pick < 6; pick++ {
				l = append(l, func(w api.World) api.World {
					return cluster.Step(w, api.Event{Kind: kind, Node: node, Pick: pick})
				})
			}
		}
	}
	for _, most := range []int{-1, 0, 1, 2, 3, 5, 9, 300} {
		l = append(l, func(w api.World) api.World { return cluster.Calm(w, most) })
	}
	return l
}

func worlds() []api.World {
	wrong := some()
	wrong.Nodes[1].Commit, wrong.Nodes[2].N = 77, 0
	full := some()
	full.Net = append(full.Net, numbered(57)...)
	return []api.World{some(), wrong, full}
}

func TestZ2OnlyRead(t *testing.T) {
	for _, w := range worlds() {
		for i, call := range calls() {
			want := call(w)
			in := roomyWorld(w)
			before := whole(in)
			got := call(in)
			if !alike(got, want) {
				t.Errorf("call %d: spare room is looked at", i)
			}
			blot(got)
			if whole(in) != before {
				t.Errorf("call %d: what was handed in has changed", i)
			}
		}
	}
	l := roomy([]api.Event{{Kind: api.EvTimeout, Node: 1}}, api.Event{Kind: api.EvDeliver})
	before := fmt.Sprint(l[:cap(l)])
	got, _ := cluster.Run(3, l)
	if len(got.Net) != 2 || fmt.Sprint(l[:cap(l)]) != before {
		t.Errorf("%+v comes, and %v is left", got, l[:cap(l)])
	}
}

func TestZ2NothingIsKept(t *testing.T) {
	for _, w := range worlds() {
		for i, call := range calls() {
			in := roomyWorld(w)
			got := call(in)
			told := whole(got)
			blot(in)
			if whole(got) != told {
				t.Errorf("call %d: what was told changes with what was handed in", i)
			}
		}
	}
}

// sharing tells whether writing over one of a world's lists changes another one.
func sharing(w api.World) bool {
	ints, of := lists(w)
	fresh := func(kept ...any) string { return fmt.Sprint(kept...) }
	for i, l := range ints {
		before := fresh(ints[:i], ints[i+1:], of)
		over(l, -5-i)
		if fresh(ints[:i], ints[i+1:], of) != before {
			return true
		}
	}
	for i, l := range of {
		before := fresh(ints, of[:i], of[i+1:])
		over(l, api.Item{Term: -5 - i})
		if fresh(ints, of[:i], of[i+1:]) != before {
			return true
		}
	}
	return false
}

func TestZ2AnswersAreNewMemory(t *testing.T) {
	for _, w := range worlds() {
		w.Nodes[2].Log = w.Nodes[0].Log // the same list twice is told as two
		w.Net[0].Items, w.Net[3].Items = w.Net[1].Items, w.Nodes[0].Log
		for i, call := range calls() {
			if sharing(call(w)) {
				t.Errorf("call %d: two lists of the answer share memory", i)
			}
		}
	}
	w, _ := cluster.Run(3, []api.Event{
		{Kind: api.EvTimeout, Node: 1}, {Kind: api.EvDeliver}, {Kind: api.EvDeliver, Pick: 1},
		{Kind: api.EvPropose, Node: 1, Pick: 3}, {Kind: api.EvCopy, Pick: 1}, {Kind: api.EvCopy, Pick: 1},
	})
	if sharing(w) {
		t.Error("two lists of what Run tells share memory")
	}
}

// What goes is not copied: many messages may have the same long list.
func TestZ1SameListManyTimes(t *testing.T) {
	long := make([]api.Item, 1<<20)
	w := some()
	for i := range 1 << 15 {
		w.Net = append(w.Net, api.Msg{Kind: api.MsgVote, Index: i, Items: long})
	}
	for i := range w.Net[len(w.Net)-60:] {
		w.Net[len(w.Net)-60+i].Items = nil
	}
	got := cluster.Step(w, api.Event{Kind: api.EvBeat, Node: 1})
	if len(got.Net) != 60 {
		t.Errorf("%d messages are left", len(got.Net))
	}
	if got = cluster.Calm(w, 300); len(got.Net) != 0 {
		t.Errorf("%d messages are left", len(got.Net))
	}
}

func TestZ3Empty(t *testing.T) {
	w := some()
	for i := range w.Nodes {
		n := &w.Nodes[i]
		n.Votes, n.Next, n.Match = roomy(n.Votes, 1), roomy(n.Next, 1), roomy(n.Match, 1)
	}
	for i := range w.Net {
		w.Net[i].Items = roomy(w.Net[i].Items, api.Item{})
	}
	for i, call := range calls() {
		same(t, fmt.Sprintf("call %d", i), call(w), call(some()))
		same(t, fmt.Sprintf("call %d of nothing", i), call(api.World{Nodes: []api.Node{}, Net: []api.Msg{}}), api.World{})
	}
	a, _ := cluster.Run(2, nil)
	b, _ := cluster.Run(2, []api.Event{})
	same(t, "no events", a, b)
}

func TestZ1AtOnce(t *testing.T) {
	w := some()
	var group sync.WaitGroup
	for range 8 {
		group.Go(func() {
			for i, call := range calls() {
				got := call(w)
				if !alike(got, call(some())) {
					t.Errorf("call %d: %+v comes", i, got)
				}
				blot(got)
			}
		})
	}
	group.Wait()
}
