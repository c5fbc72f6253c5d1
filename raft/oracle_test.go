package raft_test

import (
	"math"
	"math/rand"
	"testing"

	"verdict/api"
	"verdict/raft"
)

// figure is a node as the chapter speaks of it: items by their numbers, who has voted, and counts by nodes.
type figure struct {
	api.Node
	items       map[int]api.Item
	long        int
	voted       map[int]bool
	next, match map[int]int
	said        []api.Msg
}

func figureOf(n api.Node) *figure {
	f := &figure{Node: n, items: map[int]api.Item{}, voted: map[int]bool{}, next: map[int]int{}, match: map[int]int{}}
	for i, one := range n.Log {
		f.items[i+1] = one
	}
	f.long = len(n.Log)
	for _, k := range n.Votes {
		f.voted[k] = true
	}
	for i := range n.Next {
		f.next[i+1], f.match[i+1] = n.Next[i], n.Match[i]
	}
	return f
}

func (f *figure) node() api.Node {
	n := f.Node
	n.Log, n.Votes, n.Next, n.Match = nil, nil, nil, nil
	for i := 1; i <= f.long; i++ {
		n.Log = append(n.Log, f.items[i])
	}
	for k := 1; k <= f.N; k++ {
		if f.voted[k] {
			n.Votes = append(n.Votes, k)
		}
		if len(f.next) > 0 {
			n.Next, n.Match = append(n.Next, f.next[k]), append(n.Match, f.match[k])
		}
	}
	return n
}

func (f *figure) cut(long int) {
	for i := long + 1; i <= f.long; i++ {
		delete(f.items, i)
	}
	f.long = long
}

func (f *figure) forget() { clear(f.voted); clear(f.next); clear(f.match) }

func (f *figure) message(kind, to int) *api.Msg {
	f.said = append(f.said, api.Msg{Kind: kind, From: f.Id, To: to, Term: f.Term})
	return &f.said[len(f.said)-1]
}

func (f *figure) sends(k int) {
	m := f.message(api.MsgAppend, k)
	m.Index, m.Commit = f.next[k]-1, f.Commit
	m.LogTerm = f.items[m.Index].Term
	for i := f.next[k]; i <= f.long && len(m.Items) < 3; i++ {
		m.Items = append(m.Items, f.items[i])
	}
}

func (f *figure) sendsAll() {
	for k := 1; k <= f.N; k++ {
		if k != f.Id {
			f.sends(k)
		}
	}
}

func (f *figure) sure() {
	for i := f.long; i > f.Commit; i-- {
		have := 0
		for _, far := range f.match {
			if far >= i {
				have++
			}
		}
		if 2*have > f.N {
			if f.items[i].Term == f.Term {
				f.Commit = i
			}
			return
		}
	}
}

func (f *figure) puts(cmd int) {
	if f.long < 60 {
		f.long++
		f.items[f.long] = api.Item{Term: f.Term, Cmd: cmd}
	}
	f.match[f.Id], f.next[f.Id] = f.long, f.long+1
	f.sure()
	f.sendsAll()
}

func (f *figure) leads() {
	if 2*len(f.voted) <= f.N {
		return
	}
	f.forget()
	f.Role, f.Boss = api.Leader, f.Id
	for k := 1; k <= f.N; k++ {
		f.next[k], f.match[k] = f.long+1, 0
	}
	f.puts(0)
}

func (f *figure) timeout() {
	if f.Role == api.Leader || f.Term == 1000000 {
		return
	}
	f.forget()
	f.Term, f.Role, f.Boss, f.Vote = f.Term+1, api.Candidate, 0, f.Id
	f.voted[f.Id] = true
	for k := 1; k <= f.N; k++ {
		if k != f.Id {
			m := f.message(api.MsgVote, k)
			m.Index, m.LogTerm = f.long, f.items[f.long].Term
		}
	}
	f.leads()
}

// refused is what P4 names, one behind the other.
func (f *figure) refused(m api.Msg) bool {
	if m.To != f.Id || m.From < 1 || m.From > f.N || m.From == f.Id || m.Kind < 1 || m.Kind > 4 {
		return true
	}
	if m.Term < 1 || m.Term > 1000000 || m.Index < 0 || m.Index > 60 || m.Commit < 0 || m.LogTerm < 0 || m.LogTerm > m.Term {
		return true
	}
	if len(m.Items) > 60-m.Index {
		return true
	}
	for i, one := range m.Items {
		if one.Term < 1 || one.Term > m.Term || i == 0 && one.Term < m.LogTerm || i > 0 && one.Term < m.Items[i-1].Term {
			return true
		}
	}
	return false
}

func (f *figure) receive(m api.Msg) {
	if f.refused(m) {
		return
	}
	if m.Term > f.Term {
		f.forget()
		f.Term, f.Vote, f.Role, f.Boss = m.Term, 0, api.Follower, 0
	}
	ours := m.Term == f.Term
	switch m.Kind {
	case api.MsgVote:
		f.asked(m, ours)
	case api.MsgVoted:
		if f.Role == api.Candidate && ours && m.Yes {
			f.voted[m.From] = true
			f.leads()
		}
	case api.MsgAppend:
		f.append(m, ours)
	case api.MsgAppended:
		if f.Role == api.Leader && ours {
			f.answered(m)
		}
	}
}

func (f *figure) asked(m api.Msg, ours bool) {
	free := f.Vote == 0 || f.Vote == m.From
	last := f.items[f.long].Term
	far := m.LogTerm > last || m.LogTerm == last && m.Index >= f.long
	if ours && free && far {
		f.Vote = m.From
		f.message(api.MsgVoted, m.From).Yes = true
		return
	}
	f.message(api.MsgVoted, m.From)
}

func (f *figure) append(m api.Msg, ours bool) {
	answer := f.message(api.MsgAppended, m.From)
	if !ours || f.Role == api.Leader {
		answer.Index = f.long
		return
	}
	f.forget()
	f.Role, f.Boss = api.Follower, m.From
	if m.Index > f.long || m.Index > 0 && f.items[m.Index].Term != m.LogTerm {
		answer.Index = min(f.long, m.Index-1)
		return
	}
	differs := false
	for i, one := range m.Items {
		number := m.Index + i + 1
		if there, ok := f.items[number]; !differs && (!ok || there.Term != one.Term) {
			differs = true
			f.cut(number - 1)
		}
		if differs {
			f.long, f.items[number] = number, one
		}
	}
	f.Commit = min(f.Commit, f.long)
	answer.Yes, answer.Index = true, m.Index+len(m.Items)
	if sure := min(m.Commit, answer.Index); sure > f.Commit {
		f.Commit = sure
	}
}

func (f *figure) answered(m api.Msg) {
	k := m.From
	if m.Yes {
		if far := min(m.Index, f.long); far > f.match[k] {
			f.match[k] = far
		}
		f.next[k] = f.match[k] + 1
		f.sure()
		if f.next[k] <= f.long {
			f.sends(k)
		}
		return
	}
	f.next[k] = min(f.next[k]-1, m.Index+1)
	if f.next[k] < 1 {
		f.next[k] = 1
	}
	f.sends(k)
}

// saysWrong is P1's list, asked from its end on: what is named first is told.
func saysWrong(n api.Node) api.Errno {
	err := api.OK
	for i := range min(len(n.Next), len(n.Match)) {
		if n.Next[i] < 1 || n.Next[i] > len(n.Log)+1 || n.Match[i] < 0 || n.Match[i] > len(n.Log) {
			err = api.ErrRange
		}
	}
	want := 0
	if n.Role == api.Leader {
		want = n.N
	}
	if len(n.Next) != want || len(n.Match) != want {
		err = api.ErrFit
	}
	for i, k := range n.Votes {
		if k < 1 || k > n.N || i > 0 && k <= n.Votes[i-1] {
			err = api.ErrForm
		}
	}
	if len(n.Votes) > 0 && n.Role != api.Candidate {
		err = api.ErrFit
	}
	for i, one := range n.Log {
		if one.Term < 1 || one.Term > n.Term || i > 0 && one.Term < n.Log[i-1].Term {
			err = api.ErrForm
		}
	}
	if len(n.Log) > 60 {
		err = api.ErrMuch
	}
	if n.Role < 1 || n.Role > 3 || n.Term == 0 && n.Role != api.Follower {
		err = api.ErrKind
	}
	if n.N < 1 || n.N > 5 || n.Id < 1 || n.Id > n.N || n.Vote < 0 || n.Vote > n.N || n.Boss < 0 || n.Boss > n.N ||
		n.Term < 0 || n.Term > 1000000 || n.Commit < 0 || n.Commit > len(n.Log) {
		err = api.ErrRange
	}
	return err
}

type dice struct{ *rand.Rand }

// near is mostly a number from low to high, and sometimes one beyond these.
func (d dice) near(low, high int) int {
	switch d.Intn(60) {
	case 0:
		return low - 1
	case 1:
		return high + 1
	case 2:
		return []int{math.MinInt, math.MaxInt, 0, -1}[d.Intn(4)]
	}
	return low + d.Intn(max(1, high-low+1))
}

func (d dice) log(most, low, high int) []api.Item {
	var l []api.Item
	for range d.Intn(most + 1) {
		if d.Intn(3) == 0 && low < high {
			low++
		}
		l = append(l, api.Item{Term: max(1, low), Cmd: d.Intn(9)})
	}
	if d.Intn(40) == 0 && len(l) > 0 {
		l[d.Intn(len(l))].Term = d.near(0, high)
	}
	return l
}

func (d dice) node() api.Node {
	n := api.Node{N: d.near(1, 5), Role: d.near(1, 3)}
	n.Id, n.Vote, n.Boss = d.near(1, n.N), d.near(0, n.N), d.near(0, n.N)
	n.Term = d.near(1, 4)
	if d.Intn(20) == 0 {
		n.Term = d.near(999999, 1000000)
	}
	most := 6
	if d.Intn(4) == 0 {
		most = 62
	}
	n.Log = d.log(most, 1, min(n.Term, 4))
	n.Commit = d.near(0, len(n.Log))
	for k := 1; k <= n.N && k < 8; k++ {
		if n.Role == api.Candidate && d.Intn(3) == 0 || d.Intn(200) == 0 {
			n.Votes = append(n.Votes, d.near(k, k))
		}
		if n.Role == api.Leader && d.Intn(200) > 0 {
			n.Next, n.Match = append(n.Next, d.near(1, len(n.Log)+1)), append(n.Match, d.near(0, len(n.Log)))
		}
	}
	return n
}

func (d dice) message(n api.Node) api.Msg {
	m := api.Msg{Kind: d.near(1, 4), To: n.Id, From: d.near(1, n.N), Yes: d.Intn(2) == 0}
	m.Term = d.near(1, 4)
	if d.Intn(2) == 0 {
		m.Term = n.Term
	}
	if d.Intn(40) == 0 {
		m.To = d.near(1, 5)
	}
	m.Index, m.Commit = d.near(0, min(60, len(n.Log)+1)), d.near(0, 8)
	m.LogTerm = d.near(0, m.Term)
	if d.Intn(3) > 0 && m.Index > 0 && m.Index <= len(n.Log) {
		m.LogTerm = n.Log[m.Index-1].Term
	}
	if d.Intn(3) > 0 {
		m.Items = d.log(4, m.LogTerm, min(m.Term, 5))
	}
	return m
}

// holdAgainst asks all calls what the figure says.
func holdAgainst(t *testing.T, n api.Node, m api.Msg, cmd int) (did bool) {
	t.Helper()
	err := saysWrong(n)
	if got := raft.Wrong(n); got != err {
		t.Errorf("%d is wrong with %+v, not %d", got, n, err)
	}
	works := func(what string, got api.Node, said []api.Msg, do func(f *figure)) {
		t.Helper()
		want, wantSaid := n, []api.Msg(nil)
		if err == api.OK {
			f := figureOf(n)
			do(f)
			want, wantSaid = f.node(), f.said
			if wrong := saysWrong(got); wrong != api.OK {
				t.Errorf("%d is wrong with what comes of %+v", wrong, n)
			}
		}
		same(t, what, got, said, want, wantSaid)
	}
	got, said := raft.Timeout(n)
	works("Timeout", got, said, (*figure).timeout)
	leads := err == api.OK && n.Role == api.Leader
	got, said = raft.Beat(n)
	works("Beat", got, said, func(f *figure) {
		if leads {
			f.sendsAll()
		}
	})
	got, said, ok := raft.Propose(n, cmd)
	if ok != (leads && len(n.Log) < 60) {
		t.Errorf("%v is proposed to %+v", ok, n)
	}
	works("Propose", got, said, func(f *figure) {
		if ok {
			f.puts(cmd)
		}
	})
	works("Restart", raft.Restart(n), nil, func(f *figure) {
		*f = *figureOf(api.Node{Id: n.Id, N: n.N, Term: n.Term, Vote: n.Vote, Log: n.Log, Role: api.Follower})
	})
	got, said = raft.Receive(n, m)
	works("Receive", got, said, func(f *figure) { f.receive(m) })
	return err == api.OK && !figureOf(n).refused(m)
}

func TestP1ToP5AgainstTheChapter(t *testing.T) {
	d := dice{rand.New(rand.NewSource(15))}
	did := 0
	for range 60000 {
		n := d.node()
		if holdAgainst(t, n, d.message(n), d.near(0, 9)) {
			did++
		}
		if t.Failed() {
			return
		}
	}
	if did < 10000 || did > 50000 {
		t.Errorf("%d of 60000 came to something", did)
	}
}

// crowd is nodes whose messages come late, twice or never; it remembers who led each term, and which items were sure.
type crowd struct {
	*testing.T
	dice
	nodes []api.Node
	net   []api.Msg
	led   map[int]int
	sure  []api.Item
}

func newCrowd(t *testing.T, d dice, n int) *crowd {
	c := &crowd{T: t, dice: d, led: map[int]int{}}
	for k := 1; k <= n; k++ {
		c.nodes = append(c.nodes, raft.Start(k, n))
	}
	return c
}

func (c *crowd) becomes(n api.Node, said []api.Msg) {
	c.nodes[n.Id-1] = n
	c.net = append(c.net, said...)
	c.looks()
}

func (c *crowd) delivers(at int, stays bool) {
	m := c.net[at]
	if !stays {
		c.net = append(c.net[:at:at], c.net[at+1:]...)
	}
	c.becomes(raft.Receive(c.nodes[m.To-1], m))
}

// looks asks what must hold at any time: no term has two leaders, logs match, and what is sure stays sure.
func (c *crowd) looks() {
	for _, n := range c.nodes {
		if err := raft.Wrong(n); err != api.OK {
			c.Fatalf("%d is wrong with %+v", err, n)
		}
		if n.Role == api.Leader {
			if who := c.led[n.Term]; who != 0 && who != n.Id {
				c.Fatalf("term %d has the leaders %d and %d", n.Term, who, n.Id)
			}
			c.led[n.Term] = n.Id
		}
		for i := range n.Commit {
			if i == len(c.sure) {
				c.sure = append(c.sure, n.Log[i])
			}
			if c.sure[i] != n.Log[i] {
				c.Fatalf("item %d was sure as %v, and is %v", i+1, c.sure[i], n.Log[i])
			}
		}
	}
	for _, a := range c.nodes {
		for _, b := range c.nodes[a.Id:] {
			c.matches(a.Log, b.Log)
		}
	}
}

func (c *crowd) matches(a, b []api.Item) {
	for i := min(len(a), len(b)) - 1; i >= 0; i-- {
		if a[i].Term != b[i].Term {
			continue
		}
		for k := range i + 1 {
			if a[k] != b[k] {
				c.Fatalf("logs match at item %d, but not at item %d", i+1, k+1)
			}
		}
		return
	}
}

func (c *crowd) somethingHappens() {
	k := c.Intn(len(c.nodes))
	n := c.nodes[k]
	switch x := c.Intn(100); {
	case x < 5:
		c.becomes(raft.Timeout(n))
	case x < 12:
		c.becomes(raft.Beat(n))
	case x < 22:
		n, said, _ := raft.Propose(n, 1+c.Intn(1000))
		c.becomes(n, said)
	case x < 24:
		c.becomes(raft.Restart(n), nil)
	case len(c.net) == 0:
	case x < 85:
		c.delivers(c.Intn(len(c.net)), false)
	case x < 92:
		c.delivers(c.Intn(len(c.net)), true)
	default:
		at := c.Intn(len(c.net))
		c.net = append(c.net[:at:at], c.net[at+1:]...)
	}
}

// calms lets all messages come; then one node wants to lead until it does, and beats.
func (c *crowd) calms() {
	drain := func() {
		for i := 0; len(c.net) > 0; i++ {
			if i > 20000 {
				c.Fatal("messages come without end")
			}
			c.delivers(0, false)
		}
	}
	drain()
	for try := 0; ; try++ {
		n := c.nodes[try%len(c.nodes)]
		c.becomes(raft.Timeout(n))
		drain()
		if c.nodes[n.Id-1].Role == api.Leader {
			for range 2 { // by the first one it may learn what is sure, by the second one all do
				c.becomes(raft.Beat(c.nodes[n.Id-1]))
				drain()
			}
			c.agrees(c.nodes[n.Id-1])
			return
		}
		if try > 20 {
			c.Fatal("nobody leads")
		}
	}
}

// agrees asks whether all have what the leader has, and (unless the log was full ahead of its term) know that it is sure.
func (c *crowd) agrees(boss api.Node) {
	full := boss.Log[len(boss.Log)-1].Term != boss.Term
	for _, n := range c.nodes {
		if !alike(n.Log, boss.Log) || !full && n.Commit != len(n.Log) {
			c.Fatalf("all is calm, and these differ:\n%+v\n%+v", n, boss)
		}
	}
	for i, one := range c.sure {
		if boss.Log[i] != one {
			c.Fatalf("item %d was sure, and is lost", i+1)
		}
	}
}

func TestP1ToP5ManyAgree(t *testing.T) {
	d := dice{rand.New(rand.NewSource(16))}
	sure, terms := 0, 0
	for round := range 300 {
		c := newCrowd(t, d, 1+round%5)
		for range 20 + d.Intn(400) {
			c.somethingHappens()
		}
		sure, terms = sure+len(c.sure), terms+len(c.led)
		c.calms()
	}
	if sure < 1000 || terms < 600 {
		t.Errorf("%d items were sure in %d terms: too few to tell anything", sure, terms)
	}
}
