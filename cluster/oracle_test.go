package cluster_test

import (
	"math"
	"math/rand"
	"slices"
	"testing"

	"verdict/api"
	"verdict/cluster"
	"verdict/raft"
)

// scene is a world as the chapter speaks of it: nodes by their numbers, and each message with a ticket that tells how old it is.
type scene struct {
	nodes   map[int]api.Node
	tickets map[int]api.Msg
	last    int
}

func sceneOf(w api.World) *scene {
	s := &scene{nodes: map[int]api.Node{}, tickets: map[int]api.Msg{}}
	for i, n := range w.Nodes {
		s.nodes[i+1] = n
	}
	s.says(w.Net)
	return s
}

func (s *scene) says(l []api.Msg) {
	for _, m := range l {
		s.last++
		s.tickets[s.last] = m
	}
}

// byAge are the tickets, the oldest first.
func (s *scene) byAge() []int {
	var l []int
	for ticket := range s.tickets {
		l = append(l, ticket)
	}
	slices.Sort(l)
	return l
}

func (s *scene) world() api.World {
	var w api.World
	for k := 1; k <= len(s.nodes); k++ {
		w.Nodes = append(w.Nodes, s.nodes[k])
	}
	for _, ticket := range s.byAge() {
		w.Net = append(w.Net, s.tickets[ticket])
	}
	return w
}

func (s *scene) happens(e api.Event) {
	n, node := s.nodes[e.Node]
	var said []api.Msg
	switch e.Kind {
	case api.EvTimeout:
		n, said = raft.Timeout(n)
	case api.EvBeat:
		n, said = raft.Beat(n)
	case api.EvPropose:
		n, said, _ = raft.Propose(n, e.Pick)
	case api.EvRestart:
		n = raft.Restart(n)
	case api.EvDeliver, api.EvCopy, api.EvDrop:
		s.comes(e)
		return
	default:
		return
	}
	if node {
		s.nodes[e.Node] = n
		s.says(said)
		s.thins()
	}
}

func (s *scene) comes(e api.Event) {
	l := s.byAge()
	if e.Pick < 0 || e.Pick >= len(l) {
		return
	}
	m := s.tickets[l[e.Pick]]
	if e.Kind == api.EvDeliver || e.Kind == api.EvDrop {
		delete(s.tickets, l[e.Pick])
	}
	if n, ok := s.nodes[m.To]; ok && (e.Kind == api.EvDeliver || e.Kind == api.EvCopy) {
		n, said := raft.Receive(n, m)
		s.nodes[m.To] = n
		s.says(said)
	}
	s.thins()
}

func (s *scene) thins() {
	for _, ticket := range s.byAge() {
		if len(s.tickets) <= 60 {
			return
		}
		delete(s.tickets, ticket)
	}
}

type dice struct{ *rand.Rand }

func (d dice) event(w api.World) api.Event {
	kinds := []int{ // restarts are seldom, or nobody leads for long
		api.EvTimeout, api.EvTimeout, api.EvBeat, api.EvBeat, api.EvBeat, api.EvPropose, api.EvPropose, api.EvPropose, api.EvCopy, api.EvCopy, api.EvDrop,
		api.EvDeliver, api.EvDeliver, api.EvDeliver, api.EvDeliver, api.EvDeliver, api.EvDeliver, api.EvDeliver, api.EvDeliver, api.EvDeliver,
	}
	e := api.Event{Kind: kinds[d.Intn(len(kinds))], Node: 1 + d.Intn(len(w.Nodes)+1), Pick: d.Intn(len(w.Net) + 2)}
	switch d.Intn(30) {
	case 0:
		e.Kind = []int{-1, 0, 8, api.EvRestart, api.EvRestart}[d.Intn(5)]
	case 1:
		e.Node = []int{math.MinInt, math.MaxInt, 0, -1}[d.Intn(4)]
	case 2:
		e.Pick = []int{math.MinInt, math.MaxInt, -1, -2}[d.Intn(4)]
	}
	return e
}

// twist makes a world that no Run brings about.
func (d dice) twist(w api.World) api.World {
	switch d.Intn(6) {
	case 0:
		d.Shuffle(len(w.Nodes), func(i, j int) { w.Nodes[i], w.Nodes[j] = w.Nodes[j], w.Nodes[i] })
	case 1:
		w.Nodes = w.Nodes[:d.Intn(len(w.Nodes))]
	case 2:
		w.Nodes = append(w.Nodes, w.Nodes...)
	case 3:
		for range d.Intn(90) {
			if len(w.Net) > 0 {
				w.Net = append(w.Net, w.Net[d.Intn(len(w.Net))])
			}
		}
	case 4:
		for i := range w.Net {
			w.Net[i].To += d.Intn(3) - 1
		}
	case 5:
		w.Nodes[d.Intn(len(w.Nodes))].Commit += d.Intn(3) - 1
	}
	return w
}

func TestQ1Q2AgainstTheChapter(t *testing.T) {
	d := dice{rand.New(rand.NewSource(16))}
	full, led := 0, 0
	for round := range 400 {
		w, _ := cluster.Start(1 + round%5)
		var l []api.Event
		twisted := false
		for range d.Intn(250) {
			e := d.event(w)
			l = append(l, e)
			s := sceneOf(w)
			s.happens(e)
			got := cluster.Step(w, e)
			same(t, "Step", got, s.world())
			if t.Failed() {
				return
			}
			w = got
			if d.Intn(500) == 0 && len(w.Nodes) > 0 && len(w.Nodes) < 20 {
				w, twisted = d.twist(w), true
			}
			if len(w.Net) == 60 {
				full++
			}
		}
		if !twisted {
			got, err := cluster.Run(1+round%5, l)
			same(t, "Run", got, w)
			if err != api.OK {
				t.Errorf("%d comes", err)
			}
		}
		most := d.Intn(350) - 20
		s := sceneOf(w)
		for range min(most, 300) {
			s.happens(api.Event{Kind: api.EvDeliver})
		}
		same(t, "Calm", cluster.Calm(w, most), s.world())
		for _, n := range w.Nodes {
			if n.Role == api.Leader {
				led++
			}
		}
	}
	if full < 200 || led < 100 {
		t.Errorf("%d times all room was taken, and %d nodes led: too few to tell anything", full, led)
	}
}

// watch remembers who led each term, and which items were sure.
type watch struct {
	*testing.T
	led  map[int]int
	sure []api.Item
}

func (c *watch) looks(w api.World) {
	c.Helper()
	for _, n := range w.Nodes {
		if err := raft.Wrong(n); err != api.OK {
			c.Fatalf("%d is wrong with %+v", err, n)
		}
		if n.Role == api.Leader {
			if who := c.led[n.Term]; who != 0 && who != n.Id {
				c.Fatalf("term %d has the leaders %d and %d", n.Term, who, n.Id)
			}
			c.led[n.Term] = n.Id
		}
		for i := range n.Commit {
			if i == len(c.sure) {
				c.sure = append(c.sure, n.Log[i])
			}
			if c.sure[i] != n.Log[i] {
				c.Fatalf("item %d was sure as %v, and is %v", i+1, c.sure[i], n.Log[i])
			}
		}
	}
}

// settles lets all messages come, and one node after the other want to lead, until one does and all have heard of it.
func (c *watch) settles(w api.World) {
	w = cluster.Calm(cluster.Calm(w, 300), 300)
	for try := 0; try < 20; try++ {
		k := 1 + try%len(w.Nodes)
		w = cluster.Calm(cluster.Step(w, api.Event{Kind: api.EvTimeout, Node: k}), 300)
		if w.Nodes[k-1].Role != api.Leader {
			continue
		}
		for range 2 { // by the first one it may learn what is sure, by the second one all do
			w = cluster.Calm(cluster.Step(w, api.Event{Kind: api.EvBeat, Node: k}), 300)
		}
		c.looks(w)
		for _, n := range w.Nodes {
			if !alike(n.Log, w.Nodes[k-1].Log) || len(n.Log) < 60 && n.Commit != len(n.Log) {
				c.Fatalf("all is calm, and these differ:\n%+v\n%+v", n, w.Nodes[k-1])
			}
		}
		return
	}
	c.Fatal("nobody leads")
}

func TestQ1Q2ManyAgree(t *testing.T) {
	d := dice{rand.New(rand.NewSource(17))}
	sure, terms := 0, 0
	for round := range 200 {
		w, _ := cluster.Start(1 + round%5)
		c := &watch{T: t, led: map[int]int{}}
		for range d.Intn(400) {
			w = cluster.Step(w, d.event(w))
			c.looks(w)
		}
		sure, terms = sure+len(c.sure), terms+len(c.led)
		c.settles(w)
	}
	if sure < 500 || terms < 300 {
		t.Errorf("%d items were sure in %d terms: too few to tell anything", sure, terms)
	}
}
