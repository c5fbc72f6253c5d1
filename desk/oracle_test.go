package desk_test

import (
	"math"
	"math/rand"
	"reflect"
	"slices"
	"strconv"
	"testing"

	"verdict/api"
	"verdict/cluster"
	"verdict/desk"
	"verdict/raft"
	"verdict/repo"
	"verdict/table"
)

// The chapter's words once more, by another way: worlds step by step, repos command by command, as items become sure.

// nodeOf is what the log's first items make, item by item.
func nodeOf(n api.Node, byNumber map[int]api.Cmd) api.Repo {
	var r api.Repo
	for number, item := range n.Log {
		if number+1 > n.Commit {
			break
		}
		if c, ok := byNumber[item.Cmd]; ok {
			r, _ = repo.Apply(r, c)
		}
	}
	return r
}

func reposOf(n int, l []api.Event, c []api.Cmd) []api.Repo {
	byNumber := map[int]api.Cmd{}
	for i, one := range c {
		byNumber[i+1] = one
	}
	w, _ := cluster.Start(n)
	for _, e := range l {
		w = cluster.Step(w, e)
	}
	var repos []api.Repo
	for _, node := range w.Nodes {
		repos = append(repos, nodeOf(node, byNumber))
	}
	return repos
}

// answerOf is what the job asks, by what chapters 10 and 12 say.
func answerOf(j api.Job) api.Answer {
	var r api.Repo
	for _, c := range j.Cmds {
		r, _ = repo.Apply(r, c)
	}
	t, err := repo.Find(r, j.Name, j.Version)
	if err != api.OK {
		return fails(err)
	}
	v, err := table.Decide(t, j.Vals)
	return api.Answer{Err: err, Val: v}
}

// dice makes things up, the same ones each time.
type dice struct{ *rand.Rand }

func pick[E any](d dice, l ...E) E { return l[d.Intn(len(l))] }

func (d dice) cmds(most int) []api.Cmd {
	var l []api.Cmd
	seqs := map[int]int{}
	for range d.Intn(most + 1) {
		session := pick(d, d.Intn(8), 1+d.Intn(7))
		seqs[session] += pick(d, 0, 1, 1, 1, 1, 1, 1, 2, -1)
		name := pick(d, "t", "t", "t", "u", "v", "w", "tt", "é", "T", "if")
		c := deploy(session, seqs[session], name, "a + "+strconv.Itoa(d.Intn(1000)))
		c.Kind = pick(d, api.CmdDeploy, api.CmdDeploy, api.CmdDeploy, api.CmdDeploy, api.CmdRollback, api.CmdRollback, api.CmdDrop, 9)
		c.Name, c.To = name, d.Intn(4)
		l = append(l, c)
	}
	return l
}

func (d dice) event(n, cmds int) api.Event {
	e := api.Event{Node: 1 + d.Intn(n), Pick: d.Intn(3)}
	e.Kind = pick(d, // deliveries are many, or nothing becomes sure
		api.EvDeliver, api.EvDeliver, api.EvDeliver, api.EvDeliver, api.EvDeliver, api.EvDeliver, api.EvDeliver, api.EvDeliver, api.EvDeliver, api.EvDeliver, api.EvDeliver, api.EvDeliver,
		api.EvPropose, api.EvPropose, api.EvPropose, api.EvPropose, api.EvBeat, api.EvBeat, api.EvTimeout, api.EvCopy, api.EvDrop, pick(d, api.EvDrop, api.EvRestart, 9, 0))
	if e.Kind == api.EvTimeout && d.Intn(4) > 0 { // who leads goes on leading, mostly
		e.Node = 1
	}
	if e.Kind == api.EvPropose {
		e.Node = pick(d, 1, 1, e.Node)
		e.Pick = pick(d, 1+d.Intn(cmds+1), 1+d.Intn(cmds+1), 1+d.Intn(cmds+1), d.Intn(cmds+4)-2, math.MinInt, math.MaxInt)
	}
	return e
}

// sameIfAsFar checks that nodes that are as far as each other say the same.
func sameIfAsFar(t *testing.T, nodes []api.Node, repos []api.Repo) {
	t.Helper()
	for i, a := range nodes {
		for k, b := range nodes[:i] {
			if a.Commit == b.Commit && !alike(repos[i], repos[k]) {
				t.Errorf("%d items are sure to both, and they say\n%+v\n%+v", a.Commit, repos[i], repos[k])
			}
		}
	}
}

func TestS1AgainstTheChapter(t *testing.T) {
	d := dice{rand.New(rand.NewSource(18))}
	applied, behind := 0, 0
	for round := range 600 {
		n := 1 + round%api.MaxPeers
		c := d.cmds(20)
		l := []api.Event{timeout(1)}
		for range d.Intn(api.MaxEvents) {
			l = append(l, d.event(n, len(c)))
		}
		got, err := desk.Repos(n, l, c)
		if want := reposOf(n, l, c); err != api.OK || !allAlike(got, want) {
			t.Fatalf("%d, %+v: %+v, %d comes, not %+v", n, l, got, err, want)
		}
		w, _ := cluster.Run(n, l)
		sameIfAsFar(t, w.Nodes, got)
		for i, node := range w.Nodes {
			if raft.Wrong(node) != api.OK {
				t.Fatalf("%+v comes", node)
			}
			applied += got[i].Applied
			if node.Commit < len(node.Log) {
				behind++
			}
		}
	}
	if applied < 1000 || behind < 300 {
		t.Errorf("%d are applied, %d nodes have items that are not sure: too few to tell anything", applied, behind)
	}
}

func (d dice) job() api.Job {
	j := job(d.cmds(20), pick(d, "t", "t", "t", "u", "v", "é", ""), pick(d, 0, 0, 0, 1, 1, 2, 3, -1))
	for range pick(d, 1, 1, 1, 1, 1, 0, 2) {
		j.Vals = append(j.Vals, pick(d, num(1), num(7), num(7), null, num(10), api.Value{Kind: api.VText}))
	}
	return j
}

func TestS2AgainstTheChapter(t *testing.T) {
	d := dice{rand.New(rand.NewSource(81))}
	came := map[api.Errno]int{}
	for range 300 {
		var l []api.Job
		var want []api.Answer
		for range d.Intn(api.MaxJobs + 1) {
			l = append(l, d.job())
			want = append(want, answerOf(l[len(l)-1]))
		}
		workers := 1 + d.Intn(api.MaxWorkers)
		got, err := desk.Many(l, workers)
		if err != api.OK || !slices.EqualFunc(got, want, func(a, b api.Answer) bool { return reflect.DeepEqual(a, b) }) {
			t.Fatalf("%d jobs, %d workers: %+v, %d comes, not %+v", len(l), workers, got, err, want)
		}
		for i, j := range l {
			came[want[i].Err]++
			if one := desk.One(j); !reflect.DeepEqual(one, want[i]) {
				t.Fatalf("%+v: %+v comes, not %+v", j, one, want[i])
			}
		}
	}
	for _, err := range []api.Errno{api.OK, api.ErrNone, api.ErrOld, api.ErrMany, api.ErrForm, api.ErrType} {
		if came[err] < 100 {
			t.Errorf("%d comes but %d times", err, came[err])
		}
	}
}
