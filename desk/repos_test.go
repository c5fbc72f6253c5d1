package desk_test

import (
	"fmt"
	"math"
	"reflect"
	"slices"
	"sync"
	"testing"

	"verdict/api"
	"verdict/cluster"
	"verdict/desk"
	"verdict/repo"
	"verdict/syn"
	"verdict/trials"
)

var null = api.Value{Kind: api.VNull}

func num(coef int64) api.Value { return api.Value{Kind: api.VNum, Num: api.Dec{Coef: coef}} }

func vals(l ...api.Value) []api.Value { return l }

func cmds(l ...api.Cmd) []api.Cmd { return l }

// test is what the text says: one that can't be read is a mistake in these tests.
func test(s string) api.Test {
	x, fault := trials.Read(s)
	if fault.Err != api.OK {
		panic(s)
	}
	return x
}

func expr(s string) api.Expr {
	x, fault := syn.Read(s)
	if fault.Err != api.OK {
		panic(s)
	}
	return x
}

// says is a table with that name that says what the text of an expression says, whatever number comes.
func says(name, out string) api.Table {
	return api.Table{
		Name:   name,
		Policy: api.PolFirst,
		Ins:    []api.Column{{Name: "a", Kind: api.TyNum}},
		Outs:   []api.Column{{Name: "o", Kind: api.TyNum}},
		Rules:  []api.Rule{{Tests: []api.Test{test("-")}, Outs: []api.Expr{expr(out)}}},
	}
}

func deploy(session, seq int, name, out string) api.Cmd {
	return api.Cmd{Session: session, Seq: seq, Kind: api.CmdDeploy, Table: says(name, out)}
}

func rollback(session, seq int, name string, to int) api.Cmd {
	return api.Cmd{Session: session, Seq: seq, Kind: api.CmdRollback, Name: name, To: to}
}

func drop(session, seq int, name string) api.Cmd {
	return api.Cmd{Session: session, Seq: seq, Kind: api.CmdDrop, Name: name}
}

func seat(session, seq int, r api.Reply) api.Seat {
	return api.Seat{Session: session, Seq: seq, Reply: r}
}

func counts(version int) api.Reply { return api.Reply{Version: version} }

func refuses(err api.Errno) api.Reply { return api.Reply{Err: err} }

// entry has these versions kept, the last one the newest.
func entry(name string, now int, kept ...api.Version) api.Entry {
	return api.Entry{Name: name, Next: kept[len(kept)-1].Number + 1, Now: now, Kept: kept}
}

func version(number int, t api.Table) api.Version { return api.Version{Number: number, Table: t} }

// alike takes nil and no entries for the same.
func alike(a, b api.Repo) bool {
	sameVersion := func(a, b api.Version) bool { return reflect.DeepEqual(a, b) }
	sameEntry := func(a, b api.Entry) bool {
		return a.Name == b.Name && a.Next == b.Next && a.Now == b.Now && slices.EqualFunc(a.Kept, b.Kept, sameVersion)
	}
	return a.Applied == b.Applied && slices.Equal(a.Seats, b.Seats) && slices.EqualFunc(a.Entries, b.Entries, sameEntry)
}

func allAlike(a, b []api.Repo) bool { return slices.EqualFunc(a, b, alike) }

func timeout(k int) api.Event { return api.Event{Kind: api.EvTimeout, Node: k} }

func beat(k int) api.Event { return api.Event{Kind: api.EvBeat, Node: k} }

func restart(k int) api.Event { return api.Event{Kind: api.EvRestart, Node: k} }

func propose(k, cmd int) api.Event { return api.Event{Kind: api.EvPropose, Node: k, Pick: cmd} }

// calm lets what is on its way come, and what is said by it; behind the last message nothing more happens.
func calm() []api.Event { return slices.Repeat([]api.Event{{Kind: api.EvDeliver}}, 24) }

// events puts events and lists of events behind one another.
func events(parts ...any) []api.Event {
	var l []api.Event
	for _, p := range parts {
		switch x := p.(type) {
		case api.Event:
			l = append(l, x)
		case []api.Event:
			l = append(l, x...)
		}
	}
	return l
}

// tells checks what the nodes have.
func tells(t *testing.T, n int, l []api.Event, c []api.Cmd, want ...api.Repo) {
	t.Helper()
	if got, err := desk.Repos(n, l, c); err != api.OK || !allAlike(got, want) {
		t.Errorf("%d nodes:\n%+v, %d comes, not\n%+v", n, got, err, want)
	}
}

func TestS1WhatRunSaysIsWrong(t *testing.T) {
	some := cmds(deploy(1, 1, "t", "1"))
	for _, c := range []struct {
		n, events int
		err       api.Errno
	}{
		{0, 0, api.ErrRange}, {-1, 1, api.ErrRange}, {6, 0, api.ErrRange}, {math.MinInt, 0, api.ErrRange}, {math.MaxInt, 0, api.ErrRange},
		{0, 301, api.ErrRange}, {6, 301, api.ErrRange},
		{1, 301, api.ErrMany}, {5, 301, api.ErrMany}, {3, 4000, api.ErrMany},
	} {
		l := slices.Repeat([]api.Event{timeout(1)}, c.events)
		for _, of := range [][]api.Cmd{nil, some} {
			if got, err := desk.Repos(c.n, l, of); err != c.err || len(got) != 0 {
				t.Errorf("%d nodes, %d events: %+v, %d comes, not %d", c.n, c.events, got, err, c.err)
			}
		}
	}
	// 300 events are not too many, and the last one counts.
	l := slices.Repeat([]api.Event{{}}, 300)
	l[298], l[299] = timeout(1), propose(1, 1)
	tells(t, 1, l, some, api.Repo{Entries: []api.Entry{entry("t", 1, version(1, says("t", "1")))}, Seats: []api.Seat{seat(1, 1, counts(1))}, Applied: 1})
}

func TestS1NothingSure(t *testing.T) {
	some := cmds(deploy(1, 1, "t", "1"))
	for n := 1; n <= api.MaxPeers; n++ {
		none := make([]api.Repo, n)
		tells(t, n, nil, nil, none...)
		tells(t, n, nil, some, none...)
		tells(t, n, []api.Event{}, []api.Cmd{}, none...)
		// Nobody leads: what is proposed is nowhere.
		tells(t, n, events(propose(1, 1), beat(1), calm()), some, none...)
		// The item that a leader begins with says nothing.
		tells(t, n, events(timeout(1), calm(), beat(1), calm()), some, none...)
	}
}

// What stands in a log is said by no node ahead of being sure to it.
func TestS1WhatIsSureAlone(t *testing.T) {
	c := cmds(deploy(1, 1, "t", "11"), deploy(1, 2, "t", "22"))
	first := api.Repo{Entries: []api.Entry{entry("t", 1, version(1, c[0].Table))}, Seats: []api.Seat{seat(1, 1, counts(1))}, Applied: 1}
	both := api.Repo{Entries: []api.Entry{entry("t", 2, version(1, c[0].Table), version(2, c[1].Table))}, Seats: []api.Seat{seat(1, 2, counts(2))}, Applied: 2}
	led := events(timeout(2), calm())
	one := events(led, propose(2, 1))
	tells(t, 3, one, c, api.Repo{}, api.Repo{}, api.Repo{})
	one = events(one, calm())
	tells(t, 3, one, c, api.Repo{}, first, api.Repo{})
	tells(t, 3, events(one, beat(2)), c, api.Repo{}, first, api.Repo{})
	// A beat to node 1 alone: those to node 3 are lost.
	tells(t, 3, events(one, beat(2), api.Event{Kind: api.EvDrop, Pick: 1}, calm()), c, first, first, api.Repo{})
	tells(t, 3, events(one, beat(2), calm()), c, first, first, first)
	two := events(one, propose(2, 2), calm())
	tells(t, 3, two, c, first, both, first)
	tells(t, 3, events(two, beat(2), calm()), c, both, both, both)
	// Whoever has been down has to hear again what is sure.
	tells(t, 3, events(two, restart(2)), c, first, api.Repo{}, first)
	tells(t, 3, events(two, beat(2), calm(), restart(3)), c, both, both, api.Repo{})
	tells(t, 3, events(two, beat(2), calm(), restart(3), beat(2), calm()), c, both, both, both)
}

// An item that is not sure may be taken back: another leader's comes in its place.
func TestS1TakenBack(t *testing.T) {
	c := cmds(deploy(1, 1, "t", "11"), deploy(1, 2, "t", "22"))
	lost := slices.Repeat([]api.Event{{Kind: api.EvDrop}}, 2)
	l := events(timeout(1), calm(), propose(1, 1), lost, timeout(2), calm(), propose(2, 2), calm(), beat(2), calm())
	second := api.Repo{Entries: []api.Entry{entry("t", 1, version(1, c[1].Table))}, Seats: []api.Seat{seat(1, 2, counts(1))}, Applied: 1}
	tells(t, 3, l, c, second, second, second)
}

// alone is a node that leads, to which these are proposed.
func alone(picks ...int) []api.Event {
	l := events(timeout(1))
	for _, k := range picks {
		l = append(l, propose(1, k))
	}
	return l
}

func TestS1Numbers(t *testing.T) {
	c := cmds(deploy(1, 1, "a", "1"), deploy(2, 1, "b", "2"), deploy(3, 1, "c", "3"))
	for k := 1; k <= 3; k++ {
		name := c[k-1].Table.Name
		want := api.Repo{Entries: []api.Entry{entry(name, 1, version(1, c[k-1].Table))}, Seats: []api.Seat{seat(k, 1, counts(1))}, Applied: 1}
		tells(t, 1, alone(k), c, want)
		tells(t, 1, alone(0, k, 4), c, want)
		if k < 3 {
			tells(t, 1, alone(3, k), c[:k], want)
		}
	}
	for _, k := range []int{0, 4, 5, -1, -2, -3, -4, math.MinInt, math.MaxInt} {
		tells(t, 1, alone(k), c, api.Repo{})
		tells(t, 1, alone(k), nil, api.Repo{})
	}
	tells(t, 1, alone(1), nil, api.Repo{})
}

// They come in the log's order, and as often as they stand there.
func TestS1Order(t *testing.T) {
	c := cmds(deploy(1, 1, "t", "11"), deploy(2, 1, "t", "22"), drop(1, 2, "t"), rollback(2, 2, "t", 1), deploy(1, 3, "t", "33"))
	t1, t2, t3 := c[0].Table, c[1].Table, c[4].Table
	tells(t, 1, alone(2, 1), c, api.Repo{
		Entries: []api.Entry{entry("t", 2, version(1, t2), version(2, t1))},
		Seats:   []api.Seat{seat(2, 1, counts(1)), seat(1, 1, counts(2))},
		Applied: 2,
	})
	tells(t, 1, alone(1, 2, 4), c, api.Repo{
		Entries: []api.Entry{entry("t", 1, version(1, t1), version(2, t2))},
		Seats:   []api.Seat{seat(1, 1, counts(1)), seat(2, 2, counts(1))},
		Applied: 3,
	})
	tells(t, 1, alone(4, 1, 3, 2, 5), c, api.Repo{
		Entries: []api.Entry{entry("t", 1, version(1, t3))},
		Seats:   []api.Seat{seat(2, 2, refuses(api.ErrNone)), seat(1, 3, counts(1))},
		Applied: 4, // the second one of session 2 is old, where it comes
	})
	// A command that comes again is done once.
	once := api.Repo{Entries: []api.Entry{entry("t", 1, version(1, t1))}, Seats: []api.Seat{seat(1, 1, counts(1))}, Applied: 1}
	tells(t, 1, alone(1), c, once)
	tells(t, 1, alone(1, 1, 0, 1), c, once)
	// But again by another number, if it is another session's.
	same := cmds(c[0], c[0])
	same[1].Session = 7
	tells(t, 1, alone(1, 2, 1, 2), same, api.Repo{
		Entries: []api.Entry{entry("t", 2, version(1, t1), version(2, t1))},
		Seats:   []api.Seat{seat(1, 1, counts(1)), seat(7, 1, counts(2))},
		Applied: 2,
	})
}

// What is wrong with a command is a reply, and no error of Repos.
func TestS1WrongCommands(t *testing.T) {
	wrong := says("if", "1")
	c := cmds(
		api.Cmd{}, api.Cmd{Session: 1, Seq: 1, Kind: 9}, api.Cmd{Session: -1, Seq: 2, Kind: api.CmdDrop}, api.Cmd{Session: 2, Seq: 1, Kind: api.CmdDeploy, Table: wrong},
		api.Cmd{Session: 3, Seq: 1, Kind: api.CmdDeploy, Table: endless("t")}, drop(4, 1, "t"), deploy(4, 2, "t", "1"),
	)
	tells(t, 1, alone(1, 2, 3, 4, 5, 6, 7), c, api.Repo{
		Entries: []api.Entry{entry("t", 1, version(1, c[6].Table))},
		Seats:   []api.Seat{seat(1, 1, refuses(api.ErrKind)), seat(2, 1, refuses(api.ErrName)), seat(3, 1, refuses(api.ErrMuch)), seat(4, 2, counts(1))},
		Applied: 5,
	})
}

// endless has tests and expressions that are their own kids.
func endless(name string) api.Table {
	x := says(name, "1")
	tests, exprs := make([]api.Test, 1), make([]api.Expr, 2)
	tests[0] = api.Test{Kind: api.TeOr, Kids: tests}
	exprs[0] = api.Expr{Kind: api.XAdd, Kids: exprs}
	exprs[1] = exprs[0]
	x.Rules[0] = api.Rule{Tests: tests, Outs: exprs[:1]}
	return x
}

// As much as a log takes: what is kept stays within its bounds.
func TestS1FullLog(t *testing.T) {
	var c []api.Cmd
	var picks []int
	for i := range 70 {
		c = append(c, deploy(i%7+1, i+1, "t", fmt.Sprint(i+1)))
		picks = append(picks, i+1)
	}
	// Beside the item that the leader begins with 59 have room.
	tells(t, 1, alone(picks...), c, api.Repo{
		Entries: []api.Entry{entry("t", 59, version(57, c[56].Table), version(58, c[57].Table), version(59, c[58].Table))},
		Seats:   []api.Seat{seat(7, 56, counts(56)), seat(1, 57, counts(57)), seat(2, 58, counts(58)), seat(3, 59, counts(59))},
		Applied: 59,
	})
}

// spare is l with room behind it in which something stands.
func spare[E any](l []E, one E) []E {
	return append(slices.Clone(l), one, one, one, one)[:len(l)]
}

func several() ([]api.Event, []api.Cmd) {
	c := cmds(deploy(1, 1, "t", "11"), deploy(1, 2, "u", "22"), rollback(2, 1, "t", 1), deploy(3, 1, "t", "33"))
	l := events(timeout(1), calm())
	for k := range 4 {
		l = events(l, propose(1, k+1), calm())
	}
	return events(l, beat(1), calm()), c
}

func TestS1OnlyRead(t *testing.T) {
	l, c := several()
	want, _ := desk.Repos(3, l, c)
	// In the room stand a restart of a node, and a command that an item says.
	roomyL, roomyC := spare(l, restart(1)), spare(c, deploy(5, 5, "zz", "1"))
	keptL, keptC := slices.Clone(roomyL[:cap(roomyL)]), slices.Clone(roomyC[:cap(roomyC)])
	if got, err := desk.Repos(3, roomyL, roomyC); err != api.OK || !allAlike(got, want) {
		t.Errorf("%+v, %d comes, not %+v", got, err, want)
	}
	if !slices.Equal(roomyL[:cap(roomyL)], keptL) || !reflect.DeepEqual(roomyC[:cap(roomyC)], keptC) {
		t.Errorf("%+v, %+v is left", roomyL[:cap(roomyL)], roomyC[:cap(roomyC)])
	}
	tells(t, 1, alone(1, 2), spare(cmds(c[0]), c[1]), api.Repo{Entries: []api.Entry{entry("t", 1, version(1, c[0].Table))}, Seats: []api.Seat{seat(1, 1, counts(1))}, Applied: 1})
}

// scribble writes over all lists of r, and the room behind them.
func scribble(r api.Repo) {
	for _, e := range r.Entries[:cap(r.Entries)] {
		for i := range e.Kept[:cap(e.Kept)] {
			e.Kept[:cap(e.Kept)][i] = api.Version{Number: 88}
		}
	}
	for i := range r.Entries[:cap(r.Entries)] {
		r.Entries[:cap(r.Entries)][i] = api.Entry{Name: "scribble"}
	}
	for i := range r.Seats[:cap(r.Seats)] {
		r.Seats[:cap(r.Seats)][i] = api.Seat{Session: 88}
	}
}

// The nodes have repos of their own, whoever else says the same.
func TestS1AnswersAreNewMemory(t *testing.T) {
	l, c := several()
	want, _ := desk.Repos(3, l, c)
	if len(want) != 3 || want[0].Applied != 4 || !alike(want[0], want[1]) || !alike(want[0], want[2]) {
		t.Fatalf("%+v comes", want)
	}
	for k := range 3 {
		got, _ := desk.Repos(3, l, c)
		scribble(got[k])
		for i := range 3 {
			if i != k && !alike(got[i], want[i]) {
				t.Errorf("%d is written over, and node %d has %+v", k, i, got[i])
			}
		}
		again, _ := desk.Repos(3, l, c)
		if !allAlike(again, want) {
			t.Errorf("%+v comes, not %+v", again, want)
		}
	}
	got, _ := desk.Repos(3, l, c)
	clear(l)
	clear(c)
	if !allAlike(got, want) {
		t.Errorf("%+v comes, not %+v", got, want)
	}
}

func TestS1AtOnce(t *testing.T) {
	l, c := several()
	want, _ := desk.Repos(5, l, c)
	var wait sync.WaitGroup
	for range 8 {
		wait.Go(func() {
			for range 10 {
				if got, err := desk.Repos(5, l, c); err != api.OK || !allAlike(got, want) {
					t.Errorf("%+v, %d comes", got, err)
				}
			}
		})
	}
	wait.Wait()
}

// Repos are what they are to the layers above: they can be gone on with, and asked.
func TestS1ToBeAsked(t *testing.T) {
	l, c := several()
	got, _ := desk.Repos(3, l, c)
	w, _ := cluster.Run(3, l)
	for i, r := range got {
		if w.Nodes[i].Commit != 5 {
			t.Fatalf("%+v comes", w.Nodes[i])
		}
		if v, err := repo.Decide(r, "t", 0, vals(num(7))); err != api.OK || !reflect.DeepEqual(v, num(33)) {
			t.Errorf("%+v, %d comes", v, err)
		}
		next, reply := repo.Apply(r, rollback(2, 2, "t", 1))
		if v, err := repo.Decide(next, "t", 0, vals(num(7))); reply != counts(1) || err != api.OK || !reflect.DeepEqual(v, num(11)) {
			t.Errorf("%+v, %+v, %d comes", reply, v, err)
		}
	}
}
