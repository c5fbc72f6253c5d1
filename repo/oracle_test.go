package repo_test

import (
	"fmt"
	"math/rand"
	"reflect"
	"slices"
	"strconv"
	"testing"

	"verdict/api"
	"verdict/repo"
	"verdict/table"
)

// The chapter's words once more, by another way: nothing is kept but what was done, and all else is told from that.

// deed is a command that was done, and its reply.
type deed struct {
	cmd   api.Cmd
	reply api.Reply
}

type history []deed

// seats are those of the sessions that did something last, each once.
func (h history) seats() []api.Seat {
	var l []api.Seat
	for i := len(h) - 1; i >= 0 && len(l) < 4; i-- {
		c := h[i].cmd
		if !slices.ContainsFunc(l, func(s api.Seat) bool { return s.Session == c.Session }) {
			l = append([]api.Seat{{Session: c.Session, Seq: c.Seq, Reply: h[i].reply}}, l...)
		}
	}
	return l
}

// story is what was done, without fault, to a name since it was dropped.
func (h history) story(name string) history {
	var l history
	for _, d := range h {
		about := d.cmd.Name
		if d.cmd.Kind == api.CmdDeploy {
			about = d.cmd.Table.Name
		}
		switch {
		case d.reply.Err != api.OK || about != name:
		case d.cmd.Kind == api.CmdDrop:
			l = nil
		default:
			l = append(l, d)
		}
	}
	return l
}

// tables are all that were deployed; a version's number is how many there were with it.
func (h history) tables() []api.Table {
	var l []api.Table
	for _, d := range h {
		if d.cmd.Kind == api.CmdDeploy {
			l = append(l, d.cmd.Table)
		}
	}
	return l
}

func (h history) names() []string {
	all := map[string]int{}
	for _, d := range h {
		if d.cmd.Kind == api.CmdDeploy && len(h.story(d.cmd.Table.Name)) > 0 {
			all[d.cmd.Table.Name]++
		}
	}
	var l []string
	for name := range all {
		l = append(l, name)
	}
	slices.SortFunc(l, func(a, b string) int { return slices.Compare([]byte(a), []byte(b)) })
	return l
}

// isKept tells whether the name's version is one of the last three.
func (h history) isKept(name string, number int) bool {
	all := len(h.story(name).tables())
	return number >= 1 && number <= all && number > all-3
}

func (h history) reply(c api.Cmd) api.Reply {
	switch c.Kind {
	case api.CmdDeploy:
		if err := table.Wrong(c.Table); err != api.OK {
			return refuses(err)
		}
		if names := h.names(); !slices.Contains(names, c.Table.Name) && len(names) == 6 {
			return refuses(api.ErrMany)
		}
		return counts(len(h.story(c.Table.Name).tables()) + 1)
	case api.CmdRollback, api.CmdDrop:
		if len(h.story(c.Name)) == 0 {
			return refuses(api.ErrNone)
		}
		if c.Kind == api.CmdDrop {
			return counts(0)
		}
		if !h.isKept(c.Name, c.To) {
			return refuses(api.ErrOld)
		}
		return counts(c.To)
	}
	return refuses(api.ErrKind)
}

// next is what was done, with c, if it is done too, and the reply.
func (h history) next(c api.Cmd) (history, api.Reply) {
	if min(c.Session, c.Seq) < 1 {
		return h, refuses(api.ErrRange)
	}
	for _, s := range h.seats() {
		if s.Session == c.Session && s.Seq == c.Seq {
			return h, s.Reply
		}
		if s.Session == c.Session && s.Seq > c.Seq {
			return h, refuses(api.ErrOld)
		}
	}
	reply := h.reply(c)
	return append(h, deed{c, reply}), reply
}

func (h history) repo() api.Repo {
	r := api.Repo{Seats: h.seats(), Applied: len(h)}
	for _, name := range h.names() {
		story := h.story(name)
		all := story.tables()
		e := api.Entry{Name: name, Next: len(all) + 1, Now: story[len(story)-1].reply.Version}
		for i, t := range all {
			if h.isKept(name, i+1) {
				e.Kept = append(e.Kept, api.Version{Number: i + 1, Table: t})
			}
		}
		r.Entries = append(r.Entries, e)
	}
	return r
}

func (h history) find(name string, version int) (api.Table, api.Errno) {
	story := h.story(name)
	if len(story) == 0 {
		return api.Table{}, api.ErrNone
	}
	if version == 0 {
		version = story[len(story)-1].reply.Version
	}
	if !h.isKept(name, version) {
		return api.Table{}, api.ErrOld
	}
	return story.tables()[version-1], api.OK
}

// dice makes things up, the same ones each time.
type dice struct {
	*rand.Rand
}

func pick[E any](d dice, l ...E) E { return l[d.Intn(len(l))] }

func (d dice) name() string { return pick(d, "t", "u", "tt", "T", "é", "s", "v", "") }

// cmd is of few sessions, and most of its numbers are near those that its session has.
func (d dice) cmd(h history) api.Cmd {
	c := api.Cmd{Session: d.Intn(7), Kind: pick(d, api.CmdDeploy, api.CmdDeploy, api.CmdDeploy, api.CmdRollback, api.CmdRollback, api.CmdDrop), Name: d.name(), To: d.Intn(8) - 1}
	if d.Intn(3) > 0 {
		c.Name = pick(d, append(h.names(), c.Name)...)
	}
	if d.Intn(3) > 0 {
		c.To = len(h.story(c.Name).tables()) - d.Intn(4)
	}
	c.Table = says(c.Name+d.pickedTail(), strconv.Itoa(d.Intn(1000)))
	if d.Intn(20) == 0 {
		c.Table.Policy = d.Intn(14) - 2
	}
	if d.Intn(20) == 0 {
		c.Kind = d.Intn(8) - 2
	}
	c.Seq = d.Intn(3)
	for _, one := range h {
		if one.cmd.Session == c.Session {
			c.Seq = one.cmd.Seq + pick(d, -1, 0, 1, 1, 1, 2)
		}
	}
	return c
}

// pickedTail makes of some names others.
func (d dice) pickedTail() string { return pick(d, "", "", "", "", "", "", "", "x", " ") }

func TestL1L2L3L4AgainstTheChapter(t *testing.T) {
	d := dice{rand.New(rand.NewSource(12))}
	came := map[string]int{}
	for range 400 {
		var h history
		var r api.Repo
		var l []api.Cmd
		var replies []api.Reply
		for range 60 {
			c := d.cmd(h)
			next, want := h.next(c)
			got, reply := repo.Apply(r, c)
			if reply != want || !alike(got, next.repo()) {
				t.Fatalf("%+v: %+v, %+v comes, not %+v, %+v", c, reply, got, want, next.repo())
			}
			came[fmt.Sprintf("%d, done %v: %d", c.Kind, len(next) > len(h), reply.Err)]++
			h, r, l, replies = next, got, append(l, c), append(replies, reply)
			asks(t, d, h, r)
		}
		if got, all := repo.Run(l); !alike(got, r) || !slices.Equal(all, replies) {
			t.Fatalf("%+v, %+v comes, not %+v, %+v", got, all, r, replies)
		}
	}
	for _, c := range []string{
		"1, done true: 0", "1, done true: 1", "1, done true: 5", "1, done true: 7", "1, done false: 0", "1, done false: 3", "1, done false: 12",
		"2, done true: 0", "2, done true: 6", "2, done true: 12", "2, done false: 3", "3, done true: 0", "3, done true: 6", "0, done true: 1", "4, done true: 1",
	} {
		if came[c] < 20 {
			t.Errorf("%s comes but %d times", c, came[c])
		}
	}
}

// asks checks what is found, of names that are there and others.
func asks(t *testing.T, d dice, h history, r api.Repo) {
	t.Helper()
	name := pick(d, append(h.names(), d.name())...)
	for version := -1; version <= len(h.story(name).tables())+1; version++ {
		want, wantErr := h.find(name, version)
		if got, err := repo.Find(r, name, version); err != wantErr || !reflect.DeepEqual(got, want) {
			t.Fatalf("%q %d: %+v, %d comes, not %+v, %d", name, version, got, err, want, wantErr)
		}
		l := pick(d, vals(num(3)), vals(null), nil)
		v, err := repo.Decide(r, name, version, l)
		told := api.Value{}
		if wantErr == api.OK {
			told, wantErr = table.Decide(want, l)
		}
		if err != wantErr || !reflect.DeepEqual(v, told) {
			t.Fatalf("%q %d: %+v, %d comes, not %+v, %d", name, version, v, err, told, wantErr)
		}
	}
}
