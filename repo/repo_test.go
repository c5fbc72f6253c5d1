package repo_test

import (
	"math"
	"reflect"
	"slices"
	"strings"
	"sync"
	"testing"

	"verdict/api"
	"verdict/repo"
	"verdict/syn"
	"verdict/table"
	"verdict/trials"
)

var null = api.Value{Kind: api.VNull}

func num(coef int64) api.Value {
	return api.Value{Kind: api.VNum, Num: api.Dec{Coef: coef}}
}

func vals(l ...api.Value) []api.Value { return l }

func cmds(l ...api.Cmd) []api.Cmd { return l }

// test is what the text says: one that can't be read is a mistake in these tests.
func test(s string) api.Test {
	x, fault := trials.Read(s)
	if fault.Err != api.OK {
		panic(s)
	}
	return x
}

func expr(s string) api.Expr {
	x, fault := syn.Read(s)
	if fault.Err != api.OK {
		panic(s)
	}
	return x
}

// says is a table with that name that says what the text of an expression says, whatever number comes.
func says(name, out string) api.Table {
	return api.Table{
		Name:   name,
		Policy: api.PolFirst,
		Ins:    []api.Column{{Name: "a", Kind: api.TyNum}},
		Outs:   []api.Column{{Name: "o", Kind: api.TyNum}},
		Rules:  []api.Rule{{Tests: []api.Test{test("-")}, Outs: []api.Expr{expr(out)}}},
	}
}

func deploy(session, seq int, name, out string) api.Cmd {
	return api.Cmd{Session: session, Seq: seq, Kind: api.CmdDeploy, Table: says(name, out)}
}

func rollback(session, seq int, name string, to int) api.Cmd {
	return api.Cmd{Session: session, Seq: seq, Kind: api.CmdRollback, Name: name, To: to}
}

func drop(session, seq int, name string) api.Cmd {
	return api.Cmd{Session: session, Seq: seq, Kind: api.CmdDrop, Name: name}
}

func counts(version int) api.Reply { return api.Reply{Version: version} }

func refuses(err api.Errno) api.Reply { return api.Reply{Err: err} }

// keeper has a repo, to which commands are applied one by one.
type keeper struct {
	*testing.T
	repo api.Repo
}

// does applies the command, and checks the reply.
func (k *keeper) does(c api.Cmd, want api.Reply) {
	k.Helper()
	next, reply := repo.Apply(k.repo, c)
	if reply != want {
		k.Errorf("%d %d %d: %+v comes, not %+v", c.Session, c.Seq, c.Kind, reply, want)
	}
	k.repo = next
}

// stays applies the command, and checks the reply, and that nothing else happens.
func (k *keeper) stays(c api.Cmd, want api.Reply) {
	k.Helper()
	before := k.repo
	k.does(c, want)
	if !alike(k.repo, before) {
		k.Errorf("%+v is left, not %+v", k.repo, before)
	}
}

// fails applies the command, which takes its seat, and checks the reply, and that no entry changes.
func (k *keeper) fails(c api.Cmd, want api.Errno) {
	k.Helper()
	before := k.repo
	k.does(c, refuses(want))
	if !reflect.DeepEqual(k.repo.Entries, before.Entries) {
		k.Errorf("%+v is left, not %+v", k.repo.Entries, before.Entries)
	}
	seat := api.Seat{Session: c.Session, Seq: c.Seq, Reply: refuses(want)}
	if n := len(k.repo.Seats); k.repo.Applied != before.Applied+1 || n == 0 || k.repo.Seats[n-1] != seat {
		k.Errorf("%d, %+v is left", k.repo.Applied, k.repo.Seats)
	}
}

func (k *keeper) seats(want ...api.Seat) {
	k.Helper()
	if !slices.Equal(k.repo.Seats, want) {
		k.Errorf("%+v are the seats, not %+v", k.repo.Seats, want)
	}
}

func (k *keeper) names(want ...string) {
	k.Helper()
	var got []string
	for _, e := range k.repo.Entries {
		got = append(got, e.Name)
	}
	if !slices.Equal(got, want) {
		k.Errorf("%q are the names, not %q", got, want)
	}
}

// entry checks a name's numbers: the next one, the one that counts, and those that are kept.
func (k *keeper) entry(name string, next, now int, kept ...int) {
	k.Helper()
	for _, e := range k.repo.Entries {
		if e.Name != name {
			continue
		}
		var got []int
		for _, v := range e.Kept {
			got = append(got, v.Number)
		}
		if e.Next != next || e.Now != now || !slices.Equal(got, kept) {
			k.Errorf("%s: %d, %d, %v comes, not %d, %d, %v", name, e.Next, e.Now, got, next, now, kept)
		}
		return
	}
	k.Errorf("%s has no entry", name)
}

// found checks what a version says, and that it is this table.
func (k *keeper) found(name string, version int, want api.Table, says int64) {
	k.Helper()
	if got, err := repo.Find(k.repo, name, version); err != api.OK || !reflect.DeepEqual(got, want) {
		k.Errorf("%s %d: %+v, %d comes, not %+v", name, version, got, err, want)
	}
	if got, err := repo.Decide(k.repo, name, version, vals(num(7))); err != api.OK || !reflect.DeepEqual(got, num(says)) {
		k.Errorf("%s %d: %+v, %d comes, not %d", name, version, got, err, says)
	}
}

func (k *keeper) missing(name string, version int, want api.Errno) {
	k.Helper()
	if got, err := repo.Find(k.repo, name, version); err != want || !reflect.DeepEqual(got, api.Table{}) {
		k.Errorf("%s %d: %+v, %d comes, not %d", name, version, got, err, want)
	}
	// Ahead of what is wrong with the values.
	for _, l := range [][]api.Value{vals(num(7)), nil, vals(api.Value{})} {
		if got, err := repo.Decide(k.repo, name, version, l); err != want || !reflect.DeepEqual(got, api.Value{}) {
			k.Errorf("%s %d: %+v, %d comes, not %d", name, version, got, err, want)
		}
	}
}

// alike takes nil and no entries for the same.
func alike(a, b api.Repo) bool {
	sameEntry := func(a, b api.Entry) bool {
		return a.Name == b.Name && a.Next == b.Next && a.Now == b.Now && slices.EqualFunc(a.Kept, b.Kept, func(a, b api.Version) bool { return reflect.DeepEqual(a, b) })
	}
	return a.Applied == b.Applied && slices.Equal(a.Seats, b.Seats) && slices.EqualFunc(a.Entries, b.Entries, sameEntry)
}

func TestL1NothingAtFirst(t *testing.T) {
	r, replies := repo.Run(nil)
	if !alike(r, api.Repo{}) || len(replies) != 0 {
		t.Errorf("%+v, %v comes", r, replies)
	}
	if r, replies = repo.Run(cmds()); !alike(r, api.Repo{}) || len(replies) != 0 {
		t.Errorf("%+v, %v comes", r, replies)
	}
	k := keeper{T: t, repo: api.Repo{Entries: []api.Entry{}, Seats: []api.Seat{}}}
	for range 2 {
		k.missing("t", 0, api.ErrNone)
		k.missing("t", 1, api.ErrNone)
		k.missing("", 0, api.ErrNone)
		k.fails(drop(1, k.repo.Applied+1, "t"), api.ErrNone)
		k.fails(rollback(1, k.repo.Applied+1, "t", 0), api.ErrNone)
		k.repo = api.Repo{}
	}
}

// Run is Apply of each, and tells all replies, those of commands that come again too.
func TestL1Run(t *testing.T) {
	l := cmds(
		deploy(1, 1, "t", "1"), deploy(1, 1, "t", "2"), deploy(1, 2, "t", "2"), deploy(0, 3, "t", "3"), drop(1, 1, "t"),
		rollback(2, 5, "t", 1), rollback(2, 6, "t", 9), api.Cmd{Session: 3, Seq: 1}, deploy(2, 7, "u", "4"), drop(3, 2, "t"),
	)
	want := []api.Reply{counts(1), counts(1), counts(2), refuses(api.ErrRange), refuses(api.ErrOld), counts(1), refuses(api.ErrOld), refuses(api.ErrKind), counts(1), counts(0)}
	for n := range len(l) + 1 {
		k := keeper{T: t}
		for i, c := range l[:n] {
			k.does(c, want[i])
		}
		r, replies := repo.Run(l[:n])
		if !alike(r, k.repo) || !slices.Equal(replies, want[:n]) {
			t.Errorf("%+v, %v comes, not %+v, %v", r, replies, k.repo, want[:n])
		}
	}
}

func TestL2Range(t *testing.T) {
	k := keeper{T: t}
	k.does(deploy(1, 1, "t", "1"), counts(1))
	for _, wrong := range []int{0, -1, math.MinInt} {
		k.stays(deploy(wrong, 1, "t", "2"), refuses(api.ErrRange))
		k.stays(drop(1, wrong, "t"), refuses(api.ErrRange))
		k.stays(drop(wrong, wrong, "t"), refuses(api.ErrRange))
		// Ahead of what else is wrong, and of what is old.
		k.stays(api.Cmd{Session: wrong, Seq: 2, Kind: 9}, refuses(api.ErrRange))
		k.stays(api.Cmd{Session: 1, Seq: wrong, Kind: 9}, refuses(api.ErrRange))
	}
	k.does(deploy(math.MaxInt, math.MaxInt, "t", "2"), counts(2))
	k.stays(deploy(math.MaxInt, math.MaxInt, "t", "3"), counts(2))
	k.stays(deploy(math.MaxInt, math.MaxInt-1, "t", "3"), refuses(api.ErrOld))
	k.seats(api.Seat{Session: 1, Seq: 1, Reply: counts(1)}, api.Seat{Session: math.MaxInt, Seq: math.MaxInt, Reply: counts(2)})
}

// A repo that nobody made may have a seat of a session that is none: the range comes first all the same.
func TestL2RangeAheadOfSeats(t *testing.T) {
	k := keeper{T: t, repo: api.Repo{Seats: []api.Seat{{Session: 0, Seq: 0, Reply: counts(5)}, {Session: -1, Seq: 3, Reply: counts(5)}}}}
	k.stays(drop(0, 0, "t"), refuses(api.ErrRange))
	k.stays(drop(-1, 3, "t"), refuses(api.ErrRange))
}

func TestL2Again(t *testing.T) {
	k := keeper{T: t}
	k.does(deploy(1, 3, "t", "1"), counts(1))
	k.does(deploy(2, 3, "t", "2"), counts(2))
	// Whatever it says, it has the reply of the one that was done.
	k.stays(deploy(1, 3, "t", "1"), counts(1))
	k.stays(drop(1, 3, "t"), counts(1))
	k.stays(api.Cmd{Session: 1, Seq: 3, Kind: 77}, counts(1))
	k.stays(api.Cmd{Session: 1, Seq: 3, Kind: api.CmdDeploy}, counts(1))
	for seq := 1; seq < 3; seq++ {
		k.stays(drop(1, seq, "t"), refuses(api.ErrOld))
		k.stays(api.Cmd{Session: 1, Seq: seq}, refuses(api.ErrOld))
	}
	// A reply that tells an error is told again too, even where it would be none now.
	k.fails(rollback(1, 4, "u", 1), api.ErrNone)
	k.does(deploy(2, 4, "u", "5"), counts(1))
	k.stays(rollback(1, 4, "u", 1), refuses(api.ErrNone))
	k.stays(rollback(1, 3, "u", 1), refuses(api.ErrOld))
	// Numbers may be left out.
	k.does(rollback(1, 100, "u", 1), counts(1))
	k.stays(drop(1, 99, "u"), refuses(api.ErrOld))
	k.does(drop(2, 5, "u"), counts(0))
	k.stays(drop(2, 5, "t"), counts(0))
	if k.repo.Applied != 6 {
		t.Errorf("%d are applied", k.repo.Applied)
	}
}

func TestL2Seats(t *testing.T) {
	seat := func(session, seq, version int) api.Seat {
		return api.Seat{Session: session, Seq: seq, Reply: counts(version)}
	}
	k := keeper{T: t}
	for session := 1; session <= api.MaxSeats; session++ {
		k.does(deploy(session, 1, "t", "1"), counts(session))
	}
	k.seats(seat(1, 1, 1), seat(2, 1, 2), seat(3, 1, 3), seat(4, 1, 4))
	// Who is there again goes to the end, from the first, a middle and the last place; nobody goes for it.
	k.does(deploy(1, 2, "t", "1"), counts(5))
	k.seats(seat(2, 1, 2), seat(3, 1, 3), seat(4, 1, 4), seat(1, 2, 5))
	k.does(deploy(4, 2, "t", "1"), counts(6))
	k.seats(seat(2, 1, 2), seat(3, 1, 3), seat(1, 2, 5), seat(4, 2, 6))
	k.does(deploy(4, 3, "t", "1"), counts(7))
	k.seats(seat(2, 1, 2), seat(3, 1, 3), seat(1, 2, 5), seat(4, 3, 7))
	// Neither what comes again nor what is old moves a seat.
	k.stays(deploy(2, 1, "t", "1"), counts(2))
	k.stays(deploy(1, 1, "t", "1"), refuses(api.ErrOld))
	k.does(deploy(9, 1, "t", "1"), counts(8))
	k.seats(seat(3, 1, 3), seat(1, 2, 5), seat(4, 3, 7), seat(9, 1, 8))
	// Whose seat is gone is as one who was never there: the command is done once more.
	k.does(deploy(2, 1, "t", "1"), counts(9))
	k.seats(seat(1, 2, 5), seat(4, 3, 7), seat(9, 1, 8), seat(2, 1, 9))
	k.fails(api.Cmd{Session: 3, Seq: 1}, api.ErrKind)
	k.seats(seat(4, 3, 7), seat(9, 1, 8), seat(2, 1, 9), api.Seat{Session: 3, Seq: 1, Reply: refuses(api.ErrKind)})
	if k.repo.Applied != 10 {
		t.Errorf("%d are applied", k.repo.Applied)
	}
}

// The document's example: the second deployment of a name is version 2.
func TestL3Deploy(t *testing.T) {
	k := keeper{T: t}
	k.does(deploy(1, 1, "t", "11"), counts(1))
	k.entry("t", 2, 1, 1)
	k.does(deploy(1, 2, "t", "22"), counts(2))
	k.entry("t", 3, 2, 1, 2)
	k.does(deploy(2, 1, "t", "33"), counts(3))
	k.entry("t", 4, 3, 1, 2, 3)
	k.does(deploy(1, 3, "t", "44"), counts(4))
	k.entry("t", 5, 4, 2, 3, 4)
	k.does(deploy(1, 4, "t", "55"), counts(5))
	k.entry("t", 6, 5, 3, 4, 5)
	k.missing("t", 1, api.ErrOld)
	k.missing("t", 2, api.ErrOld)
	k.found("t", 3, says("t", "33"), 33)
	k.found("t", 4, says("t", "44"), 44)
	k.found("t", 5, says("t", "55"), 55)
	k.found("t", 0, says("t", "55"), 55)
	k.missing("t", 6, api.ErrOld)
	// Each name counts by itself, and the same table is a version as often as it comes.
	k.does(deploy(1, 5, "u", "55"), counts(1))
	k.does(deploy(1, 6, "u", "55"), counts(2))
	k.entry("u", 3, 2, 1, 2)
	k.entry("t", 6, 5, 3, 4, 5)
	k.names("t", "u")
}

// The version that is deployed counts, whichever one did so ahead of it.
func TestL3DeployBehindRollback(t *testing.T) {
	k := keeper{T: t}
	for i := range api.MaxKept {
		k.does(deploy(1, i+1, "t", "1"), counts(i+1))
	}
	k.does(rollback(1, 4, "t", 1), counts(1))
	k.does(deploy(1, 5, "t", "4"), counts(4))
	k.entry("t", 5, 4, 2, 3, 4)
	k.does(rollback(1, 6, "t", 3), counts(3))
	k.does(deploy(1, 7, "t", "5"), counts(5))
	k.entry("t", 6, 5, 3, 4, 5)
}

func TestL3Many(t *testing.T) {
	k := keeper{T: t}
	for i, name := range []string{"f", "b", "e", "a", "d", "c"} {
		k.does(deploy(1, i+1, name, "1"), counts(1))
	}
	k.names("a", "b", "c", "d", "e", "f")
	k.fails(deploy(1, 7, "g", "1"), api.ErrMany)
	k.fails(deploy(1, 8, "aa", "1"), api.ErrMany)
	k.missing("g", 0, api.ErrNone)
	// What is wrong with the table comes first.
	k.fails(deploy(1, 9, "if", "1"), api.ErrName)
	wrong := deploy(1, 10, "g", "1")
	wrong.Table.Ins = nil
	k.fails(wrong, api.ErrMany)
	wrong.Seq, wrong.Table = 11, says("g", "1")
	wrong.Table.Policy = 0
	k.fails(wrong, api.ErrKind)
	// A name that has an entry needs no other one.
	k.does(deploy(1, 12, "c", "2"), counts(2))
	k.does(drop(1, 13, "c"), counts(0))
	k.does(deploy(1, 14, "g", "3"), counts(1))
	k.names("a", "b", "d", "e", "f", "g")
	k.fails(deploy(1, 15, "c", "1"), api.ErrMany)
}

// Names stand byte by byte; one that begins another one stands ahead of it.
func TestL3Order(t *testing.T) {
	want := []string{"A", "Z", "a", "aa", "b", "é"}
	for i := range want {
		k := keeper{T: t}
		for j := range want {
			// 5 and 6 have no divisor in common: each name comes once.
			k.does(deploy(1, j+1, want[(i+5*j)%6], "1"), counts(1))
		}
		k.names(want...)
		k.does(drop(2, 1, want[i]), counts(0))
		k.names(slices.Delete(slices.Clone(want), i, i+1)...)
		k.missing(want[i], 0, api.ErrNone)
		for j, name := range want {
			if i != j {
				k.found(name, 1, says(name, "1"), 1)
			}
		}
	}
}

// Of each chapter's errors one: all of them are told as Wrong tells them, and change no entry.
func TestL3WrongTables(t *testing.T) {
	k := keeper{T: t}
	k.does(deploy(1, 1, "t", "1"), counts(1))
	endless := make([]api.Test, api.MaxTests)
	for i := range endless {
		endless[i] = api.Test{Kind: api.TeNot, Kids: endless}
	}
	for i, c := range []struct {
		spoil func(x *api.Table)
		want  api.Errno
	}{
		{func(x *api.Table) { *x = api.Table{} }, api.ErrName},
		{func(x *api.Table) { x.Name = "" }, api.ErrName},
		{func(x *api.Table) { x.Name = "t t" }, api.ErrName},
		{func(x *api.Table) { x.Policy = 11 }, api.ErrKind},
		{func(x *api.Table) { x.Ins = nil }, api.ErrMany},
		{func(x *api.Table) { x.Outs[0].Kind = api.TyText }, api.ErrType},
		{func(x *api.Table) { x.Policy, x.Outs[0].Kind = api.PolSum, api.TyText }, api.ErrFit},
		{func(x *api.Table) { x.Rules = slices.Repeat(x.Rules, api.MaxRules+1) }, api.ErrMany},
		{func(x *api.Table) { x.Rules[0].Tests[0] = endless[0] }, api.ErrMuch},
		{func(x *api.Table) { x.Rules[0].Tests[0] = api.Test{Kind: api.TeLt, A: num(1000000001)} }, api.ErrRange},
		{func(x *api.Table) { x.Rules[0].Outs[0] = expr("c") }, api.ErrName},
	} {
		wrong := deploy(1, i+2, "t", "2")
		c.spoil(&wrong.Table)
		if err := table.Wrong(wrong.Table); err != c.want {
			t.Fatalf("%d: %d is wrong, not %d", i, err, c.want)
		}
		k.fails(wrong, c.want)
		k.stays(wrong, refuses(c.want))
	}
	k.entry("t", 2, 1, 1)
}

func TestL3Rollback(t *testing.T) {
	k := keeper{T: t}
	seq := 0
	next := func() int { seq++; return seq }
	for i, out := range []string{"11", "22", "33", "44", "55"} {
		k.does(deploy(1, next(), "t", out), counts(i+1))
	}
	for _, to := range []int{3, 5, 4, 4, 3} {
		k.does(rollback(1, next(), "t", to), counts(to))
		k.entry("t", 6, to, 3, 4, 5)
		k.found("t", 0, says("t", []string{"33", "44", "55"}[to-3]), int64(11*to))
		k.found("t", 5, says("t", "55"), 55)
	}
	for _, to := range []int{0, 1, 2, 6, 7, -1, -3, math.MinInt, math.MaxInt} {
		k.fails(rollback(1, next(), "t", to), api.ErrOld)
		k.entry("t", 6, 3, 3, 4, 5)
		k.fails(rollback(1, next(), "u", to), api.ErrNone)
		k.fails(rollback(1, next(), "", to), api.ErrNone)
	}
}

func TestL3Drop(t *testing.T) {
	k := keeper{T: t}
	k.does(deploy(1, 1, "t", "1"), counts(1))
	k.does(deploy(1, 2, "t", "2"), counts(2))
	k.does(deploy(1, 3, "s", "3"), counts(1))
	k.does(deploy(1, 4, "u", "4"), counts(1))
	k.does(drop(1, 5, "t"), counts(0))
	k.names("s", "u")
	for version := range 4 {
		k.missing("t", version, api.ErrNone)
	}
	k.fails(drop(1, 6, "t"), api.ErrNone)
	k.fails(rollback(1, 7, "t", 1), api.ErrNone)
	k.fails(drop(1, 8, ""), api.ErrNone)
	k.found("s", 0, says("s", "3"), 3)
	k.found("u", 0, says("u", "4"), 4)
	// The name is as one that never was.
	k.does(deploy(1, 9, "t", "5"), counts(1))
	k.entry("t", 2, 1, 1)
	k.names("s", "t", "u")
	for i, name := range []string{"s", "u", "t"} {
		k.does(drop(2, i+1, name), counts(0))
	}
	k.names()
}

func TestL3Kinds(t *testing.T) {
	k := keeper{T: t}
	k.does(deploy(1, 1, "t", "1"), counts(1))
	for i, kind := range []int{0, 4, 5, -1, 99, math.MinInt, math.MaxInt} {
		c := deploy(1, i+2, "t", "2")
		c.Kind, c.Name, c.To = kind, "t", 1
		k.fails(c, api.ErrKind)
		// Whatever else is wrong.
		k.fails(api.Cmd{Session: 2, Seq: i + 1, Kind: kind}, api.ErrKind)
	}
}

// Fields that a kind does not name mean nothing.
func TestL3OtherFields(t *testing.T) {
	k := keeper{T: t}
	c := deploy(1, 1, "t", "1")
	c.Name, c.To = "u", -7
	k.does(c, counts(1))
	c.Seq, c.Name = 2, "if"
	k.does(c, counts(2))
	k.names("t")
	c = rollback(1, 3, "t", 1)
	c.Table = says("u", "9")
	k.does(c, counts(1))
	c = rollback(1, 4, "t", 2)
	c.Table = api.Table{Name: "if", Rules: make([]api.Rule, 50)}
	k.does(c, counts(2))
	c = drop(1, 5, "t")
	c.Table, c.To = says("u", "9"), 44
	k.does(c, counts(0))
	k.names()
	c = drop(1, 6, "u")
	c.Table = says("t", "9")
	k.fails(c, api.ErrNone)
}

func TestL4Find(t *testing.T) {
	k := keeper{T: t}
	k.does(deploy(1, 1, "tt", "11"), counts(1))
	k.does(deploy(1, 2, "tt", "22"), counts(2))
	for _, name := range []string{"", "t", "ttt", "TT", "u", "if", "tt "} {
		for _, version := range []int{0, 1, 2, 3, -1} {
			k.missing(name, version, api.ErrNone)
		}
	}
	for _, version := range []int{3, 4, -1, -2, math.MinInt, math.MaxInt} {
		k.missing("tt", version, api.ErrOld)
	}
	k.found("tt", 0, says("tt", "22"), 22)
	k.found("tt", 1, says("tt", "11"), 11)
	k.found("tt", 2, says("tt", "22"), 22)
	k.does(rollback(1, 3, "tt", 1), counts(1))
	k.found("tt", 0, says("tt", "11"), 11)
	k.found("tt", 2, says("tt", "22"), 22)
}

// What was deployed comes back whole: all its lists, and what stands in fields that mean nothing.
func TestL4AsItWasDeployed(t *testing.T) {
	fill := func() api.Table {
		litter := api.Value{Kind: api.VNum, Yes: true, Num: api.Dec{Coef: 3}, Text: "litter", List: make([]api.Value, 300)}
		x := says("t", "a + 1")
		x.Policy = api.PolPriority
		x.Ins = append(x.Ins, api.Column{Name: "b", Kind: api.TyText})
		x.Outs = append(x.Outs, api.Column{Name: "q", Kind: api.TyNum, Order: vals(litter, num(5))})
		x.Rules = []api.Rule{
			{Tests: []api.Test{test("not(3, [4..9))"), test(`"x", "y"`)}, Outs: []api.Expr{expr("a * 2"), expr("item([1, 2], a)")}},
			{Tests: []api.Test{{Kind: api.TeAny, A: litter, Kids: make([]api.Test, 30)}, test("-")}, Outs: []api.Expr{{Kind: api.XName, Name: "a", Val: litter}, expr("5")}},
		}
		return x
	}
	k := keeper{T: t}
	k.does(api.Cmd{Session: 1, Seq: 1, Kind: api.CmdDeploy, Table: fill()}, counts(1))
	if got, err := repo.Find(k.repo, "t", 1); err != api.OK || !reflect.DeepEqual(got, fill()) {
		t.Errorf("%+v, %d comes", got, err)
	}
	want := api.Value{Kind: api.VList, List: vals(num(7), num(5))}
	if got, err := repo.Decide(k.repo, "t", 0, vals(num(7), null)); err != api.OK || !reflect.DeepEqual(got, want) {
		t.Errorf("%+v, %d comes", got, err)
	}
}

// Behind what Find says comes what the table says, errors too.
func TestL4Decide(t *testing.T) {
	k := keeper{T: t}
	many := "[1" + strings.Repeat(", 1", 69) + "]"
	k.does(deploy(1, 1, "t", "a * 2"), counts(1))
	k.does(deploy(1, 2, "t", "count(for x in "+many+" return count("+many+"))"), counts(2))
	twice := deploy(1, 3, "t", "3")
	twice.Table.Policy = api.PolUnique
	twice.Table.Rules = slices.Repeat(twice.Table.Rules, 2)
	k.does(twice, counts(3))
	for _, c := range []struct {
		version int
		vals    []api.Value
		want    api.Value
		err     api.Errno
	}{
		{1, vals(num(4)), num(8), api.OK},
		{1, vals(null), null, api.OK},
		{1, nil, api.Value{}, api.ErrMany},
		{1, vals(), api.Value{}, api.ErrMany},
		{1, vals(num(4), num(4)), api.Value{}, api.ErrMany},
		{1, vals(api.Value{}), api.Value{}, api.ErrKind},
		{1, vals(num(10)), api.Value{}, api.ErrForm},
		{1, vals(api.Value{Kind: api.VBool}), api.Value{}, api.ErrType},
		{2, vals(num(4)), api.Value{}, api.ErrMuch},
		{3, vals(num(4)), api.Value{}, api.ErrFit},
		{0, vals(num(4)), api.Value{}, api.ErrFit},
	} {
		got, err := repo.Decide(k.repo, "t", c.version, c.vals)
		if err != c.err || !reflect.DeepEqual(got, c.want) {
			t.Errorf("%d, %+v: %+v, %d comes, not %+v, %d", c.version, c.vals, got, err, c.want, c.err)
		}
		x, _ := repo.Find(k.repo, "t", c.version)
		if told, toldErr := table.Decide(x, c.vals); err != toldErr || !reflect.DeepEqual(got, told) {
			t.Errorf("%d, %+v: %+v, %d comes, not %+v, %d", c.version, c.vals, got, err, told, toldErr)
		}
	}
}

// spare is l with room behind it in which something stands.
func spare[E any](l []E, one E) []E {
	return append(slices.Clone(l), one, one, one, one)[:len(l)]
}

// roomy is a repo that is full, with spare room behind all its lists.
func roomy() api.Repo {
	var l []api.Cmd
	for i, name := range []string{"a", "c", "e", "g", "i"} {
		for j := range api.MaxKept {
			l = append(l, deploy(i+1, j+1, name, "1"))
		}
	}
	r, _ := repo.Run(l)
	r.Entries = spare(r.Entries, api.Entry{Name: "zz", Next: 44})
	for i := range r.Entries {
		r.Entries[i].Kept = spare(r.Entries[i].Kept, api.Version{Number: 44, Table: says("zz", "44")})
	}
	r.Seats = spare(r.Seats, api.Seat{Session: 44, Seq: 44})
	return r
}

// whole is r with all its lists as long as there is room.
func whole(r api.Repo) api.Repo {
	r.Entries, r.Seats = slices.Clone(r.Entries[:cap(r.Entries)]), r.Seats[:cap(r.Seats)]
	for i, e := range r.Entries {
		r.Entries[i].Kept = e.Kept[:cap(e.Kept)]
	}
	return r
}

// kinds are commands of all kinds that a roomy repo does or refuses.
func kinds() []api.Cmd {
	return cmds(
		deploy(9, 1, "c", "2"), deploy(9, 1, "d", "2"), deploy(9, 1, "k", "2"), deploy(9, 1, "a0", "2"), deploy(9, 1, "if", "2"), deploy(3, 9, "c", "2"),
		rollback(9, 1, "c", 2), rollback(9, 1, "c", 44), rollback(9, 1, "zz", 44), rollback(5, 4, "a", 1),
		drop(9, 1, "a"), drop(9, 1, "i"), drop(2, 8, "e"), drop(9, 1, "zz"), drop(3, 3, "a"), drop(3, 2, "a"), drop(44, 44, "a"), drop(0, 1, "a"), api.Cmd{Session: 9, Seq: 1},
	)
}

// Neither lists nor the spare room behind them are changed, nor looked at.
func TestL2L3OnlyRead(t *testing.T) {
	for i, c := range kinds() {
		r, kept := roomy(), roomy()
		// The room is as its maker left it: two makers leave the same.
		if !reflect.DeepEqual(whole(r), whole(kept)) {
			t.Fatal("rooms differ")
		}
		next, reply := repo.Apply(r, c)
		if !reflect.DeepEqual(whole(r), whole(kept)) || !reflect.DeepEqual(c, kinds()[i]) {
			t.Errorf("%d: %+v, %+v is left", i, r, c)
		}
		tight := roomy()
		tight.Entries, tight.Seats = slices.Clip(slices.Clone(tight.Entries)), slices.Clip(slices.Clone(tight.Seats))
		for j, e := range tight.Entries {
			tight.Entries[j].Kept = slices.Clip(slices.Clone(e.Kept))
		}
		if want, wantReply := repo.Apply(tight, c); !alike(next, want) || reply != wantReply {
			t.Errorf("%d: %+v, %+v comes, not %+v, %+v", i, next, reply, want, wantReply)
		}
	}
	l := kinds()
	full := append(l, deploy(1, 1, "zz", "1"))
	r, replies := repo.Run(full[:len(l)])
	want, wantReplies := repo.Run(slices.Clip(slices.Clone(l)))
	if !alike(r, want) || !slices.Equal(replies, wantReplies) {
		t.Errorf("%+v, %+v comes", r, replies)
	}
	if !reflect.DeepEqual(full, append(kinds(), deploy(1, 1, "zz", "1"))) {
		t.Errorf("%+v is left", full)
	}
}

// scribble writes over all lists of r, and the room behind them.
func scribble(r api.Repo) {
	for _, e := range r.Entries[:cap(r.Entries)] {
		for i := range e.Kept[:cap(e.Kept)] {
			e.Kept[:cap(e.Kept)][i] = api.Version{Number: 88}
		}
	}
	for i := range r.Entries[:cap(r.Entries)] {
		r.Entries[:cap(r.Entries)][i] = api.Entry{Name: "scribble"}
	}
	for i := range r.Seats[:cap(r.Seats)] {
		r.Seats[:cap(r.Seats)][i] = api.Seat{Session: 88}
	}
}

// What is answered shares no list with what was handed in, whether anything happened or not: each may be changed.
func TestL2L3AnswersAreNewMemory(t *testing.T) {
	for i, c := range kinds() {
		r := roomy()
		next, _ := repo.Apply(r, c)
		want, _ := repo.Apply(roomy(), c)
		scribble(r)
		if !alike(next, want) {
			t.Errorf("%d: %+v comes, not %+v", i, next, want)
		}
		r = roomy()
		next, _ = repo.Apply(r, c)
		scribble(next)
		if !alike(r, roomy()) {
			t.Errorf("%d: %+v is left", i, r)
		}
	}
	l := kinds()
	r, replies := repo.Run(l)
	want, wantReplies := repo.Run(kinds())
	clear(l)
	if !alike(r, want) || !slices.Equal(replies, wantReplies) {
		t.Errorf("%+v, %+v comes", r, replies)
	}
	scribble(r)
	clear(replies)
	if r, replies = repo.Run(kinds()); !alike(r, want) || !slices.Equal(replies, wantReplies) {
		t.Errorf("%+v, %+v comes", r, replies)
	}
}

// endlessTable has tests and expressions that are their own kids.
func endlessTable(name string) api.Table {
	x := says(name, "1")
	tests, exprs := make([]api.Test, 1), make([]api.Expr, 2)
	tests[0] = api.Test{Kind: api.TeOr, Kids: tests}
	exprs[0] = api.Expr{Kind: api.XAdd, Kids: exprs}
	exprs[1] = exprs[0]
	x.Rules[0] = api.Rule{Tests: tests, Outs: exprs[:1]}
	return x
}

// odd are repos that neither Run nor Apply made.
func odd() []api.Repo {
	endless := api.Version{Number: 1, Table: endlessTable("t")}
	return []api.Repo{
		{Entries: make([]api.Entry, 50), Seats: make([]api.Seat, 50), Applied: math.MaxInt},
		{Entries: []api.Entry{{Name: "t", Next: math.MaxInt, Now: 7}}, Applied: math.MinInt},
		{Entries: []api.Entry{{Name: "t", Next: -3, Now: -4, Kept: make([]api.Version, 20)}}},
		{Entries: []api.Entry{{Name: "z"}, {Name: "t"}, {Name: "t"}, {Name: "a"}}, Seats: []api.Seat{{Session: 1, Seq: -5}, {Session: 1, Seq: 9}}},
		{Entries: []api.Entry{{Name: "t", Next: 2, Now: 1, Kept: []api.Version{endless, endless}}}},
		{Entries: []api.Entry{{Name: "\xff"}, {}, {Name: "t", Kept: []api.Version{endless}}}, Seats: make([]api.Seat, 5)},
	}
}

// Of repos that nobody made nothing is promised but that no call panics, and that each ends.
func TestL1OddRepos(t *testing.T) {
	l := append(kinds(), deploy(1, 1, "t", "1"), rollback(1, 1, "t", 0), rollback(1, 1, "t", 1), drop(1, 1, "t"), drop(1, 1, ""), api.Cmd{Session: 1, Seq: 1, Kind: api.CmdDeploy, Table: endlessTable("t")})
	for i := range odd() {
		for _, c := range l {
			r := odd()[i]
			for range 3 {
				r, _ = repo.Apply(r, c)
				c.Seq++
			}
			for _, version := range []int{-1, 0, 1, 2, math.MinInt, math.MaxInt} {
				repo.Find(r, "t", version)
				repo.Decide(r, "t", version, vals(num(1)))
				repo.Decide(r, "", version, nil)
			}
		}
	}
	k := keeper{T: t}
	k.fails(l[len(l)-1], api.ErrMuch)
}

// As many commands as one likes: what is kept stays within its bounds.
func TestL1L3ManyCommands(t *testing.T) {
	var l []api.Cmd
	const n = 6000
	for i := range n {
		l = append(l, deploy(i%7+1, i+1, string(rune('a'+i%6)), "1"))
	}
	r, replies := repo.Run(l)
	if len(replies) != n || replies[n-1] != counts(n/6) || r.Applied != n || len(r.Seats) != api.MaxSeats || len(r.Entries) != api.MaxEntries {
		t.Errorf("%d, %+v, %d, %+v comes", len(replies), replies[n-1], r.Applied, r.Seats)
	}
	k := keeper{T: t, repo: r}
	for _, name := range []string{"a", "b", "c", "d", "e", "f"} {
		k.entry(name, n/6+1, n/6, n/6-2, n/6-1, n/6)
	}
}

func TestL1L4AtOnce(t *testing.T) {
	r := roomy()
	want, wantReplies := repo.Run(kinds())
	var wait sync.WaitGroup
	for range 8 {
		wait.Go(func() {
			for range 20 {
				for _, c := range kinds() {
					repo.Apply(r, c)
				}
				if got, replies := repo.Run(kinds()); !alike(got, want) || !slices.Equal(replies, wantReplies) {
					t.Errorf("%+v, %+v comes", got, replies)
				}
				if v, err := repo.Decide(r, "e", 0, vals(num(1))); err != api.OK || !reflect.DeepEqual(v, num(1)) {
					t.Errorf("%+v, %d comes", v, err)
				}
			}
		})
	}
	wait.Wait()
}
