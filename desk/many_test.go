package desk_test

import (
	"math"
	"reflect"
	"runtime"
	"runtime/metrics"
	"slices"
	"strconv"
	"strings"
	"sync"
	"testing"
	"time"

	"verdict/api"
	"verdict/desk"
)

func job(c []api.Cmd, name string, version int, l ...api.Value) api.Job {
	return api.Job{Cmds: c, Name: name, Version: version, Vals: l}
}

func told(v api.Value) api.Answer { return api.Answer{Val: v} }

func fails(err api.Errno) api.Answer { return api.Answer{Err: err} }

func TestS2One(t *testing.T) {
	many := "[1" + strings.Repeat(", 1", 69) + "]"
	twice := deploy(1, 6, "u", "3")
	twice.Table.Policy = api.PolUnique
	twice.Table.Rules = slices.Repeat(twice.Table.Rules, 2)
	c := cmds(
		deploy(1, 1, "t", "1"), deploy(1, 2, "t", "a * 2"), deploy(1, 3, "t", "count(for x in "+many+" return count("+many+"))"), deploy(1, 4, "t", "a + 4"),
		rollback(1, 5, "t", 2), twice, deploy(1, 7, "v", "7"), drop(1, 8, "v"), deploy(1, 9, "if", "9"),
	)
	for _, x := range []struct {
		j    api.Job
		want api.Answer
	}{
		{job(c, "t", 2, num(4)), told(num(8))},
		{job(c, "t", 4, num(5)), told(num(9))},
		{job(c, "t", 0, num(6)), told(num(12))},
		{job(c[:4], "t", 0, num(5)), told(num(9))},
		{job(c[:1], "t", 0, num(5)), told(num(1))},
		{job(c[:1], "t", 1, num(5)), told(num(1))},
		{job(c, "t", 0, null), told(null)},
		{job(c[:7], "v", 0, num(5)), told(num(7))},
		// What Find says, ahead of what is wrong with the values.
		{job(c, "t", 1, num(4)), fails(api.ErrOld)},
		{job(c, "t", 5, num(4)), fails(api.ErrOld)},
		{job(c, "t", -1), fails(api.ErrOld)},
		{job(c, "t", math.MinInt, api.Value{}), fails(api.ErrOld)},
		{job(c, "t", math.MaxInt, num(4)), fails(api.ErrOld)},
		{job(c[:1], "t", 2, num(4)), fails(api.ErrOld)},
		{job(c, "v", 0, num(4)), fails(api.ErrNone)},
		{job(c, "v", 1), fails(api.ErrNone)},
		{job(c, "if", 0, num(4)), fails(api.ErrNone)},
		{job(c, "", 0, api.Value{}), fails(api.ErrNone)},
		{job(c, "T", 0, num(4)), fails(api.ErrNone)},
		{job(nil, "t", 0, num(4)), fails(api.ErrNone)},
		{job(cmds(), "t", 1, num(4)), fails(api.ErrNone)},
		{api.Job{}, fails(api.ErrNone)},
		// What the table says.
		{job(c, "t", 3, num(4)), fails(api.ErrMuch)},
		{job(c, "u", 0, num(4)), fails(api.ErrFit)},
		{job(c, "t", 0), fails(api.ErrMany)},
		{job(c, "t", 0, num(4), num(4)), fails(api.ErrMany)},
		{job(c, "t", 0, api.Value{}), fails(api.ErrKind)},
		{job(c, "t", 0, num(10)), fails(api.ErrForm)},
		{job(c, "t", 0, api.Value{Kind: api.VBool}), fails(api.ErrType)},
	} {
		if got := desk.One(x.j); !reflect.DeepEqual(got, x.want) {
			t.Errorf("%d commands, %q, %d, %+v: %+v comes, not %+v", len(x.j.Cmds), x.j.Name, x.j.Version, x.j.Vals, got, x.want)
		}
	}
}

// The commands are done as Run does them: once each, and nothing by one that is wrong.
func TestS2OneAfterItsCommands(t *testing.T) {
	c := cmds(deploy(1, 1, "t", "1"), deploy(1, 1, "t", "2"), deploy(0, 1, "t", "3"), deploy(2, 5, "t", "4"), deploy(2, 4, "t", "5"), drop(2, 5, "t"), api.Cmd{Session: 3, Seq: 1, Kind: 9})
	for k, want := range []api.Answer{fails(api.ErrNone), told(num(1)), told(num(1)), told(num(1)), told(num(4)), told(num(4)), told(num(4)), told(num(4))} {
		if got := desk.One(job(c[:k], "t", 0, num(5))); !reflect.DeepEqual(got, want) {
			t.Errorf("%d commands: %+v comes, not %+v", k, got, want)
		}
	}
	if got := desk.One(job(c, "t", 3, num(5))); !reflect.DeepEqual(got, fails(api.ErrOld)) {
		t.Errorf("%+v comes", got)
	}
	e := api.Cmd{Session: 1, Seq: 1, Kind: api.CmdDeploy, Table: endless("t")}
	if got := desk.One(job(cmds(e), "t", 0, num(5))); !reflect.DeepEqual(got, fails(api.ErrNone)) {
		t.Errorf("%+v comes", got)
	}
}

// numbered are jobs, each of which says its own place, from 1 on.
func numbered(n int) []api.Job {
	var l []api.Job
	for k := 1; k <= n; k++ {
		l = append(l, job(cmds(deploy(1, 1, "t", "a * 1000 + "+strconv.Itoa(k))), "t", 0, num(1)))
	}
	return l
}

// inPlace checks that there are n answers, each at its place.
func inPlace(t *testing.T, workers, n int, got []api.Answer, err api.Errno) {
	t.Helper()
	if err != api.OK || len(got) != n {
		t.Errorf("%d workers: %d answers, %d comes, not %d", workers, len(got), err, n)
		return
	}
	for k, a := range got {
		want := api.Dec{Coef: int64(1001 + k)}
		for want.Coef%10 == 0 {
			want = api.Dec{Coef: want.Coef / 10, Exp: want.Exp + 1}
		}
		if !reflect.DeepEqual(a, told(api.Value{Kind: api.VNum, Num: want})) {
			t.Errorf("%d workers, job %d: %+v comes", workers, k, a)
		}
	}
}

func TestS2WrongNumbers(t *testing.T) {
	for _, n := range []int{0, 1, 40, 41, 42, 1000} {
		for _, workers := range []int{math.MinInt, -1, 0, 1, 2, 16, 17, 18, math.MaxInt} {
			want := api.OK
			switch { // too many jobs ahead of too many workers
			case n > 40:
				want = api.ErrMany
			case workers < 1 || workers > 16:
				want = api.ErrRange
			}
			got, err := desk.Many(make([]api.Job, n), workers)
			if err != want || err != api.OK && len(got) != 0 || err == api.OK && len(got) != n {
				t.Errorf("%d jobs, %d workers: %d answers, %d comes, not %d", n, workers, len(got), err, want)
			}
			for _, a := range got {
				if !reflect.DeepEqual(a, fails(api.ErrNone)) {
					t.Errorf("%d jobs, %d workers: %+v comes", n, workers, a)
				}
			}
		}
	}
	for _, l := range [][]api.Job{nil, {}} {
		if got, err := desk.Many(l, 2); err != api.OK || len(got) != 0 {
			t.Errorf("%+v, %d comes", got, err)
		}
	}
}

// The document's example: two jobs' answers come in their order.
func TestS2TwoJobs(t *testing.T) {
	l := []api.Job{job(cmds(deploy(1, 1, "t", "1")), "t", 0, num(5)), job(cmds(deploy(1, 1, "t", "2")), "t", 0, num(5))}
	for workers := 1; workers <= api.MaxWorkers; workers++ {
		got, err := desk.Many(l, workers)
		if want := []api.Answer{told(num(1)), told(num(2))}; err != api.OK || !reflect.DeepEqual(got, want) {
			t.Errorf("%d workers: %+v, %d comes", workers, got, err)
		}
	}
}

func TestS2Order(t *testing.T) {
	for workers := 1; workers <= api.MaxWorkers; workers++ {
		for n := range api.MaxJobs + 1 {
			got, err := desk.Many(numbered(n), workers)
			inPlace(t, workers, n, got, err)
		}
	}
}

// slow is the job with so many commands ahead of its own ones that it takes a while.
func slow(j api.Job, times int) api.Job {
	var c []api.Cmd
	for k := range times {
		c = append(c, deploy(9, k+1, "slow", "1"))
	}
	j.Cmds = append(c, j.Cmds...)
	return j
}

// Whichever job takes long, the others' answers stay where they belong.
func TestS2OrderOfSlowJobs(t *testing.T) {
	for _, workers := range []int{1, 2, 3, 7, 16} {
		for _, at := range [][]int{{0}, {39}, {0, 1}, {0, 20, 39}, {5, 6, 7, 8}} {
			l := numbered(api.MaxJobs)
			for _, k := range at {
				l[k] = slow(l[k], 400)
			}
			got, err := desk.Many(l, workers)
			inPlace(t, workers, len(l), got, err)
		}
	}
}

// A job that fails is an answer among the others.
func TestS2ErrorsAmongAnswers(t *testing.T) {
	for workers := 1; workers <= api.MaxWorkers; workers++ {
		l := numbered(9)
		l[0], l[4].Name, l[5].Version, l[8].Vals = api.Job{}, "u", 2, nil
		got, err := desk.Many(l, workers)
		if err != api.OK || len(got) != 9 {
			t.Fatalf("%+v, %d comes", got, err)
		}
		for k, a := range got {
			want := api.OK
			switch k {
			case 0, 4:
				want = api.ErrNone
			case 5:
				want = api.ErrOld
			case 8:
				want = api.ErrMany
			}
			if a.Err != want || want != api.OK && !reflect.DeepEqual(a, fails(want)) || want == api.OK && a.Val.Num.Coef != int64(1001+k) {
				t.Errorf("%d workers, job %d: %+v comes", workers, k, a)
			}
		}
	}
}

// made is how many goroutines do makes. The runtime may make some of its own, so the least of some tries counts.
func made(do func()) int {
	created := []metrics.Sample{{Name: "/sched/goroutines-created:goroutines"}}
	least := math.MaxInt
	for range 5 {
		metrics.Read(created)
		before := created[0].Value.Uint64()
		do()
		metrics.Read(created)
		least = min(least, int(created[0].Value.Uint64()-before))
	}
	return least
}

// As many goroutines as the caller says, neither more nor less, however many jobs there are; and none where something is wrong.
func TestS2AsManyWorkers(t *testing.T) {
	for workers := -1; workers <= 18; workers++ {
		for _, n := range []int{0, 1, 3, 40, 41} {
			want := workers
			if workers < 1 || workers > 16 || n > 40 {
				want = 0
			}
			l := numbered(n)
			if got := made(func() { desk.Many(l, workers) }); got != want {
				t.Errorf("%d jobs, %d workers: %d goroutines are made", n, workers, got)
			}
		}
	}
	if got := made(func() { desk.One(numbered(1)[0]) }); got != 0 {
		t.Errorf("%d goroutines are made", got)
	}
}

// within is how many goroutines are within what begins with the name, at this moment.
func within(name string) int {
	room := make([]byte, 1<<20)
	n := 0
	for _, stack := range strings.Split(string(room[:runtime.Stack(room, true)]), "\n\n") {
		if strings.Contains(stack, "\n"+name) {
			n++
		}
	}
	return n
}

// looks is how many jobs were at work at once, look by look.
func looks(l []api.Job, workers int) []int {
	over := make(chan int)
	go func() {
		desk.Many(l, workers)
		close(over)
	}()
	var seen []int
	for {
		select {
		case <-over:
			return seen
		default:
			seen = append(seen, within("verdict/desk.One("))
		}
	}
}

// shows makes some tries, for who looks may look at bad moments, with a thread for who looks.
func shows(l []api.Job, workers int, is func(seen []int) bool) bool {
	defer runtime.GOMAXPROCS(runtime.GOMAXPROCS(max(4, runtime.GOMAXPROCS(0))))
	for range 50 {
		if is(looks(l, workers)) {
			return true
		}
	}
	return false
}

// Jobs don't wait for one another while there are workers.
func TestS2WorkersAtOnce(t *testing.T) {
	l := numbered(8)
	for k := range l {
		l[k] = slow(l[k], 1000)
	}
	for workers := 1; workers <= 3; workers++ {
		if !shows(l, workers, func(seen []int) bool { return slices.Contains(seen, workers) }) {
			t.Errorf("there are never %d jobs at work at once", workers)
		}
	}
}

// Whoever comes free takes the next job. If jobs were shared out ahead, two of the first three would be the same worker's, and be done one behind the other.
func TestS2AsTheyComeFree(t *testing.T) {
	for _, at := range [][2]int{{0, 1}, {0, 2}, {1, 2}} {
		l := make([]api.Job, api.MaxJobs)
		for _, k := range at {
			l[k] = slow(l[k], 2000)
		}
		mostly := func(seen []int) bool {
			both := 0
			for _, n := range seen {
				if n == 2 {
					both++
				}
			}
			return both > len(seen)/2
		}
		if !shows(l, 2, mostly) {
			t.Errorf("the jobs %v are not done at once", at)
		}
	}
}

// Nobody is left: who has said that he goes may need a moment, but not more.
func TestS2AllAreGone(t *testing.T) {
	for workers := -1; workers <= 18; workers++ {
		for _, n := range []int{0, 1, 5, 40, 41} {
			desk.Many(numbered(n), workers)
		}
	}
	for try := 0; within("verdict/desk.") > 0; try++ {
		if try == 1000 {
			t.Fatalf("%d goroutines are there", within("verdict/desk."))
		}
		time.Sleep(time.Millisecond)
	}
}

// listed is a table whose rows are lists.
func listed() []api.Cmd {
	c := deploy(1, 1, "t", "a")
	c.Table.Policy = api.PolRule
	c.Table.Outs = append(c.Table.Outs, api.Column{Name: "p", Kind: api.TyNum})
	c.Table.Rules[0].Outs = append(c.Table.Rules[0].Outs, expr("3"))
	c.Table.Rules = slices.Repeat(c.Table.Rules, 3)
	return cmds(c)
}

func blot(v api.Value) {
	for i := range v.List[:cap(v.List)] {
		blot(v.List[:cap(v.List)][i])
		v.List[:cap(v.List)][i] = api.Value{Kind: 88}
	}
}

// Jobs may share all they have; no two answers share anything, nor do they with the jobs.
func TestS2AnswersAreNewMemory(t *testing.T) {
	want := api.Value{Kind: api.VList, List: slices.Repeat(vals(api.Value{Kind: api.VList, List: vals(num(5), num(3))}), 3)}
	j := job(listed(), "t", 0, num(5))
	if got := desk.One(j); !reflect.DeepEqual(got, told(want)) {
		t.Fatalf("%+v comes", got)
	}
	l := slices.Repeat([]api.Job{j}, 6)
	for k := range l {
		got, err := desk.Many(l, 3)
		if err != api.OK || len(got) != len(l) {
			t.Fatalf("%+v, %d comes", got, err)
		}
		blot(got[k].Val)
		for i, a := range got {
			if i != k && !reflect.DeepEqual(a, told(want)) {
				t.Errorf("%d is written over, and %d has %+v", k, i, a)
			}
		}
		if !reflect.DeepEqual(l[k], job(listed(), "t", 0, num(5))) {
			t.Errorf("%+v is left", l[k])
		}
	}
	// Within one answer too.
	got := desk.One(j)
	blot(got.Val.List[1])
	for _, i := range []int{0, 2} {
		if !reflect.DeepEqual(got.Val.List[i], want.List[i]) {
			t.Errorf("%+v comes", got.Val)
		}
	}
	all, _ := desk.Many(l, 4)
	for i := range l {
		clear(l[i].Cmds)
		clear(l[i].Vals)
	}
	clear(l)
	for _, a := range all {
		if !reflect.DeepEqual(a, told(want)) {
			t.Errorf("%+v comes", a)
		}
	}
}

func TestS2OnlyRead(t *testing.T) {
	fill := func() []api.Job {
		l := numbered(12)
		for k := range l {
			l[k].Cmds = spare(l[k].Cmds, drop(1, 2, "t"))
			l[k].Vals = spare(l[k].Vals, num(8))
		}
		return spare(l, job(nil, "zz", 0))
	}
	whole := func(l []api.Job) []api.Job {
		l = slices.Clone(l[:cap(l)])
		for k, j := range l {
			l[k].Cmds, l[k].Vals = j.Cmds[:cap(j.Cmds)], j.Vals[:cap(j.Vals)]
		}
		return l
	}
	l := fill()
	for workers := 1; workers <= api.MaxWorkers; workers++ {
		got, err := desk.Many(l, workers)
		inPlace(t, workers, 12, got, err)
	}
	for k := range l {
		desk.One(l[k])
	}
	if !reflect.DeepEqual(whole(l), whole(fill())) {
		t.Errorf("%+v is left", whole(l))
	}
	// 40 jobs with room for more are not too many.
	got, err := desk.Many(spare(numbered(40), api.Job{}), 4)
	inPlace(t, 4, 40, got, err)
}

func TestS2AtOnce(t *testing.T) {
	l := numbered(api.MaxJobs)
	var wait sync.WaitGroup
	for k := range 8 {
		wait.Go(func() {
			for i := range 12 {
				workers := (k+i)%api.MaxWorkers + 1
				got, err := desk.Many(l, workers)
				inPlace(t, workers, len(l), got, err)
			}
		})
	}
	wait.Wait()
}
