package tests

import (
	"math"
	"slices"
	"testing"

	"loop.example/g00965/impl"
)

var (
	_ func(int, impl.Plan) (impl.Run, bool) = impl.RunNew
	_ func(impl.Run) bool                   = impl.RunOk
	_ func(impl.Run, int) []int             = impl.TasksIn
	_ func(impl.Run, int) impl.Run          = impl.RunDone
	_ func(impl.Run, int) impl.Run          = impl.RunFails
	_ func(impl.Run) impl.Run               = impl.RunLeft
	_ struct{ State, Need, Try, Until int } = impl.Task{}
	_ struct {
		Id    int
		Plan  impl.Plan
		State int
		Tasks []impl.Task
	} = impl.Run{}
)

const (
	idHere   = 41
	mostHere = 3 // what the helper plan gives a plan as its Most
)

func TestConstantsOfRuns(t *testing.T) {
	got := []int{impl.TsWaits, impl.TsReady, impl.TsRuns, impl.TsDone, impl.TsFailed, impl.TsLeft, impl.RsLive, impl.RsDone, impl.RsFailed, impl.RsLeft, impl.MaxId}
	if want := []int{1, 2, 3, 4, 5, 6, 1, 2, 3, 4, 9999}; !slices.Equal(got, want) {
		t.Errorf("the constants are %v, not %v", got, want)
	}
	// They go with numbers of any kind, as the document's do.
	var small int8 = impl.TsLeft + impl.RsLeft
	if small != 10 {
		t.Errorf("both together are %d", small)
	}
}

// laidTasks tells tasks in a few numbers each: State, Need, Try, Until.
func laidTasks(list ...[4]int) []impl.Task {
	tasks := []impl.Task{}
	for _, n := range list {
		tasks = append(tasks, impl.Task{State: n[0], Need: n[1], Try: n[2], Until: n[3]})
	}
	return tasks
}

// runOf tells a run of the plan; its State is as the chapter wants it of the tasks.
func runOf(p impl.Plan, tasks ...[4]int) impl.Run {
	r := impl.Run{Id: idHere, Plan: p, Tasks: laidTasks(tasks...)}
	r.State = stateByWords(r.Tasks)
	return r
}

func newRun(t *testing.T, p impl.Plan) impl.Run {
	t.Helper()
	r, ok := impl.RunNew(idHere, p)
	if !ok {
		t.Fatalf("RunNew(%d, %v) is none", idHere, p)
	}
	return r
}

// handedOut tells the run with the task handed out once more.
func handedOut(r impl.Run, task, until int) impl.Run {
	r.Tasks = slices.Clone(r.Tasks)
	r.Tasks[task] = impl.Task{State: 3, Need: 0, Try: r.Tasks[task].Try + 1, Until: until}
	return r
}

func withTask(r impl.Run, at int, change func(task *impl.Task)) impl.Run {
	r.Tasks = slices.Clone(r.Tasks)
	change(&r.Tasks[at])
	return r
}

func isOneOf(n int, some ...int) bool { return slices.Contains(some, n) }

// stateByWords goes down the chapter's sentence; 0 where no state is right.
func stateByWords(tasks []impl.Task) int {
	failed, left, live, others := 0, 0, 0, 0
	for _, task := range tasks {
		switch task.State {
		case 4:
		case 5:
			failed++
		case 6:
			left++
		default:
			live++
		}
		if task.State != 4 {
			others++
		}
	}
	if others == 0 {
		return 2
	}
	if failed == 1 && live == 0 {
		return 3
	}
	if left > 0 && live == 0 && failed == 0 {
		return 4
	}
	if failed == 0 && left == 0 {
		return 1
	}
	return 0
}

func runOkByWords(r impl.Run) bool {
	if r.Id < 1 || r.Id > 9999 || faultByWords(r.Plan) != 0 || len(r.Tasks) != r.Plan.Tasks {
		return false
	}
	for i, task := range r.Tasks {
		need := 0
		for _, before := range beforeByWords(r.Plan, i) {
			if r.Tasks[before].State != 4 {
				need++
			}
		}
		if task.State < 1 || task.State > 6 || task.Need != need || task.Try < 0 || task.Try > r.Plan.Most {
			return false
		}
		if isOneOf(task.State, 3, 4, 5) && task.Try < 1 || task.State == 2 && task.Try >= r.Plan.Most {
			return false
		}
		if task.State == 3 && (task.Until < 1 || task.Until > 1000000000) || task.State != 3 && task.Until != 0 {
			return false
		}
		if task.State == 1 && need <= 0 || isOneOf(task.State, 2, 3, 4, 5) && need != 0 {
			return false
		}
	}
	return r.State != 0 && r.State == stateByWords(r.Tasks)
}

func runsByWords(r impl.Run, task int) bool {
	return runOkByWords(r) && task >= 0 && task < len(r.Tasks) && r.Tasks[task].State == 3
}

func doneByWords(r impl.Run, task int) impl.Run {
	if !runsByWords(r, task) {
		return r
	}
	r.Tasks = slices.Clone(r.Tasks)
	r.Tasks[task].State, r.Tasks[task].Until = 4, 0
	for _, behind := range behindByWords(r.Plan, task) {
		r.Tasks[behind].Need--
		if r.Tasks[behind].Need == 0 {
			r.Tasks[behind].State = 2
		}
	}
	if !slices.ContainsFunc(r.Tasks, func(task impl.Task) bool { return task.State != 4 }) {
		r.State = 2
	}
	return r
}

func failsByWords(r impl.Run, task int) impl.Run {
	if !runsByWords(r, task) {
		return r
	}
	r.Tasks = slices.Clone(r.Tasks)
	r.Tasks[task].Until = 0
	if r.Tasks[task].Try < r.Plan.Most {
		r.Tasks[task].State = 2
		return r
	}
	for i := range r.Tasks {
		if i == task {
			r.Tasks[i].State = 5
		} else if r.Tasks[i].State != 4 {
			r.Tasks[i].State, r.Tasks[i].Until = 6, 0
		}
	}
	r.State = 3
	return r
}

func leftRunByWords(r impl.Run) impl.Run {
	if !runOkByWords(r) || r.State != 1 {
		return r
	}
	r.Tasks = slices.Clone(r.Tasks)
	for i := range r.Tasks {
		if r.Tasks[i].State != 4 {
			r.Tasks[i].State, r.Tasks[i].Until = 6, 0
		}
	}
	r.State = 4
	return r
}

func sameRun(a, b impl.Run) bool {
	return a.Id == b.Id && a.State == b.State && slices.Equal(a.Tasks, b.Tasks) && samePlan(a.Plan, b.Plan)
}

func samePlan(a, b impl.Plan) bool {
	return a.Prio == b.Prio && a.Most == b.Most && a.Wait == b.Wait && a.Tasks == b.Tasks && slices.Equal(a.Edges, b.Edges)
}

// laidRun lays a run's lists ahead of spare room, and tells these lists whole; what stands there would be edges and tasks of it.
func laidRun(r impl.Run) (impl.Run, []impl.Edge, []impl.Task) {
	given := r
	var edges []impl.Edge
	given.Plan, edges = laidPlan(r.Plan)
	tasks := append(slices.Clone(r.Tasks), laidTasks([4]int{3, 0, 1, 5}, [4]int{2, 0, 0, 0}, [4]int{1, 1, 0, 0})...)
	if r.Tasks != nil {
		given.Tasks = tasks[:len(r.Tasks)]
	}
	return given, edges, tasks
}

// spoilRun writes over the lists of a run that was answered, and the room behind them.
func spoilRun(r impl.Run) {
	edges, tasks := r.Plan.Edges[:cap(r.Plan.Edges)], r.Tasks[:cap(r.Tasks)]
	for i := range edges {
		edges[i] = edge(-77, -77)
	}
	for i := range tasks {
		tasks[i] = impl.Task{State: -77, Need: -77, Try: -77, Until: -77}
	}
}

// wantRun asks for a run that is made of another one, that it is new memory, and that nothing is written into the argument.
func wantRun(t *testing.T, what string, of func(impl.Run, int) impl.Run, r impl.Run, task int, want impl.Run) {
	t.Helper()
	given, edges, tasks := laidRun(r)
	edgesBefore, tasksBefore := slices.Clone(edges), slices.Clone(tasks)
	got := of(given, task)
	if !sameRun(got, want) {
		t.Errorf("%s(%v, %d) is %v, not %v", what, r, task, got, want)
	}
	spoilRun(got)
	if !slices.Equal(edges, edgesBefore) || !slices.Equal(tasks, tasksBefore) {
		t.Errorf("%s(%v, %d) wrote into the run, or shares its memory", what, r, task)
	}
	if again := of(given, task); !sameRun(again, want) {
		t.Errorf("%s(%v, %d) is %v when it is asked again, not %v", what, r, task, again, want)
	}
}

func wantDone(t *testing.T, r impl.Run, task int, want impl.Run) {
	t.Helper()
	wantRun(t, "RunDone", impl.RunDone, r, task, want)
}

func wantFails(t *testing.T, r impl.Run, task int, want impl.Run) {
	t.Helper()
	wantRun(t, "RunFails", impl.RunFails, r, task, want)
}

func wantLeft(t *testing.T, r impl.Run, want impl.Run) {
	t.Helper()
	wantRun(t, "RunLeft", func(r impl.Run, _ int) impl.Run { return impl.RunLeft(r) }, r, 0, want)
}

func wantRunOk(t *testing.T, r impl.Run, want bool) {
	t.Helper()
	given, edges, tasks := laidRun(r)
	edgesBefore, tasksBefore := slices.Clone(edges), slices.Clone(tasks)
	if impl.RunOk(given) != want {
		t.Errorf("RunOk(%v) is not %v", r, want)
	}
	if !slices.Equal(edges, edgesBefore) || !slices.Equal(tasks, tasksBefore) {
		t.Errorf("RunOk(%v) wrote into the run", r)
	}
}

func wantTasksIn(t *testing.T, r impl.Run, state int, want []int) {
	t.Helper()
	given, edges, tasks := laidRun(r)
	edgesBefore, tasksBefore := slices.Clone(edges), slices.Clone(tasks)
	got := impl.TasksIn(given, state)
	if !slices.Equal(got, want) {
		t.Errorf("TasksIn(%v, %d) is %v, not %v", r, state, got, want)
	}
	for i := range got {
		got[i] = -7
	}
	if again := impl.TasksIn(given, state); !slices.Equal(again, want) {
		t.Errorf("TasksIn(%v, %d) is %v when it is asked again, not %v", r, state, again, want)
	}
	if !slices.Equal(edges, edgesBefore) || !slices.Equal(tasks, tasksBefore) {
		t.Errorf("TasksIn(%v, %d) wrote into the run", r, state)
	}
}

// statesAsked tells all states, and some that are none.
func statesAsked() []int {
	return []int{math.MinInt, -1, 0, 1, 2, 3, 4, 5, 6, 7, 1 << 32, 1<<32 + 2, math.MaxInt}
}

func wantAllTasksIn(t *testing.T, r impl.Run) {
	t.Helper()
	for _, state := range statesAsked() {
		want := []int{}
		for i, task := range r.Tasks {
			if task.State == state {
				want = append(want, i)
			}
		}
		wantTasksIn(t, r, state, want)
	}
}

// wantOneRun asks all that the chapter tells of a run, by its words.
func wantOneRun(t *testing.T, r impl.Run) {
	t.Helper()
	wantRunOk(t, r, runOkByWords(r))
	wantAllTasksIn(t, r)
	wantLeft(t, r, leftRunByWords(r))
	for task := -1; task <= len(r.Tasks) && task <= 13; task++ {
		wantDone(t, r, task, doneByWords(r, task))
		wantFails(t, r, task, failsByWords(r, task))
	}
}

// wantRunAsItIs asks that whatever is told of the run changes nothing.
func wantRunAsItIs(t *testing.T, r impl.Run) {
	t.Helper()
	wantLeft(t, r, r)
	for _, task := range append(upTo(12), farInts()...) {
		wantDone(t, r, task, r)
		wantFails(t, r, task, r)
	}
}

// wantNoRight asks that the run is not right, and stays as it is.
func wantNoRight(t *testing.T, what string, r impl.Run) {
	t.Helper()
	if runOkByWords(r) {
		t.Errorf("%s: the run is right: %v", what, r)
	}
	wantRunOk(t, r, false)
	wantAllTasksIn(t, r)
	wantRunAsItIs(t, r)
}

// wantP9 asks what the promise says: whatever is told of a right run, it stays right.
func wantP9(t *testing.T, r impl.Run) {
	t.Helper()
	if !impl.RunOk(r) {
		t.Errorf("%v is not right", r)
		return
	}
	if left := impl.RunLeft(r); !impl.RunOk(left) {
		t.Errorf("%v, given up, is %v, which is not right", r, left)
	}
	for task := -1; task <= len(r.Tasks); task++ {
		if done := impl.RunDone(r, task); !impl.RunOk(done) {
			t.Errorf("%v, with %d done, is %v, which is not right", r, task, done)
		}
		if failed := impl.RunFails(r, task); !impl.RunOk(failed) {
			t.Errorf("%v, with %d failed, is %v, which is not right", r, task, failed)
		}
	}
}

func wantNew(t *testing.T, p impl.Plan, tasks ...[4]int) {
	t.Helper()
	given, room := laidPlan(p)
	before := slices.Clone(room)
	got, ok := impl.RunNew(idHere, given)
	want := impl.Run{Id: idHere, Plan: p, State: 1, Tasks: laidTasks(tasks...)}
	if !ok || !sameRun(got, want) {
		t.Errorf("RunNew(%d, %v) is %v, %v, not %v", idHere, p, got, ok, want)
		return
	}
	wantP9(t, got)
	wantOneRun(t, got)
	spoilRun(got)
	if !slices.Equal(room, before) {
		t.Errorf("RunNew(%v) wrote into the plan, or shares its memory", p)
	}
	if again, ok := impl.RunNew(idHere, given); !ok || !sameRun(again, want) {
		t.Errorf("RunNew(%d, %v) is %v, %v when it is asked again, not %v", idHere, p, again, ok, want)
	}
}

func wantNoRun(t *testing.T, id int, p impl.Plan) {
	t.Helper()
	given, room := laidPlan(p)
	before := slices.Clone(room)
	if r, ok := impl.RunNew(id, given); ok || !sameRun(r, impl.Run{}) {
		t.Errorf("RunNew(%d, %v) is %v, %v", id, p, r, ok)
	}
	if !slices.Equal(room, before) {
		t.Errorf("RunNew(%d, %v) wrote into the plan", id, p)
	}
}

func TestNewRunsOfKnownPlans(t *testing.T) {
	ready, one, two, three := [4]int{2, 0, 0, 0}, [4]int{1, 1, 0, 0}, [4]int{1, 2, 0, 0}, [4]int{1, 3, 0, 0}
	wantNew(t, plan(1), ready)
	wantNew(t, plan(3), ready, ready, ready)
	wantNew(t, plan(3, []impl.Edge{}...), ready, ready, ready)
	wantNew(t, plan(4, chain(0, 1, 2, 3)...), ready, one, one, one)
	wantNew(t, plan(4, chain(3, 2, 1, 0)...), one, one, one, ready)
	wantNew(t, plan(4, chain(2, 0, 3)...), one, ready, ready, one)
	wantNew(t, plan(3, edge(0, 2), edge(1, 2)), ready, ready, two)
	wantNew(t, plan(4, edge(3, 0), edge(1, 0), edge(2, 0)), three, ready, ready, ready)
	wantNew(t, plan(4, edge(0, 1), edge(0, 2), edge(0, 3)), ready, one, one, one)
	wantNew(t, diamond(), ready, one, one, ready, two, three)
	wantNew(t, impl.Plan{Prio: 9, Most: 5, Wait: 20, Tasks: 2, Edges: chain(0, 1)}, ready, one)
	wantNew(t, impl.Plan{Prio: 0, Most: 1, Wait: 1, Tasks: 2, Edges: chain(1, 0)}, one, ready)
}

func TestNewRunsAtTheLimits(t *testing.T) {
	for tasks := 1; tasks <= 12; tasks++ {
		wantNew(t, plan(tasks), slices.Repeat([][4]int{{2, 0, 0, 0}}, tasks)...)
		chained := append([][4]int{{2, 0, 0, 0}}, slices.Repeat([][4]int{{1, 1, 0, 0}}, tasks-1)...)
		wantNew(t, plan(tasks, chain(upTo(tasks)...)...), chained...)
	}
	for many := range 31 {
		p, tasks := plan(12, shuffled(forward(many), many)...), [][4]int{}
		for task := range 12 {
			need := len(beforeByWords(p, task))
			tasks = append(tasks, [4]int{2 - min(need, 1), need, 0, 0})
		}
		wantNew(t, p, tasks...)
	}
	star := plan(12)
	for task := range 11 {
		star.Edges = append(star.Edges, edge(task, 11))
	}
	wantNew(t, star, append(slices.Repeat([][4]int{{2, 0, 0, 0}}, 11), [4]int{1, 11, 0, 0})...)
}

func TestNewRunsOfEachId(t *testing.T) {
	for id := 1; id <= 9999; id += 7 {
		if r, ok := impl.RunNew(id, plan(1)); !ok || r.Id != id || !impl.RunOk(r) {
			t.Errorf("RunNew of the id %d is %v, %v", id, r, ok)
		}
	}
	for _, id := range []int{1, 2, 9998, 9999} {
		r, ok := impl.RunNew(id, diamond())
		if !ok || r.Id != id || !impl.RunOk(r) {
			t.Errorf("RunNew of the id %d is %v, %v", id, r, ok)
		}
	}
	for _, id := range []int{0, -1, -9999, 10000, 10001, 1 << 32, 1<<32 + 1, 1 - 1<<32, math.MinInt, math.MaxInt} {
		wantNoRun(t, id, plan(1))
		wantNoRun(t, id, diamond())
		wantNoRun(t, id, impl.Plan{})
	}
}

func TestNewRunsOfPlansWithAFault(t *testing.T) {
	base := plan(12, chain(0, 1, 2, 3)...)
	wantNew(t, base, append([][4]int{{2, 0, 0, 0}, {1, 1, 0, 0}, {1, 1, 0, 0}, {1, 1, 0, 0}}, slices.Repeat([][4]int{{2, 0, 0, 0}}, 8)...)...)
	for _, s := range spoils() {
		one := base
		s.do(&one)
		for _, id := range []int{0, 1, idHere, 9999, 10000} {
			wantNoRun(t, id, one)
		}
	}
	for _, p := range []impl.Plan{{}, plan(0), plan(-1), plan(13), plan(math.MaxInt), plan(math.MinInt), plan(1, edge(0, 0)), plan(2, chain(0, 1, 0)...), plan(2, edge(0, 1), edge(0, 1)), plan(2, edge(0, 2)), plan(12, slices.Repeat(chain(0, 1), 100000)...)} {
		wantNoRun(t, idHere, p)
	}
}

// What the plan's edges become behind RunNew is nothing to the run, and the other way round.
func TestRunsHaveEdgesOfTheirOwn(t *testing.T) {
	p := diamond()
	r := newRun(t, p)
	p.Edges[0] = edge(5, 2)
	if !sameRun(r, newRun(t, diamond())) {
		t.Errorf("the run is %v", r)
	}
	r = handedOut(r, 0, 9)
	told := impl.RunDone(r, 0)
	r.Plan.Edges[0], r.Tasks[1].Need = edge(0, 0), 7
	if !impl.RunOk(told) || !slices.Equal(told.Plan.Edges, diamond().Edges) {
		t.Errorf("the run is %v", told)
	}
}

// runOfAll has a task in each state that a live run may have, of a plan in which several wait for some.
func runOfAll() impl.Run {
	return runOf(plan(7, edge(0, 3), edge(1, 3), edge(1, 4), edge(3, 5), edge(4, 5), edge(2, 6)),
		[4]int{4, 0, 1, 0}, // done
		[4]int{3, 0, 2, 8}, // runs, for the second time
		[4]int{2, 0, 2, 0}, // was tried, and stands ready again
		[4]int{1, 1, 0, 0}, // waits for 1 alone: 0 is done
		[4]int{1, 1, 0, 0},
		[4]int{1, 2, 0, 0},
		[4]int{1, 1, 0, 0})
}

func TestDoneOfKnownRuns(t *testing.T) {
	r := runOfAll()
	wantRunOk(t, r, true)
	wantDone(t, r, 1, runOf(r.Plan, [4]int{4, 0, 1, 0}, [4]int{4, 0, 2, 0}, [4]int{2, 0, 2, 0}, [4]int{2, 0, 0, 0}, [4]int{2, 0, 0, 0}, [4]int{1, 2, 0, 0}, [4]int{1, 1, 0, 0}))
	for _, task := range []int{-1, 0, 2, 3, 4, 5, 6, 7, math.MinInt, math.MaxInt} {
		wantDone(t, r, task, r)
	}
	wantOneRun(t, r)
	wantP9(t, r)
	two := runOf(plan(3, edge(0, 2), edge(1, 2)), [4]int{3, 0, 1, 3}, [4]int{3, 0, 3, 1000000000}, [4]int{1, 2, 0, 0})
	wantDone(t, two, 0, runOf(two.Plan, [4]int{4, 0, 1, 0}, [4]int{3, 0, 3, 1000000000}, [4]int{1, 1, 0, 0}))
	wantDone(t, two, 1, runOf(two.Plan, [4]int{3, 0, 1, 3}, [4]int{4, 0, 3, 0}, [4]int{1, 1, 0, 0}))
	wantDone(t, impl.RunDone(two, 1), 0, runOf(two.Plan, [4]int{4, 0, 1, 0}, [4]int{4, 0, 3, 0}, [4]int{2, 0, 0, 0}))
}

// The last one that is done makes the run one that is, wherever it stands, and not one ahead of it does.
func TestTheLastTaskThatIsDone(t *testing.T) {
	for tasks := 1; tasks <= 12; tasks++ {
		for last := range tasks {
			r := newRun(t, plan(tasks))
			for task := range tasks {
				if task != last {
					r = impl.RunDone(handedOut(r, task, 1), task)
					if r.State != impl.RsLive || !impl.RunOk(r) {
						t.Fatalf("the run is over ahead of its last task: %v", r)
					}
				}
			}
			r = handedOut(r, last, 20)
			all := impl.Run{Id: idHere, Plan: r.Plan, State: 2, Tasks: slices.Repeat([]impl.Task{{State: 4, Try: 1}}, tasks)}
			wantDone(t, r, last, all)
			wantRunOk(t, all, true)
			wantRunAsItIs(t, all)
		}
	}
}

func TestFailsOfKnownRuns(t *testing.T) {
	r := runOfAll()
	wantFails(t, r, 1, runOf(r.Plan, [4]int{4, 0, 1, 0}, [4]int{2, 0, 2, 0}, [4]int{2, 0, 2, 0}, [4]int{1, 1, 0, 0}, [4]int{1, 1, 0, 0}, [4]int{1, 2, 0, 0}, [4]int{1, 1, 0, 0}))
	for _, task := range []int{-1, 0, 2, 3, 4, 5, 6, 7, math.MinInt, math.MaxInt} {
		wantFails(t, r, task, r)
	}
	r.Tasks[1].Try = 3
	wantFails(t, r, 1, impl.Run{Id: idHere, Plan: r.Plan, State: 3, Tasks: laidTasks([4]int{4, 0, 1, 0}, [4]int{5, 0, 3, 0}, [4]int{6, 0, 2, 0}, [4]int{6, 1, 0, 0}, [4]int{6, 1, 0, 0}, [4]int{6, 2, 0, 0}, [4]int{6, 1, 0, 0})})
	wantOneRun(t, r)
	wantP9(t, r)
}

// A try below the plan's Most is not the last one; at Most it is, whatever else there is of the run.
func TestTheLastTry(t *testing.T) {
	for most := 1; most <= 5; most++ {
		for try := 1; try <= most; try++ {
			for failing := range 3 {
				p := impl.Plan{Prio: 4, Most: most, Wait: 7, Tasks: 4, Edges: []impl.Edge{edge(failing, 3)}}
				r := newRun(t, p)
				others := upTo(3)
				others = slices.Delete(others, failing, failing+1)
				r = impl.RunDone(handedOut(r, others[0], 4), others[0])
				r = handedOut(r, others[1], 6)
				r.Tasks[failing] = impl.Task{State: 3, Try: try, Until: 5}
				want := r
				want.Tasks = slices.Clone(r.Tasks)
				if try < most {
					want.Tasks[failing] = impl.Task{State: 2, Try: try}
				} else {
					want.State = 3
					want.Tasks[failing] = impl.Task{State: 5, Try: try}
					want.Tasks[others[1]] = impl.Task{State: 6, Try: 1}
					want.Tasks[3] = impl.Task{State: 6, Need: 1}
				}
				wantFails(t, r, failing, want)
				wantRunOk(t, want, true)
				wantOneRun(t, r)
				wantP9(t, r)
			}
		}
	}
}

// A task of a plan with Most 1 has one try alone: there is no other one behind it.
func TestAPlanOfOneTry(t *testing.T) {
	p := impl.Plan{Most: 1, Wait: 1, Tasks: 1}
	r := handedOut(newRun(t, p), 0, 1)
	wantFails(t, r, 0, impl.Run{Id: idHere, Plan: p, State: 3, Tasks: laidTasks([4]int{5, 0, 1, 0})})
	wantDone(t, r, 0, impl.Run{Id: idHere, Plan: p, State: 2, Tasks: laidTasks([4]int{4, 0, 1, 0})})
	wantRunOk(t, runOf(p, [4]int{2, 0, 0, 0}), true)
	wantNoRight(t, "ready with Try 1", runOf(p, [4]int{2, 0, 1, 0}))
	wantNoRight(t, "runs with Try 2", runOf(p, [4]int{3, 0, 2, 1}))
	wantNoRight(t, "runs with Try 0", runOf(p, [4]int{3, 0, 0, 1}))
}

// A task is handed out and fails as often as it may be, and the run goes on until the last time.
func TestATaskThatFailsEachTime(t *testing.T) {
	for most := 1; most <= 5; most++ {
		p := impl.Plan{Prio: 1, Most: most, Wait: 3, Tasks: 3, Edges: chain(0, 1, 2)}
		r := newRun(t, p)
		r = impl.RunDone(handedOut(r, 0, 2), 0)
		for try := 1; try < most; try++ {
			r = impl.RunFails(handedOut(r, 1, try), 1)
			want := impl.Run{Id: idHere, Plan: p, State: 1, Tasks: laidTasks([4]int{4, 0, 1, 0}, [4]int{2, 0, try, 0}, [4]int{1, 1, 0, 0})}
			if !sameRun(r, want) || !impl.RunOk(r) {
				t.Errorf("behind the try %d of %d it is %v", try, most, r)
			}
		}
		r = impl.RunFails(handedOut(r, 1, 20), 1)
		want := impl.Run{Id: idHere, Plan: p, State: 3, Tasks: laidTasks([4]int{4, 0, 1, 0}, [4]int{5, 0, most, 0}, [4]int{6, 1, 0, 0})}
		if !sameRun(r, want) || !impl.RunOk(r) {
			t.Errorf("behind the last of %d tries it is %v", most, r)
		}
		wantOneRun(t, r)
		wantRunAsItIs(t, r)
	}
}

// What is told at the last try may be that it is done: nothing is lost then.
func TestDoneAtTheLastTry(t *testing.T) {
	r := runOf(plan(2, edge(0, 1)), [4]int{3, 0, mostHere, 9}, [4]int{1, 1, 0, 0})
	wantDone(t, r, 0, runOf(r.Plan, [4]int{4, 0, mostHere, 0}, [4]int{2, 0, 0, 0}))
	wantP9(t, r)
	// What waits may have been tried; it stands ready with that Try.
	r.Tasks[1].Try = mostHere - 1
	wantDone(t, r, 0, runOf(r.Plan, [4]int{4, 0, mostHere, 0}, [4]int{2, 0, mostHere - 1, 0}))
	wantP9(t, r)
	// The words let it wait with Most, too, though no run comes there: they say that it is TsReady then, which is not right.
	r.Tasks[1].Try = mostHere
	wantRunOk(t, r, true)
	wantDone(t, r, 0, runOf(r.Plan, [4]int{4, 0, mostHere, 0}, [4]int{2, 0, mostHere, 0}))
}

func TestLeftOfKnownRuns(t *testing.T) {
	r := runOfAll()
	wantLeft(t, r, impl.Run{Id: idHere, Plan: r.Plan, State: 4, Tasks: laidTasks([4]int{4, 0, 1, 0}, [4]int{6, 0, 2, 0}, [4]int{6, 0, 2, 0}, [4]int{6, 1, 0, 0}, [4]int{6, 1, 0, 0}, [4]int{6, 2, 0, 0}, [4]int{6, 1, 0, 0})})
	for tasks := 1; tasks <= 12; tasks++ {
		r := newRun(t, plan(tasks))
		all := impl.Run{Id: idHere, Plan: r.Plan, State: 4, Tasks: slices.Repeat([]impl.Task{{State: 6}}, tasks)}
		wantLeft(t, r, all)
		wantRunOk(t, all, true)
		wantRunAsItIs(t, all)
		chained := newRun(t, plan(tasks, chain(upTo(tasks)...)...))
		left := impl.RunLeft(handedOut(chained, 0, 3))
		if len(impl.TasksIn(left, 6)) != tasks || left.State != 4 || !impl.RunOk(left) || left.Tasks[0] != (impl.Task{State: 6, Try: 1}) {
			t.Errorf("a chain of %d, given up, is %v", tasks, left)
		}
	}
}

// Runs that are over are as they are, whatever is told of them once more.
func TestRunsThatAreOver(t *testing.T) {
	p := plan(4, edge(0, 2), edge(1, 2))
	for state, tasks := range [][][4]int{
		{{4, 0, 1, 0}, {4, 0, 3, 0}, {4, 0, 2, 0}, {4, 0, 1, 0}},
		{{4, 0, 1, 0}, {5, 0, 3, 0}, {6, 1, 0, 0}, {6, 0, 2, 0}},
		{{4, 0, 1, 0}, {6, 0, 3, 0}, {6, 1, 0, 0}, {6, 0, 0, 0}},
	} {
		r := impl.Run{Id: idHere, Plan: p, State: state + 2, Tasks: laidTasks(tasks...)}
		wantRunOk(t, r, true)
		wantOneRun(t, r)
		wantRunAsItIs(t, r)
		wantP9(t, r)
	}
	// A failed one may have failed ahead of its last try: the rule asks for a Try from 1 on.
	for try := 0; try <= mostHere+1; try++ {
		r := impl.Run{Id: idHere, Plan: plan(2), State: 3, Tasks: laidTasks([4]int{5, 0, try, 0}, [4]int{4, 0, 1, 0})}
		wantRunOk(t, r, try >= 1 && try <= mostHere)
		wantRunAsItIs(t, r)
	}
}

func TestRunOkOfUntil(t *testing.T) {
	r := runOf(plan(2), [4]int{3, 0, 1, 1}, [4]int{2, 0, 0, 0})
	for _, until := range []int{1, 2, 20, 999999999, 1000000000} {
		one := withTask(r, 0, func(task *impl.Task) { task.Until = until })
		wantRunOk(t, one, true)
		wantDone(t, one, 0, runOf(r.Plan, [4]int{4, 0, 1, 0}, [4]int{2, 0, 0, 0}))
		wantFails(t, one, 0, runOf(r.Plan, [4]int{2, 0, 1, 0}, [4]int{2, 0, 0, 0}))
		wantLeft(t, one, runOf(r.Plan, [4]int{6, 0, 1, 0}, [4]int{6, 0, 0, 0}))
	}
	for _, until := range []int{0, -1, 1000000001, 1<<32 + 1, math.MinInt, math.MaxInt} {
		wantNoRight(t, "an Until", withTask(r, 0, func(task *impl.Task) { task.Until = until }))
	}
	for _, right := range []impl.Run{
		runOf(plan(2, edge(0, 1)), [4]int{2, 0, 0, 0}, [4]int{1, 1, 0, 0}),
		runOf(plan(2), [4]int{4, 0, 1, 0}, [4]int{4, 0, 1, 0}),
		runOf(plan(2), [4]int{5, 0, 1, 0}, [4]int{6, 0, 1, 0}),
	} {
		wantRunOk(t, right, true)
		for at := range right.Tasks {
			for _, until := range []int{-1, 1, 20, 1000000000, math.MinInt, math.MaxInt} {
				wantNoRight(t, "an Until of what does not run", withTask(right, at, func(task *impl.Task) { task.Until = until }))
			}
		}
	}
}

// runsOfAllStates has right runs of all four states, whose tasks have all six between them.
func runsOfAllStates(t *testing.T) []impl.Run {
	t.Helper()
	p := plan(4, edge(0, 2), edge(1, 2), edge(2, 3))
	return []impl.Run{
		runOfAll(),
		runOf(p, [4]int{2, 0, 2, 0}, [4]int{3, 0, 1, 4}, [4]int{1, 2, 0, 0}, [4]int{1, 1, 0, 0}),
		runOf(p, [4]int{4, 0, 2, 0}, [4]int{4, 0, 1, 0}, [4]int{3, 0, 1, 9}, [4]int{1, 1, 0, 0}),
		runOf(p, [4]int{4, 0, 1, 0}, [4]int{4, 0, 3, 0}, [4]int{4, 0, 2, 0}, [4]int{4, 0, 1, 0}),
		runOf(p, [4]int{4, 0, 1, 0}, [4]int{5, 0, 3, 0}, [4]int{6, 1, 0, 0}, [4]int{6, 1, 0, 0}),
		runOf(p, [4]int{6, 0, 1, 0}, [4]int{4, 0, 3, 0}, [4]int{6, 1, 2, 0}, [4]int{6, 1, 0, 0}),
		newRun(t, plan(12, forward(30)...)),
		newRun(t, plan(1)),
	}
}

func TestRunsWrongInTheirId(t *testing.T) {
	for _, r := range runsOfAllStates(t) {
		wantRunOk(t, r, true)
		for _, id := range []int{1, 2, 9998, 9999} {
			r.Id = id
			wantRunOk(t, r, true)
			wantP9(t, r)
		}
		for _, id := range []int{0, -1, 10000, 1<<32 + 1, math.MinInt, math.MaxInt} {
			r.Id = id
			wantNoRight(t, "an Id", r)
		}
	}
}

func TestRunsWrongInTheirPlan(t *testing.T) {
	base := impl.Run{Id: idHere, Plan: plan(12, chain(0, 1, 2, 3)...), State: 1}
	base.Tasks = laidTasks(append([][4]int{{3, 0, 1, 3}, {1, 1, 0, 0}, {1, 1, 0, 0}, {1, 1, 0, 0}}, slices.Repeat([][4]int{{3, 0, 1, 3}}, 8)...)...)
	wantRunOk(t, base, true)
	for _, s := range spoils() {
		r := base
		s.do(&r.Plan)
		wantNoRight(t, s.what, r)
	}
	for _, r := range runsOfAllStates(t) {
		r.Plan.Prio = 10
		wantNoRight(t, "Prio", r)
		r.Plan.Prio, r.Plan.Wait = 9, 0
		wantNoRight(t, "Wait", r)
		r.Plan.Wait, r.Plan.Edges = 20, append(slices.Clone(r.Plan.Edges), edge(0, 0))
		wantNoRight(t, "a task that waits for itself", r)
	}
}

// The plan's Most below what was tried makes the run a wrong one, though the plan is right.
func TestRunsOfFewerTries(t *testing.T) {
	r := runOf(plan(2), [4]int{3, 0, 3, 1}, [4]int{2, 0, 2, 0})
	for most := 1; most <= 5; most++ {
		r.Plan.Most = most
		wantRunOk(t, r, most >= 3)
		wantOneRun(t, r)
	}
}

func TestRunsWrongInHowManyTasks(t *testing.T) {
	for _, r := range runsOfAllStates(t) {
		whole := r.Tasks
		for many := range whole {
			r.Tasks = whole[:many]
			wantNoRight(t, "tasks that are not there", r)
		}
		r.Tasks = nil
		wantNoRight(t, "no tasks", r)
		for _, more := range []impl.Task{whole[0], whole[len(whole)-1], {}, {State: 2}, {State: 4, Try: 1}, {State: 3, Try: 1, Until: 1}, {State: 6}} {
			r.Tasks = append(slices.Clone(whole), more)
			wantNoRight(t, "a task too many", r)
		}
		r.Tasks = slices.Concat(whole, whole)
		wantNoRight(t, "each task twice", r)
	}
	r := newRun(t, plan(3))
	for tasks := 1; tasks <= 12; tasks++ {
		r.Plan.Tasks = tasks
		wantRunOk(t, r, tasks == 3)
	}
	r.Plan.Tasks, r.Tasks = 12, slices.Repeat([]impl.Task{{State: 3, Try: 1, Until: 1}}, 5000)
	wantNoRight(t, "far too many tasks", r)
}

func TestRunsWrongInOneTask(t *testing.T) {
	for _, r := range runsOfAllStates(t) {
		for at, was := range r.Tasks {
			for _, n := range []int{math.MinInt, -1, 0, 7, 8, 1<<32 + was.State, was.State - 1<<32, math.MaxInt} {
				wantNoRight(t, "a State", withTask(r, at, func(task *impl.Task) { task.State = n }))
			}
			for _, n := range []int{math.MinInt, -1, was.Need - 1, was.Need + 1, 12, 1<<32 + was.Need, math.MaxInt} {
				wantNoRight(t, "a Need", withTask(r, at, func(task *impl.Task) { task.Need = n }))
			}
			for _, n := range []int{math.MinInt, -1, r.Plan.Most + 1, 6, 1<<32 + was.Try, math.MaxInt} {
				wantNoRight(t, "a Try", withTask(r, at, func(task *impl.Task) { task.Try = n }))
			}
			for n := -1; n <= 7; n++ {
				wantOneRun(t, withTask(r, at, func(task *impl.Task) { task.State = n }))
				wantOneRun(t, withTask(r, at, func(task *impl.Task) { task.Try = n }))
				wantOneRun(t, withTask(r, at, func(task *impl.Task) { task.Until = n }))
			}
		}
	}
}

// Which Try each state may have, one by one.
func TestRunOkOfEachTry(t *testing.T) {
	alone, behind := plan(1), plan(2, edge(0, 1))
	for most := 1; most <= 5; most++ {
		alone.Most, behind.Most = most, most
		for try := -1; try <= 6; try++ {
			wantRunOk(t, runOf(alone, [4]int{2, 0, try, 0}), try >= 0 && try < most)
			wantRunOk(t, runOf(alone, [4]int{3, 0, try, 1}), try >= 1 && try <= most)
			wantRunOk(t, runOf(alone, [4]int{4, 0, try, 0}), try >= 1 && try <= most)
			wantRunOk(t, runOf(alone, [4]int{5, 0, try, 0}), try >= 1 && try <= most)
			wantRunOk(t, runOf(alone, [4]int{6, 0, try, 0}), try >= 0 && try <= most)
			wantRunOk(t, runOf(behind, [4]int{2, 0, 0, 0}, [4]int{1, 1, try, 0}), try >= 0 && try <= most)
		}
	}
}

// What is ready, runs, is done or failed has no one ahead of it that is not done; what waits has; what is left, either.
func TestRunOkOfEachNeed(t *testing.T) {
	p := plan(3, edge(0, 2), edge(1, 2))
	for _, c := range []struct {
		tasks [][4]int
		want  bool
	}{
		{[][4]int{{2, 0, 0, 0}, {2, 0, 0, 0}, {1, 2, 0, 0}}, true},
		{[][4]int{{2, 0, 0, 0}, {4, 0, 1, 0}, {1, 1, 0, 0}}, true},
		{[][4]int{{4, 0, 1, 0}, {4, 0, 1, 0}, {2, 0, 0, 0}}, true},
		{[][4]int{{4, 0, 1, 0}, {4, 0, 1, 0}, {1, 0, 0, 0}}, false},
		{[][4]int{{1, 0, 0, 0}, {4, 0, 1, 0}, {1, 1, 0, 0}}, false},
		{[][4]int{{2, 0, 0, 0}, {4, 0, 1, 0}, {2, 1, 0, 0}}, false},
		{[][4]int{{2, 0, 0, 0}, {4, 0, 1, 0}, {2, 0, 0, 0}}, false},
		{[][4]int{{2, 0, 0, 0}, {4, 0, 1, 0}, {3, 1, 1, 1}}, false},
		{[][4]int{{2, 0, 0, 0}, {4, 0, 1, 0}, {4, 1, 1, 0}}, false},
		{[][4]int{{6, 0, 0, 0}, {4, 0, 1, 0}, {4, 1, 1, 0}}, false},
		{[][4]int{{6, 0, 0, 0}, {4, 0, 1, 0}, {5, 1, 1, 0}}, false},
		{[][4]int{{4, 0, 1, 0}, {4, 0, 1, 0}, {5, 0, 1, 0}}, true},
		{[][4]int{{4, 0, 1, 0}, {4, 0, 1, 0}, {6, 0, 1, 0}}, true},
		{[][4]int{{6, 0, 0, 0}, {6, 0, 1, 0}, {6, 2, 1, 0}}, true},
		{[][4]int{{6, 0, 0, 0}, {6, 0, 1, 0}, {6, 0, 1, 0}}, false},
		{[][4]int{{5, 0, 1, 0}, {4, 0, 1, 0}, {6, 1, 0, 0}}, true},
		{[][4]int{{5, 0, 1, 0}, {4, 0, 1, 0}, {6, 0, 0, 0}}, false},
	} {
		r := runOf(p, c.tasks...)
		wantRunOk(t, r, c.want)
		wantOneRun(t, r)
	}
}

func TestRunsWrongInTheirState(t *testing.T) {
	for _, r := range runsOfAllStates(t) {
		right := r.State
		for _, state := range []int{math.MinInt, -1, 0, 1, 2, 3, 4, 5, 6, 7, 1<<32 + right, right - 1<<32, math.MaxInt} {
			r.State = state
			wantRunOk(t, r, state == right)
			if state != right {
				wantNoRight(t, "a State", r)
			}
		}
	}
	// Tasks that fit no state at all; two that failed are two too many for it.
	for _, tasks := range [][][4]int{
		{{5, 0, 1, 0}, {5, 0, 1, 0}, {4, 0, 1, 0}},
		{{5, 0, 1, 0}, {5, 0, 1, 0}, {6, 0, 1, 0}},
		{{5, 0, 1, 0}, {5, 0, 1, 0}, {5, 0, 1, 0}},
		{{5, 0, 1, 0}, {3, 0, 1, 1}, {6, 0, 1, 0}},
		{{5, 0, 1, 0}, {2, 0, 1, 0}, {4, 0, 1, 0}},
		{{5, 0, 1, 0}, {5, 0, 1, 0}, {2, 0, 1, 0}},
		{{6, 0, 1, 0}, {2, 0, 1, 0}, {4, 0, 1, 0}},
		{{6, 0, 0, 0}, {3, 0, 1, 1}, {4, 0, 1, 0}},
	} {
		for state := -1; state <= 7; state++ {
			r := impl.Run{Id: idHere, Plan: plan(3), State: state, Tasks: laidTasks(tasks...)}
			wantNoRight(t, "states that do not go together", r)
		}
	}
	wantNoRight(t, "the zero run", impl.Run{})
}

// Of a run with no task that runs nothing can be told but that it is given up.
func TestRunsWithNoTaskThatRuns(t *testing.T) {
	for _, r := range []impl.Run{newRun(t, plan(1)), newRun(t, diamond()), newRun(t, plan(12, forward(30)...)), impl.RunFails(handedOut(newRun(t, diamond()), 0, 5), 0), impl.RunDone(handedOut(newRun(t, diamond()), 0, 5), 0)} {
		for _, task := range append(upTo(12), farInts()...) {
			wantDone(t, r, task, r)
			wantFails(t, r, task, r)
		}
		if impl.RunLeft(r).State != 4 {
			t.Errorf("%v is not given up", r)
		}
		wantP9(t, r)
	}
}

// The first task and the last one are told of like any other; those that are none are not.
func TestTasksThatAreTold(t *testing.T) {
	for tasks := 1; tasks <= 12; tasks++ {
		r := impl.Run{Id: idHere, Plan: plan(tasks), State: 1, Tasks: slices.Repeat([]impl.Task{{State: 3, Try: mostHere - 1, Until: 6}}, tasks)}
		for task := range tasks {
			done := withTask(r, task, func(task *impl.Task) { *task = impl.Task{State: 4, Try: mostHere - 1} })
			done.State = stateByWords(done.Tasks)
			wantDone(t, r, task, done)
			wantFails(t, r, task, withTask(r, task, func(task *impl.Task) { *task = impl.Task{State: 2, Try: mostHere - 1} }))
			last := withTask(r, task, func(task *impl.Task) { task.Try = mostHere })
			failed := impl.Run{Id: idHere, Plan: r.Plan, State: 3, Tasks: slices.Repeat([]impl.Task{{State: 6, Try: mostHere - 1}}, tasks)}
			failed.Tasks[task] = impl.Task{State: 5, Try: mostHere}
			wantFails(t, last, task, failed)
		}
		for _, none := range append(farInts(), -1, tasks, tasks+1) {
			if none < 0 || none >= tasks {
				wantDone(t, r, none, r)
				wantFails(t, r, none, r)
			}
		}
	}
}

func TestTasksInOfAnyRun(t *testing.T) {
	r := impl.Run{Id: -3, Tasks: laidTasks([4]int{2, 0, 0, 0}, [4]int{0, 5, 0, 0}, [4]int{7, 0, 0, 0}, [4]int{2, 9, 9, 9}, [4]int{math.MinInt, 0, 0, 0}, [4]int{math.MaxInt, 0, 0, 0}, [4]int{0, 0, 0, 0}, [4]int{-1, 0, 0, 0})}
	for _, c := range []struct {
		state int
		want  []int
	}{{2, []int{0, 3}}, {0, []int{1, 6}}, {7, []int{2}}, {math.MinInt, []int{4}}, {math.MaxInt, []int{5}}, {-1, []int{7}}, {1, nil}, {3, nil}, {6, nil}} {
		wantTasksIn(t, r, c.state, c.want)
	}
	for _, state := range statesAsked() {
		wantTasksIn(t, impl.Run{}, state, nil)
	}
	r = impl.Run{Plan: plan(1), Tasks: slices.Repeat([]impl.Task{{State: 4}}, 100)}
	wantTasksIn(t, r, 4, upTo(100))
	wantTasksIn(t, r, 2, nil)
	r = runOfAll()
	for state, want := range [][]int{{}, {3, 4, 5, 6}, {2}, {1}, {0}, {}, {}, {}} {
		wantTasksIn(t, r, state, want)
	}
}

// All runs of one task with small numbers, right or not.
func TestAllRunsOfOneTask(t *testing.T) {
	right := 0
	for _, most := range []int{1, 2} {
		for runState := -1; runState <= 5; runState++ {
			for state := -1; state <= 8; state++ {
				for need := -1; need <= 2; need++ {
					for try := -1; try <= 3; try++ {
						for until := -1; until <= 1; until++ {
							p := plan(1)
							p.Most = most
							r := impl.Run{Id: idHere, Plan: p, State: runState, Tasks: laidTasks([4]int{state, need, try, until})}
							wantOneRun(t, r)
							if runOkByWords(r) {
								right++
								wantP9(t, r)
							}
						}
					}
				}
			}
		}
	}
	// With Most 1: ready 1, runs 1, done 1, failed 1, left 2; with Most 2: 2, 2, 2, 2, 3.
	if right != 17 {
		t.Errorf("%d runs are right, not 17", right)
	}
}

// All runs of some tasks whose Need is as it has to be, in all states, with or without edges between them.
func TestAllRunsOfSomeTasks(t *testing.T) {
	for _, p := range []impl.Plan{plan(2), plan(2, edge(1, 0)), plan(3), plan(3, edge(0, 2)), plan(3, chain(2, 0, 1)...), plan(3, edge(0, 1), edge(2, 1)), plan(3, edge(1, 0), edge(1, 2))} {
		p.Most, p.Edges = 2, append([]impl.Edge{}, p.Edges...)
		kinds := [][3]int{{1, 0, 0}, {1, 2, 0}, {2, 0, 0}, {2, 1, 0}, {2, 2, 0}, {3, 0, 3}, {3, 1, 3}, {3, 2, 3}, {3, 1, 0}, {4, 1, 0}, {4, 2, 0}, {5, 2, 0}, {6, 0, 0}, {6, 2, 0}}
		all := 1
		for range p.Tasks {
			all *= len(kinds)
		}
		for which := range all {
			r := impl.Run{Id: idHere, Plan: p, Tasks: make([]impl.Task, p.Tasks)}
			for i := range r.Tasks {
				k := kinds[which%len(kinds)]
				r.Tasks[i] = impl.Task{State: k[0], Try: k[1], Until: k[2]}
				which /= len(kinds)
			}
			for i := range r.Tasks {
				for _, before := range beforeByWords(p, i) {
					if r.Tasks[before].State != 4 {
						r.Tasks[i].Need++
					}
				}
			}
			for state := range 6 {
				r.State = state
				if impl.RunOk(r) != runOkByWords(r) {
					t.Errorf("RunOk(%v) is not %v", r, runOkByWords(r))
				}
			}
			r.State = stateByWords(r.Tasks)
			if runOkByWords(r) {
				wantOneRun(t, r)
			}
		}
	}
}

// walk goes on with a run by a fixed rule until it is over, and asks at each step that it stays right.
func walk(t *testing.T, r impl.Run, next func(below int) int, failsOf, leftOf int) impl.Run {
	t.Helper()
	for steps := 0; r.State == impl.RsLive; steps++ {
		if steps > 300 {
			t.Fatalf("the run does not end: %v", r)
		}
		wantP9(t, r)
		ready, running := impl.TasksIn(r, impl.TsReady), impl.TasksIn(r, impl.TsRuns)
		if len(ready)+len(running) == 0 {
			t.Fatalf("no task is ready or runs: %v", r)
		}
		if len(running) == 0 || len(ready) > 0 && next(2) == 0 {
			r = handedOut(r, ready[next(len(ready))], 1+next(50))
			wantRunOk(t, r, true)
			continue
		}
		task := running[next(len(running))]
		switch lot := next(100); {
		case lot < leftOf:
			wantLeft(t, r, leftRunByWords(r))
			r = impl.RunLeft(r)
		case lot < leftOf+failsOf:
			wantFails(t, r, task, failsByWords(r, task))
			r = impl.RunFails(r, task)
		default:
			wantDone(t, r, task, doneByWords(r, task))
			r = impl.RunDone(r, task)
		}
		wantOneRun(t, r)
	}
	wantRunOk(t, r, true)
	wantRunAsItIs(t, r)
	return r
}

// Runs of plans put together by a fixed rule go on until all tasks are done, until one has failed, or until they are given up.
func TestPromiseOfRuns(t *testing.T) {
	seed := 3
	next := func(below int) int {
		seed = (seed*1103515245 + 12345) % (1 << 31)
		return seed >> 8 % below
	}
	var ends [5]int
	for round := range 240 {
		tasks := 1 + next(12)
		p := impl.Plan{Prio: next(10), Most: 1 + next(5), Wait: 1 + next(20), Tasks: tasks}
		for range next(31) {
			a, b := next(tasks), next(tasks)
			if e := edge(max(a, b), min(a, b)); a != b && !slices.Contains(p.Edges, e) {
				p.Edges = append(p.Edges, e)
			}
		}
		r, ok := impl.RunNew(1+next(9999), p)
		if !ok {
			t.Fatalf("RunNew(%v) is none", p)
		}
		lots := [][2]int{{0, 0}, {30, 0}, {20, 5}, {70, 0}}[round%4]
		over := walk(t, r, next, lots[0], lots[1])
		ends[over.State]++
		if lots == [2]int{0, 0} && (over.State != impl.RsDone || len(impl.TasksIn(over, impl.TsDone)) != tasks) {
			t.Errorf("without a fault it ends as %v", over)
		}
	}
	if ends[impl.RsDone] < 60 || ends[impl.RsFailed] < 20 || ends[impl.RsLeft] < 5 {
		t.Errorf("the runs end in too few ways: %v", ends)
	}
}

// Taken in the plan's order, each task is ready when its turn comes, and those behind it need one less behind it.
func TestRunsInTheOrderOfTheirPlan(t *testing.T) {
	for _, p := range []impl.Plan{plan(12), diamond(), plan(12, forward(30)...), plan(12, chain(11, 10, 9, 8, 7, 6, 5, 4, 3, 2, 1, 0)...), plan(6, edge(5, 0), edge(3, 1), edge(4, 1))} {
		r := newRun(t, p)
		for _, task := range impl.OrderOf(p) {
			if r.Tasks[task].State != impl.TsReady || r.Tasks[task].Need != 0 {
				t.Fatalf("%d is not ready in %v", task, r)
			}
			out := handedOut(r, task, 7)
			r = impl.RunDone(out, task)
			for other := range p.Tasks {
				less := 0
				if slices.Contains(impl.BehindOf(p, task), other) {
					less = 1
				}
				if r.Tasks[other].Need != out.Tasks[other].Need-less {
					t.Errorf("%v: behind %d the Need of %d is %d", p, task, other, r.Tasks[other].Need)
				}
			}
			wantP9(t, r)
			wantOneRun(t, r)
		}
		if r.State != impl.RsDone {
			t.Errorf("at the end it is %v", r)
		}
	}
}
