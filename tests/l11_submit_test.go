package tests

import (
	"encoding/binary"
	"hash/crc32"
	"math"
	"slices"
	"testing"

	"loop.example/g00965/impl"
)

var (
	_ func(impl.Yard, int, impl.Plan) (impl.Yard, int) = impl.Submit
	_ func(impl.Yard, impl.Plan) bool                  = impl.RoomFor
)

const mostSeqOfPlans = 999999000 // what Seq and Tasks together are at most

func TestConstantsOfPlansThatCome(t *testing.T) {
	got := []int{impl.ErrForm, impl.ErrThere, impl.ErrFull, impl.ErrBad}
	if want := []int{5, 6, 7, 8}; !slices.Equal(got, want) {
		t.Errorf("the constants are %v, not %v", got, want)
	}
	var small int8 = impl.ErrForm + impl.ErrBad
	if small != 13 {
		t.Errorf("both together are %d", small)
	}
}

func roomByWords(y impl.Yard, p impl.Plan) bool {
	if len(y.Runs) >= 8 || p.Tasks < 0 || p.Tasks > 12 || slotsByWords(y)+p.Tasks > 40 {
		return false
	}
	return y.Seq <= mostSeqOfPlans && y.Seq+p.Tasks <= mostSeqOfPlans
}

// codeByWords goes down the chapter's codes in their order.
func codeByWords(y impl.Yard, id int, p impl.Plan) int {
	if !yardOkByWords(y) {
		return 8
	}
	if id < 1 || id > 9999 {
		return 5
	}
	if runAtByWords(y, id) != -1 {
		return 6
	}
	if fault := faultByWords(p); fault != 0 {
		return fault
	}
	if !roomByWords(y, p) {
		return 7
	}
	return 0
}

func homeByWords(id int) int {
	return int(crc32.ChecksumIEEE(binary.AppendUvarint(nil, uint64(id))) % 4)
}

func takenByWords(y impl.Yard, id int, p impl.Plan) impl.Yard {
	r, home := impl.Run{Id: id, Plan: p, State: 1}, homeByWords(id)
	y.Shelf = slices.Clone(y.Shelf)
	for task := range p.Tasks {
		need := len(beforeByWords(p, task))
		r.Tasks = append(r.Tasks, impl.Task{State: 2 - min(need, 1), Need: need})
		if need == 0 {
			y.Shelf[home] = putByWords(y.Shelf[home], impl.Entry{Prio: p.Prio, Seq: y.Seq, Run: id, Task: task})
			y.Seq++
		}
	}
	y.Runs = append(slices.Clone(y.Runs), r)
	return y
}

func fill[T any](list []T, with T) {
	full := list[:cap(list)]
	for i := range full {
		full[i] = with
	}
}

func isFilled[T comparable](list []T, with T) bool {
	return !slices.ContainsFunc(list[:cap(list)], func(item T) bool { return item != with })
}

// wantOwnLists writes a number of its own into each list of a yard that was answered, and into the room behind it: where two lists share memory, one has the other one's number then.
func wantOwnLists(t *testing.T, y impl.Yard) {
	t.Helper()
	mark := func(i int) int { return -77 - i }
	for i, shelf := range y.Shelf {
		fill(shelf, impl.Entry{Prio: mark(i)})
	}
	for i, r := range y.Runs {
		fill(r.Plan.Edges, edge(mark(i), 0))
		fill(r.Tasks, impl.Task{State: mark(i)})
	}
	for i, shelf := range y.Shelf {
		if !isFilled(shelf, impl.Entry{Prio: mark(i)}) {
			t.Errorf("the shelf %d shares memory with another one", i)
		}
	}
	for i, r := range y.Runs {
		if !isFilled(r.Plan.Edges, edge(mark(i), 0)) || !isFilled(r.Tasks, impl.Task{State: mark(i)}) {
			t.Errorf("the run %d shares memory with another one", i)
		}
	}
	fill(y.Shelf, []impl.Entry{{Prio: -77}})
	fill(y.Runs, impl.Run{Id: -77})
}

func wantRoom(t *testing.T, y impl.Yard, p impl.Plan, want bool) {
	t.Helper()
	givenYard := laidYard(y)
	givenPlan, edges := laidPlan(p)
	yardBefore, edgesBefore := wholeYard(givenYard), slices.Clone(edges)
	if impl.RoomFor(givenYard, givenPlan) != want {
		t.Errorf("RoomFor(%v, %v) is not %v", y, p, want)
	}
	if !sameYards(wholeYard(givenYard), yardBefore) || !slices.Equal(edges, edgesBefore) {
		t.Errorf("RoomFor(%v, %v) wrote into an argument", y, p)
	}
}

// wantSubmit asks for the code, for the yard by the chapter's words, and for RoomFor beside it; that the answer is new memory, and that nothing is written into the arguments. It tells the yard that is answered.
func wantSubmit(t *testing.T, what string, y impl.Yard, id int, p impl.Plan, code int) impl.Yard {
	t.Helper()
	if by := codeByWords(y, id, p); by != code {
		t.Fatalf("%s: by the words the code is %d, not %d", what, by, code)
	}
	want := y
	if code == 0 {
		want = takenByWords(y, id, p)
	}
	givenYard := laidYard(y)
	givenPlan, edges := laidPlan(p)
	yardBefore, edgesBefore := wholeYard(givenYard), slices.Clone(edges)
	got, gotCode := impl.Submit(givenYard, id, givenPlan)
	if gotCode != code || !sameYards(got, want) {
		t.Errorf("%s: Submit(%v, %d, %v) is %v, %d, not %v, %d", what, y, id, p, got, gotCode, want, code)
	}
	wantOwnLists(t, got)
	if !sameYards(wholeYard(givenYard), yardBefore) || !slices.Equal(edges, edgesBefore) {
		t.Errorf("%s: Submit(%v, %d, %v) wrote into an argument, or shares its memory", what, y, id, p)
	}
	again, againCode := impl.Submit(givenYard, id, givenPlan)
	if againCode != code || !sameYards(again, want) {
		t.Errorf("%s: Submit(%v, %d, %v) is %v, %d when it is asked again", what, y, id, p, again, againCode)
	}
	wantRoom(t, y, p, roomByWords(y, p))
	return again
}

// wantP11 asks what the promise says, by what the program answers alone. No entry of the yard is of the id.
func wantP11(t *testing.T, y impl.Yard, id int, p impl.Plan) {
	t.Helper()
	got, code := impl.Submit(y, id, p)
	r, ok := impl.RunNew(id, p)
	if may := impl.YardOk(y) && ok && impl.RunAt(y, id) < 0; may && impl.RoomFor(y, p) != (code == 0) || !may && code == 0 {
		t.Errorf("Submit(%v, %d, %v) is %d, where there is room: %v", y, id, p, code, impl.RoomFor(y, p))
	}
	if code != 0 {
		if !sameYards(got, y) {
			t.Errorf("Submit(%v, %d, %v) is %v, though it is not taken", y, id, p, got)
		}
		return
	}
	wantThere(t, y, got, r)
	if twice, code := impl.Submit(got, id, p); code != impl.ErrThere || !sameYards(twice, got) {
		t.Errorf("Submit(%v, %d, %v) once more is %v, %d", y, id, p, twice, code)
	}
}

// wantThere asks that the run came to a yard, with what of it stands ready, and that all else is as it was.
func wantThere(t *testing.T, y, got impl.Yard, r impl.Run) {
	t.Helper()
	if at := impl.RunAt(got, r.Id); at != len(y.Runs) || len(got.Runs) != at+1 || !sameRun(got.Runs[at], r) {
		t.Errorf("the run %v is not the last one of %v", r, got)
	}
	if !impl.YardOk(got) || impl.SlotsOf(got) != impl.SlotsOf(y)+r.Plan.Tasks {
		t.Errorf("%v is right: %v, and has %d slots behind %d", got, impl.YardOk(got), impl.SlotsOf(got), impl.SlotsOf(y))
	}
	ready := impl.TasksIn(r, impl.TsReady)
	for i, task := range ready {
		e := impl.Entry{Prio: r.Plan.Prio, Seq: y.Seq + i, Run: r.Id, Task: task}
		if !slices.Contains(got.Shelf[impl.ShelfOf(r.Id)], e) || !impl.Fresh(got, e) {
			t.Errorf("%v is not on the shelf of %v", e, got)
		}
	}
	if got.Seq != y.Seq+len(ready) || len(impl.ReadyOf(got)) != len(impl.ReadyOf(y))+len(ready) {
		t.Errorf("%v has %d more that is ready behind %v", got, len(ready), y)
	}
	rest := impl.Yard{Now: got.Now, Seq: y.Seq, Runs: got.Runs[:len(y.Runs)]}
	for _, shelf := range got.Shelf {
		rest.Shelf = append(rest.Shelf, slices.DeleteFunc(slices.Clone(shelf), func(e impl.Entry) bool { return e.Run == r.Id }))
	}
	if !sameYards(rest, y) {
		t.Errorf("%v has something else than %v beside %v", got, y, r)
	}
	wantP10(t, got)
}

// wantTaken asks for a plan that is taken, by the words and by the promise.
func wantTaken(t *testing.T, what string, y impl.Yard, id int, p impl.Plan) impl.Yard {
	t.Helper()
	wantP11(t, y, id, p)
	return wantSubmit(t, what, y, id, p, 0)
}

// wantRefused asks for a plan that is not taken.
func wantRefused(t *testing.T, what string, y impl.Yard, id int, p impl.Plan, code int) {
	t.Helper()
	wantP11(t, y, id, p)
	wantSubmit(t, what, y, id, p, code)
}

func withPrio(p impl.Plan, prio int) impl.Plan {
	p.Prio = prio
	return p
}

func withSeq(y impl.Yard, seq int) impl.Yard {
	y.Seq = seq
	return y
}

// withSlots lays entries of what is over on the shelves, turn by turn, until there are so many slots.
func withSlots(y impl.Yard, slots int) impl.Yard {
	for i := 0; slotsByWords(y) < slots; i++ {
		y = shelved(y, i%4, i%10, 5000+i%3, i%13)
	}
	return y
}

// busyYardBut is the busy yard without the run at this place, so that there is room for one.
func busyYardBut(t *testing.T, place int) impl.Yard {
	t.Helper()
	y := busyYard(t)
	return yardOf(3, slices.Delete(slices.Clone(y.Runs), place, place+1)...)
}

// roomyYards have room for a plan of 12 tasks; their runs have the ids 41 to 48, and are of all states.
func roomyYards(t *testing.T) []impl.Yard {
	t.Helper()
	yards := []impl.Yard{impl.YardNew(), yardOf(lastNow), withSeq(yardOf(7), 1000), withSlots(impl.YardNew(), 28)}
	for place := range 8 {
		y := busyYardBut(t, place)
		yards = append(yards, y, withSlots(y, 28))
	}
	over := idsOf(idHere, slices.Repeat(runsOfAllStates(t)[3:6], 3)[:7]...)
	return append(yards, yardOf(0, over...), withSlots(yardOf(0, over...), 28))
}

// plansOfAllShapes have no fault: with no edge, in chains, in stars, with several ways, and at the limits.
func plansOfAllShapes() []impl.Plan {
	plans := []impl.Plan{
		diamond(), plan(12, forward(29)...), plan(12, forward(30)...), plan(12, shuffled(forward(30), 5)...), plan(2, []impl.Edge{}...),
		{Prio: 0, Most: 1, Wait: 1, Tasks: 1}, {Prio: 9, Most: 5, Wait: 20, Tasks: 12, Edges: forward(30)},
	}
	for tasks := 1; tasks <= 12; tasks++ {
		up := upTo(tasks)
		down := slices.Clone(up)
		slices.Reverse(down)
		in, out := []impl.Edge{}, []impl.Edge{}
		for task := 1; task < tasks; task++ {
			in, out = append(in, edge(task, 0)), append(out, edge(0, task))
		}
		plans = append(plans, plan(tasks), plan(tasks, chain(up...)...), plan(tasks, chain(down...)...), plan(tasks, in...), plan(tasks, out...))
	}
	return plans
}

func TestSubmitOfKnownPlans(t *testing.T) {
	p := impl.Plan{Prio: 1, Most: 2, Wait: 3, Tasks: 3, Edges: []impl.Edge{edge(0, 2), edge(1, 2)}}
	first := impl.Run{Id: 7, Plan: p, State: 1, Tasks: laidTasks([4]int{2, 0, 0, 0}, [4]int{2, 0, 0, 0}, [4]int{1, 2, 0, 0})}
	want := impl.Yard{Seq: 3, Shelf: [][]impl.Entry{{}, {}, {{Prio: 1, Seq: 1, Run: 7}, {Prio: 1, Seq: 2, Run: 7, Task: 1}}, {}}, Runs: []impl.Run{first}}
	y := wantTaken(t, "the first plan", impl.YardNew(), 7, p)
	if !sameYards(y, want) {
		t.Errorf("the yard is %v, not %v", y, want)
	}
	// Of one shelf with 7 is 5: the more urgent one stands ahead, the one that is as urgent behind.
	y = wantTaken(t, "a more urgent one", y, 5, withPrio(plan(2, chain(1, 0)...), 2))
	y = wantTaken(t, "one that is as urgent", y, 128, withPrio(plan(1), 1))
	y = wantTaken(t, "a less urgent one", y, 300, withPrio(plan(1), 0))
	y = wantTaken(t, "one for another shelf", y, 4, withPrio(plan(2), 1))
	want.Shelf[2] = []impl.Entry{{Prio: 2, Seq: 3, Run: 5, Task: 1}, {Prio: 1, Seq: 1, Run: 7}, {Prio: 1, Seq: 2, Run: 7, Task: 1}, {Prio: 1, Seq: 4, Run: 128}, {Prio: 0, Seq: 5, Run: 300}}
	want.Shelf[0] = []impl.Entry{{Prio: 1, Seq: 6, Run: 4}, {Prio: 1, Seq: 7, Run: 4, Task: 1}}
	if y.Seq != 8 || !slices.EqualFunc(y.Shelf, want.Shelf, slices.Equal[[]impl.Entry]) {
		t.Errorf("the yard is %v, not %v", y, want)
	}
	ids := []int{}
	for _, r := range y.Runs {
		ids = append(ids, r.Id)
	}
	if !slices.Equal(ids, []int{7, 5, 128, 300, 4}) {
		t.Errorf("the runs are %v", ids)
	}
	wantRight(t, "some plans that came", y)
}

func TestSubmitOfPlansOfAllShapes(t *testing.T) {
	for i, y := range roomyYards(t) {
		for k, p := range plansOfAllShapes() {
			for _, id := range []int{1, 1 + (13*k+i)%40, 49 + 17*k + i, 9999} {
				wantTaken(t, "a plan", y, id, p)
			}
		}
		for prio := range 10 {
			for id := 1; id <= 8; id++ {
				taken := wantTaken(t, "a Prio", y, id, withPrio(diamond(), prio))
				wantRight(t, "a Prio", taken)
			}
		}
	}
}

// What is told of the runs that are there already goes on beside a plan that came.
func TestWhatCameGoesOn(t *testing.T) {
	y := wantTaken(t, "a plan", busyYardBut(t, 7), 3, diamond())
	for place, r := range y.Runs {
		for _, told := range []impl.Run{impl.RunLeft(r), impl.RunDone(r, 1), impl.RunFails(r, 1)} {
			runs := slices.Clone(y.Runs)
			runs[place] = told
			next := yardOf(3, runs...)
			wantRefused(t, "a plan behind what was told", next, 3, diamond(), impl.ErrThere)
			wantTaken(t, "a plan behind what was told", yardOf(3, slices.Delete(runs, 7, 8)...), 3, diamond())
		}
	}
}

func TestSubmitOfAnIdThatIsThere(t *testing.T) {
	for _, y := range roomyYards(t) {
		for _, r := range y.Runs {
			for _, p := range []impl.Plan{plan(1), r.Plan, plan(12, forward(30)...)} {
				wantRefused(t, "an id that is there", y, r.Id, p, impl.ErrThere)
			}
		}
		for _, id := range []int{1, 40, 49, 9999} {
			taken := wantTaken(t, "an id", y, id, plan(3))
			wantRefused(t, "the id once more", taken, id, plan(3), impl.ErrThere)
			wantRefused(t, "the id once more", taken, id, plan(1), impl.ErrThere)
		}
	}
	// A run that is over is there, too.
	for _, r := range runsOfAllStates(t) {
		wantRefused(t, "one run", yardOf(3, r), idHere, plan(1), impl.ErrThere)
		wantTaken(t, "one run", yardOf(3, r), idHere+1, plan(1))
		wantTaken(t, "one run", yardOf(3, r), idHere-1, plan(1))
	}
}

// wrongIds are none that a run may have.
func wrongIds() []int {
	return []int{0, -1, -41, -9999, 10000, 10001, 1000000000, 1 << 32, 1<<32 + 1, 1 - 1<<32, math.MinInt, math.MinInt + 1, math.MaxInt}
}

func TestSubmitOfEachId(t *testing.T) {
	for _, y := range roomyYards(t) {
		for _, id := range []int{1, 2, 40, 49, 127, 128, 9998, 9999} {
			wantTaken(t, "an id", y, id, diamond())
		}
		for _, id := range wrongIds() {
			wantRefused(t, "no id", y, id, diamond(), impl.ErrForm)
		}
	}
	for id := 1; id <= 9999; id += 11 {
		wantTaken(t, "an id", impl.YardNew(), id, plan(2))
	}
}

func TestSubmitOfPlansWithAFault(t *testing.T) {
	for _, y := range roomyYards(t) {
		base := plan(12, chain(0, 1, 2, 3)...)
		wantTaken(t, "no fault", y, 7, base)
		for _, s := range spoils() {
			one := base
			s.do(&one)
			wantRefused(t, s.what, y, 7, one, s.code)
		}
		wantRefused(t, "the zero plan", y, 7, impl.Plan{}, impl.ErrMany)
		for _, tasks := range []int{math.MinInt, -1, 0, 13, 41, 1 << 32, 1<<32 + 1, math.MaxInt} {
			wantRefused(t, "Tasks", y, 7, plan(tasks), impl.ErrMany)
		}
	}
}

func TestSubmitWithManyRuns(t *testing.T) {
	for many := range 9 {
		live, over, mixed := []impl.Run{}, []impl.Run{}, []impl.Run{}
		for i := range many {
			live, over = append(live, readyRun(i+1, 1+i%2)), append(over, doneRun(i+1))
			mixed = append(mixed, []impl.Run{live[i], over[i], runningRun(i+1, 7, 3)}[i%3])
		}
		for _, runs := range [][]impl.Run{live, over, mixed} {
			y := yardOf(0, runs...)
			for _, p := range []impl.Plan{plan(1), plan(12), diamond(), plan(12, forward(30)...)} {
				if many < 8 {
					wantTaken(t, "fewer than MaxRuns", y, 100, p)
				} else {
					wantRefused(t, "MaxRuns", y, 100, p, impl.ErrFull)
				}
			}
		}
	}
}

// Plans come one behind the other until there is no more room, and that takes nothing away.
func TestSubmitUntilThereIsNoRoom(t *testing.T) {
	for tasks := 1; tasks <= 12; tasks++ {
		for _, p := range []impl.Plan{plan(tasks), plan(tasks, chain(upTo(tasks)...)...)} {
			y, many := impl.YardNew(), min(8, 40/tasks)
			for i := range many {
				y = wantTaken(t, "one more", y, 9999-i, withPrio(p, i))
				wantRight(t, "one more", y)
			}
			wantRefused(t, "no room", y, 1, p, impl.ErrFull)
			wantRefused(t, "no room, and there", y, 9999, p, impl.ErrThere)
			if many < 8 && 40%tasks > 0 {
				wantTaken(t, "what fits still", y, 1, plan(40%tasks))
				wantRefused(t, "one task more", y, 1, plan(40%tasks+1), impl.ErrFull)
			}
		}
	}
}

// Beside runs of all kinds as many entries of what is over are laid as there are slots, just so that the plan goes in, and one more.
func TestSubmitAtTheLimitOfSlots(t *testing.T) {
	over := idsOf(80, slices.Repeat([]impl.Run{runsOfAllStates(t)[3]}, 7)...)
	for _, y := range []impl.Yard{
		yardOf(0), yardOf(0, readyRun(1, 12), readyRun(2, 12), readyRun(3, 4)), yardOf(0, readyRun(1, 12), doneRun(2)), yardOf(0, over...),
		busyYardBut(t, 0), busyYardBut(t, 3), busyYardBut(t, 6), yardOf(0, runningRun(1, 7, 3), readyRun(2, 1)),
	} {
		for tasks := 1; tasks <= 12; tasks++ {
			just, one := withSlots(y, 40-tasks), withSlots(y, 41-tasks)
			for _, p := range []impl.Plan{plan(tasks), plan(tasks, chain(upTo(tasks)...)...)} {
				taken := wantTaken(t, "the last slots", just, 9, p)
				wantRight(t, "the last slots", taken)
				if impl.SlotsOf(taken) != 40 {
					t.Errorf("%v has %d slots", taken, impl.SlotsOf(taken))
				}
				wantRefused(t, "one slot too few", one, 9, p, impl.ErrFull)
				wantRefused(t, "no slot", withSlots(y, 40), 9, p, impl.ErrFull)
			}
		}
	}
}

// Entries of each kind that is not fresh take a slot, and those that are fresh take none beside their task.
func TestSubmitBesideEntriesOfWhatIsOver(t *testing.T) {
	y := busyYardBut(t, 7)
	for what, list := range staleEntries(t, busyYard(t)) {
		if what == "" {
			continue
		}
		with := y
		for i := 0; slotsByWords(with) < 38; i++ {
			e := list[i%len(list)]
			if e.Run == 3 {
				t.Fatalf("%v is of the id that comes", e)
			}
			with = shelved(with, i%4, e.Prio, e.Run, e.Task)
		}
		wantTaken(t, what, with, 3, plan(2))
		wantRefused(t, what, with, 3, plan(3), impl.ErrFull)
	}
	full := yardOf(0, readyRun(1, 12), readyRun(2, 12), readyRun(3, 4))
	wantTaken(t, "28 that are ready", full, 9, plan(12))
	wantRefused(t, "28 that are ready, and one of none", shelved(full, 0, 1, 77, 0), 9, plan(12), impl.ErrFull)
	wantTaken(t, "28 that are ready, and one of none", shelved(full, 0, 1, 77, 0), 9, plan(11))
}

// Seq and Tasks together count, whatever number of the tasks stands ready.
func TestSubmitAtTheLimitOfSeq(t *testing.T) {
	for _, y := range []impl.Yard{impl.YardNew(), busyYardBut(t, 6), withSlots(yardOf(0, readyRun(40, 3)), 28)} {
		for tasks := 1; tasks <= 12; tasks++ {
			for _, p := range []impl.Plan{plan(tasks), plan(tasks, chain(upTo(tasks)...)...)} {
				for _, seq := range []int{1000, mostSeqOfPlans - 13, mostSeqOfPlans - tasks - 1, mostSeqOfPlans - tasks} {
					taken := wantTaken(t, "a Seq", withSeq(y, seq), 9, p)
					if taken.Seq > mostSeqOfPlans || taken.Seq != seq+len(impl.TasksIn(taken.Runs[len(y.Runs)], impl.TsReady)) {
						t.Errorf("behind the Seq %d is %d", seq, taken.Seq)
					}
					wantRight(t, "a Seq", taken)
				}
				for _, seq := range []int{mostSeqOfPlans - tasks + 1, mostSeqOfPlans, mostSeqOfPlans + 1, mostSeq - 12, mostSeq - 1, mostSeq} {
					wantRefused(t, "a Seq", withSeq(y, seq), 9, p, impl.ErrFull)
				}
				for _, seq := range []int{math.MinInt, -1, 0, mostSeq + 1, 1 << 32, math.MaxInt - 12, math.MaxInt} {
					wantRefused(t, "no Seq", withSeq(y, seq), 9, p, impl.ErrBad)
				}
			}
		}
	}
}

// A right yard may have 40 entries, all on one shelf; a shelf of MaxShelf is none of a right one.
func TestSubmitToAFullShelf(t *testing.T) {
	for tasks := 1; tasks <= 12; tasks++ {
		for prio := -1; prio <= 10; prio += 11 {
			y := yardOf(0, readyRun(5, 1))
			for i := 0; slotsByWords(y) < 40-tasks; i++ {
				y = shelved(y, impl.ShelfOf(7), prio, 77, i)
			}
			taken := wantTaken(t, "a full shelf", y, 7, plan(tasks))
			wantRight(t, "a full shelf", taken)
			if len(taken.Shelf[impl.ShelfOf(7)]) != 40 {
				t.Errorf("the shelf has %d", len(taken.Shelf[impl.ShelfOf(7)]))
			}
		}
	}
	fresh, stale, many := yardOf(0, readyRun(9, 1)), yardOf(0), yardOf(0)
	fresh.Shelf = emptyShelves()
	for i := range 81 {
		if i < 80 {
			fresh = shelved(fresh, impl.ShelfOf(7), 4, 9, 0)
			stale = shelved(stale, impl.ShelfOf(7), 4, 77, i)
		}
		many = shelved(many, i%4, 4, 77, i)
	}
	for _, y := range []impl.Yard{fresh, stale, many} {
		for tasks := 1; tasks <= 12; tasks++ {
			wantRefused(t, "a shelf of MaxShelf", y, 7, plan(tasks), impl.ErrBad)
		}
	}
	wantRoom(t, fresh, plan(12), true)
	wantRoom(t, stale, plan(1), false)
	wantRoom(t, many, plan(0), false)
}

// fullYards are right yards without room, by what there is no room for; none has a run of the ids 30 to 39.
func fullYards(t *testing.T) map[string]impl.Yard {
	t.Helper()
	return map[string]impl.Yard{
		"runs":           busyYard(t),
		"runs, all over": yardOf(0, idsOf(idHere, slices.Repeat([]impl.Run{doneRun(1)}, 8)...)...),
		"slots":          withSlots(busyYardBut(t, 5), 40),
		"Seq":            withSeq(busyYardBut(t, 5), mostSeqOfPlans),
		"slots and Seq":  withSeq(withSlots(busyYardBut(t, 2), 40), mostSeq),
		"runs and slots": withSlots(busyYard(t), 40),
		"runs and Seq":   withSeq(busyYard(t), mostSeq-1),
		"all":            withSeq(withSlots(busyYard(t), 40), mostSeqOfPlans+1),
	}
}

// orderSpoils make any right yard with a run a wrong one, and leave the ids of its runs as they are, and its slots and its Seq, if they are too many.
func orderSpoils() map[string]func(y *impl.Yard) {
	return map[string]func(y *impl.Yard){
		"Now":                  func(y *impl.Yard) { y.Now = -1 },
		"a Now too late":       func(y *impl.Yard) { y.Now = lastNow + 1 },
		"a shelf more":         func(y *impl.Yard) { y.Shelf = append(y.Shelf, nil) },
		"a State":              func(y *impl.Yard) { y.Runs[0].State = 9 },
		"a Prio":               func(y *impl.Yard) { y.Runs[0].Plan.Prio = 10 },
		"a task more":          func(y *impl.Yard) { y.Runs[0].Tasks = append(y.Runs[0].Tasks, impl.Task{State: 4, Try: 1}) },
		"a Try":                func(y *impl.Yard) { y.Runs[0].Tasks[0].Try = 77 },
		"a Need":               func(y *impl.Yard) { y.Runs[0].Tasks[0].Need++ },
		"an Until":             func(y *impl.Yard) { y.Runs[0].Tasks[0].Until = math.MaxInt },
		"far too many entries": func(y *impl.Yard) { y.Shelf[3] = rowOf(100) },
		"the Id of another":    func(y *impl.Yard) { y.Runs = append(y.Runs, y.Runs[0]) },
	}
}

// wantFirstCode asks a yard for each id and each plan; what the first code is, is known by what was done to them.
func wantFirstCode(t *testing.T, what string, y impl.Yard, bad, full bool) {
	t.Helper()
	right := plan(12, chain(0, 1, 2, 3)...)
	for _, id := range []int{30, 39, 0, 10000, -1, math.MinInt, math.MaxInt, y.Runs[0].Id, y.Runs[len(y.Runs)-1].Id} {
		for _, s := range append(spoils(), spoil{"nothing", 0, func(*impl.Plan) {}}) {
			p := right
			s.do(&p)
			want := s.code
			switch {
			case bad:
				want = 8
			case id < 1 || id > 9999:
				want = 5
			case id != 30 && id != 39:
				want = 6
			case full && s.code == 0:
				want = 7
			}
			wantP11(t, y, id, p)
			wantSubmit(t, what+", "+s.what, y, id, p, want)
		}
	}
}

func TestOrderOfCodes(t *testing.T) {
	yards := fullYards(t)
	yards["none"] = busyYardBut(t, 4)
	for lack, y := range yards {
		wantFirstCode(t, lack, y, false, lack != "none")
		for what, do := range orderSpoils() {
			wrong := laidYard(y)
			do(&wrong)
			wantFirstCode(t, lack+", "+what, wrong, true, lack != "none")
		}
	}
}

// In a right yard no id is both none and there; in one that is not right the yard comes first.
func TestSubmitOfAWrongIdThatIsThere(t *testing.T) {
	for _, id := range wrongIds() {
		for _, r := range runsOfAllStates(t) {
			r.Id = id
			y := yardOf(3, r)
			if impl.RunAt(y, id) != 0 {
				t.Fatalf("there is no run %d", id)
			}
			for _, p := range []impl.Plan{plan(1), {}, plan(2, chain(0, 1, 0)...)} {
				wantRefused(t, "a wrong id that is there", y, id, p, impl.ErrBad)
				wantRefused(t, "another wrong id", y, 0, p, impl.ErrBad)
				wantRefused(t, "another id", y, 7, p, impl.ErrBad)
			}
		}
	}
}

// roomySpoils make a yard with two runs and their entries a wrong one, in one point each; the first run has one task that runs, the second one three that stand ready on its shelf.
func roomySpoils() map[string]func(y *impl.Yard) {
	home := impl.ShelfOf(12)
	return map[string]func(y *impl.Yard){
		"Now below 0":          func(y *impl.Yard) { y.Now = -1 },
		"Now too late":         func(y *impl.Yard) { y.Now = 9 },
		"Now too early":        func(y *impl.Yard) { y.Now = 0 },
		"the greatest Now":     func(y *impl.Yard) { y.Now = math.MaxInt },
		"Seq 0":                func(y *impl.Yard) { y.Seq = 0 },
		"Seq that was given":   func(y *impl.Yard) { y.Seq-- },
		"the least Seq":        func(y *impl.Yard) { y.Seq = math.MinInt },
		"no shelves":           func(y *impl.Yard) { y.Shelf = nil },
		"a shelf less":         func(y *impl.Yard) { y.Shelf = y.Shelf[:3] },
		"a shelf more":         func(y *impl.Yard) { y.Shelf = append(y.Shelf, nil) },
		"an entry less":        func(y *impl.Yard) { y.Shelf[home] = y.Shelf[home][1:] },
		"an entry twice":       func(y *impl.Yard) { *y = shelved(*y, 0, 4, 12, 0) },
		"two turned round":     func(y *impl.Yard) { e := y.Shelf[home]; e[0], e[1] = e[1], e[0] },
		"the Seq of another":   func(y *impl.Yard) { y.Shelf[(home+1)%4] = []impl.Entry{{Prio: 1, Seq: 2, Run: 77}} },
		"the Prio of an entry": func(y *impl.Yard) { y.Shelf[home][0].Prio = 5 },
		"the Prio of the plan": func(y *impl.Yard) { y.Runs[1].Plan.Prio = 5 },
		"41 slots":             func(y *impl.Yard) { *y = withSlots(*y, 41) },
		"an Until of Now":      func(y *impl.Yard) { y.Runs[0].Tasks[0].Until = 3 },
		"an Until too late":    func(y *impl.Yard) { y.Runs[0].Tasks[0].Until = 11 },
		"an Until of none":     func(y *impl.Yard) { y.Runs[1].Tasks[0].Until = 9 },
		"one Id twice":         func(y *impl.Yard) { y.Runs[0].Id = 12 },
		"Id 0":                 func(y *impl.Yard) { y.Runs[0].Id = 0 },
		"a run that is none":   func(y *impl.Yard) { y.Runs = append(y.Runs, impl.Run{}) },
		"a State":              func(y *impl.Yard) { y.Runs[1].State = 2 },
		"a Most":               func(y *impl.Yard) { y.Runs[1].Plan.Most = 0 },
		"Tasks":                func(y *impl.Yard) { y.Runs[1].Plan.Tasks = 4 },
		"an edge":              func(y *impl.Yard) { y.Runs[1].Plan.Edges = append(y.Runs[1].Plan.Edges, edge(0, 1)) },
		"far too many runs": func(y *impl.Yard) {
			for id := 100; id < 107; id++ {
				y.Runs = append(y.Runs, doneRun(id))
			}
		},
	}
}

func TestSubmitToYardsWrongInOnePoint(t *testing.T) {
	base := yardOf(3, runningRun(11, 7, 8), readyRun(12, 3))
	wantTaken(t, "the yard", base, 7, diamond())
	for what, do := range roomySpoils() {
		y := laidYard(base)
		do(&y)
		for _, id := range []int{7, 11, 12, 0, 10000} {
			for _, p := range []impl.Plan{diamond(), plan(1), {}} {
				wantRefused(t, what, y, id, p, impl.ErrBad)
			}
		}
	}
	for what, do := range yardSpoils() {
		y := laidYard(busyYard(t))
		do(&y)
		wantRefused(t, what, y, 7, diamond(), impl.ErrBad)
	}
	for _, y := range []impl.Yard{{}, {Seq: 1}, {Shelf: emptyShelves()}, {Seq: 1, Shelf: make([][]impl.Entry, 1000)}} {
		wantRefused(t, "no yard", y, 7, diamond(), impl.ErrBad)
	}
}

func tasksAsked() []int {
	return []int{math.MinInt, math.MinInt + 1, -1 << 32, -13, -1, 0, 1, 2, 11, 12, 13, 40, 1 << 32, 1<<32 + 1, math.MaxInt - 12, math.MaxInt}
}

// RoomFor asks the plan for its Tasks alone, whatever else it is.
func plansOfTasks(tasks int) []impl.Plan {
	return []impl.Plan{
		plan(tasks), {Tasks: tasks}, plan(tasks, edge(-1, 99)), plan(tasks, edge(0, 0)), plan(tasks, forward(66)...),
		{Prio: math.MinInt, Most: math.MaxInt, Wait: -1, Tasks: tasks},
	}
}

func TestRoomForOfKnownYards(t *testing.T) {
	right := func(tasks int) bool { return tasks >= 0 && tasks <= 12 }
	none := func(int) bool { return false }
	atMost := func(most int) func(int) bool { return func(tasks int) bool { return tasks >= 0 && tasks <= most } }
	eight, seven := slices.Repeat([]impl.Run{{}}, 8), slices.Repeat([]impl.Run{{}}, 7)
	for _, c := range []struct {
		what string
		y    impl.Yard
		want func(tasks int) bool
	}{
		{"the new yard", impl.YardNew(), right},
		{"the zero yard", impl.Yard{}, right},
		{"a busy yard with a run less", busyYardBut(t, 3), right},
		{"a busy yard", busyYard(t), none},
		{"seven runs", impl.Yard{Runs: seven}, right},
		{"eight runs", impl.Yard{Runs: eight}, none},
		{"nine runs", impl.Yard{Runs: append(eight, impl.Run{})}, none},
		{"300 runs", impl.Yard{Runs: slices.Repeat(eight, 40)}, none},
		{"the least Seq", withSeq(impl.YardNew(), math.MinInt), right},
		{"a Seq below 0", withSeq(impl.YardNew(), -1), right},
		{"a Seq for 12", withSeq(impl.YardNew(), mostSeqOfPlans-12), right},
		{"a Seq for 11", withSeq(impl.YardNew(), mostSeqOfPlans-11), atMost(11)},
		{"a Seq for 1", withSeq(impl.YardNew(), mostSeqOfPlans-1), atMost(1)},
		{"a Seq for none", withSeq(impl.YardNew(), mostSeqOfPlans), atMost(0)},
		{"no Seq", withSeq(impl.YardNew(), mostSeqOfPlans+1), none},
		{"the greatest Seq of a yard", withSeq(impl.YardNew(), mostSeq), none},
		{"the greatest Seq", withSeq(impl.YardNew(), math.MaxInt), none},
		{"a Seq that is far", withSeq(impl.YardNew(), math.MaxInt-5), none},
		{"28 slots", withSlots(busyYardBut(t, 0), 28), right},
		{"29 slots", withSlots(busyYardBut(t, 0), 29), atMost(11)},
		{"39 slots", withSlots(impl.YardNew(), 39), atMost(1)},
		{"40 slots", withSlots(impl.YardNew(), 40), atMost(0)},
		{"41 slots", withSlots(impl.YardNew(), 41), none},
		{"100 slots", withSlots(impl.YardNew(), 100), none},
		{"a Now that is none", impl.Yard{Now: math.MinInt, Seq: 1}, right},
		{"slots of tasks that are too many", impl.Yard{Runs: []impl.Run{{State: 1, Tasks: make([]impl.Task, 39)}}}, atMost(1)},
		{"slots on one shelf alone", impl.Yard{Shelf: [][]impl.Entry{slices.Repeat([]impl.Entry{{}}, 38)}}, atMost(2)},
		{"slots on a fifth shelf", impl.Yard{Shelf: append(emptyShelves(), slices.Repeat([]impl.Entry{{}}, 41))}, none},
	} {
		for _, tasks := range tasksAsked() {
			for _, p := range plansOfTasks(tasks) {
				if roomByWords(c.y, p) != c.want(tasks) {
					t.Fatalf("%s: by the words there is room for %d: %v", c.what, tasks, !c.want(tasks))
				}
				wantRoom(t, c.y, p, c.want(tasks))
			}
		}
	}
}

// Id and plan have nothing to do with it: a yard that has a run already still has room for a plan.
func TestRoomForBesideOtherCodes(t *testing.T) {
	y := yardOf(0, readyRun(7, 2))
	for _, p := range []impl.Plan{plan(3), plan(0), plan(12, edge(3, 3)), plan(2, chain(0, 1, 0)...), {Prio: 10, Tasks: 1}} {
		wantRoom(t, y, p, true)
		if _, code := impl.Submit(y, 7, p); code != impl.ErrThere {
			t.Errorf("Submit of an id that is there is %d", code)
		}
		if _, code := impl.Submit(y, 0, p); code != impl.ErrForm {
			t.Errorf("Submit of no id is %d", code)
		}
	}
}

// What is over may have left entries of an id that comes anew. They stay where they stand, and take their slots as the plan comes.
func TestSubmitOfAnIdWithEntries(t *testing.T) {
	for _, c := range []struct {
		what string
		task int
		p    impl.Plan
		ok   bool
	}{
		{"a task that waits then", 1, plan(2, chain(0, 1)...), true},
		{"a task that the plan does not have", 2, plan(2), true},
		{"a task that is far", math.MaxInt, plan(2), true},
		// The entry is fresh then, and the task has another one: the words say nothing of that.
		{"a task that is ready then", 1, plan(2), false},
		{"a task that is ready then", 0, plan(2, chain(0, 1)...), false},
	} {
		for shelf := range 4 {
			y := shelved(yardOf(0, readyRun(5, 1), doneRun(6)), shelf, 4, 9, c.task)
			if !impl.YardOk(y) {
				t.Fatalf("%v is not right", y)
			}
			taken := wantSubmit(t, c.what, y, 9, c.p, 0)
			if impl.YardOk(taken) != c.ok || yardOkByWords(taken) != c.ok {
				t.Errorf("%s: %v is right: %v", c.what, taken, impl.YardOk(taken))
			}
			full := withSlots(y, 39)
			wantSubmit(t, c.what, full, 9, c.p, impl.ErrFull)
			wantSubmit(t, c.what, withSlots(y, 38), 9, c.p, 0)
		}
	}
}

// What the answer becomes is nothing to the plan, nor to another run of it.
func TestRunsThatCameHaveEdgesOfTheirOwn(t *testing.T) {
	p := diamond()
	one, _ := impl.Submit(impl.YardNew(), 1, p)
	two, _ := impl.Submit(one, 2, p)
	fill(two.Runs[0].Plan.Edges, edge(-1, -1))
	fill(two.Runs[0].Tasks, impl.Task{State: 9})
	if !samePlan(p, diamond()) || !samePlan(two.Runs[1].Plan, p) || !samePlan(one.Runs[0].Plan, p) || one.Runs[0].Tasks[0].State != impl.TsReady {
		t.Errorf("the plan is %v, and the yards are %v and %v", p, one, two)
	}
	p.Edges[0] = edge(7, 7)
	if !samePlan(two.Runs[1].Plan, diamond()) || !samePlan(one.Runs[0].Plan, diamond()) {
		t.Errorf("the yards are %v and %v", one, two)
	}
}

// lotPlan tells a plan by lot; one in some has a fault.
func lotPlan(next func(below int) int) impl.Plan {
	tasks := 1 + next(12)
	p := impl.Plan{Prio: next(10), Most: 1 + next(3), Wait: 1 + next(20), Tasks: tasks}
	for range next(6) {
		a, b := next(tasks), next(tasks)
		if e := edge(min(a, b), max(a, b)); a != b && !slices.Contains(p.Edges, e) {
			p.Edges = append(p.Edges, e)
		}
	}
	if next(6) == 0 {
		*[]*int{&p.Prio, &p.Most, &p.Wait, &p.Tasks}[next(4)] += 20 * (1 - 2*next(2))
	}
	if next(8) == 0 {
		p.Edges = append(p.Edges, edge(next(13)-1, next(13)-1))
	}
	return p
}

// submits lets a plan come by lot: its id is a new one, one that is there, or none.
func (w *yardWalk) submits(t *testing.T) {
	t.Helper()
	p, id := lotPlan(w.next), w.id+1
	switch lot := w.next(10); {
	case lot == 0:
		id = wrongIds()[w.next(len(wrongIds()))]
	case lot < 3 && len(w.y.Runs) > 0:
		id = w.y.Runs[w.next(len(w.y.Runs))].Id
	}
	code := codeByWords(w.y, id, p)
	wantP11(t, w.y, id, p)
	w.y = wantSubmit(t, "a step", w.y, id, p, code)
	if code == 0 {
		w.id++
	}
	w.did[[]string{"taken", "fault", "fault", "fault", "fault", "form", "there", "full"}[code]]++
}

// wantSubmitSpoilt asks for a plan to come to a right yard of which one number is changed, and tells whether it is wrong then.
func wantSubmitSpoilt(t *testing.T, y impl.Yard, id int, next func(below int) int) bool {
	t.Helper()
	y, p := oneNumberOff(y, next), lotPlan(next)
	code := codeByWords(y, id, p)
	wantSubmit(t, "one number", y, id, p, code)
	return code == impl.ErrBad
}

func TestPromiseOfPlansThatCome(t *testing.T) {
	seed := 31
	next := func(below int) int {
		seed = (seed*1103515245 + 12345) % (1 << 31)
		return seed >> 8 % below
	}
	did := map[string]int{}
	for range 30 {
		w := &yardWalk{y: impl.YardNew(), next: next, did: did}
		for range 200 {
			if next(3) == 0 {
				w.submits(t)
			} else {
				w.goesOn()
			}
			if !impl.YardOk(w.y) {
				t.Fatalf("a step: %v is not right", w.y)
			}
			if wantSubmitSpoilt(t, w.y, w.id+1, next) {
				did["spoilt"]++
			}
		}
	}
	wantEnough(t, did, "taken", "fault", "form", "there", "full", "handed out", "swept", "done", "failed", "left", "forgotten", "moved", "later", "spoilt")
}
