package tests

import (
	"encoding/binary"
	"hash/crc32"
	"math"
	"slices"
	"testing"

	"loop.example/g00965/impl"
)

var (
	_ func() impl.Yard                 = impl.YardNew
	_ func(int) int                    = impl.ShelfOf
	_ func(impl.Yard, int) int         = impl.RunAt
	_ func(impl.Yard, impl.Entry) bool = impl.Fresh
	_ func(impl.Yard) int              = impl.SlotsOf
	_ func(impl.Yard) bool             = impl.YardOk
	_ func(impl.Yard) []impl.Entry     = impl.ReadyOf
	_ [impl.Shelves - 4]struct{}       = [0]struct{}{}
	_ [impl.MaxRuns - 8]struct{}       = [0]struct{}{}
	_ [impl.MaxSlots - 40]struct{}     = [0]struct{}{}
	_ struct {
		Now   int
		Seq   int
		Shelf [][]impl.Entry
		Runs  []impl.Run
	} = impl.Yard{}
)

const (
	lastNow = 1000000000 - 20 // the greatest Now of a right yard
	mostSeq = 1000000000
)

// shelved tells the yard with one entry more, which gets the yard's Seq.
func shelved(y impl.Yard, shelf, prio, run, task int) impl.Yard {
	e := impl.Entry{Prio: prio, Seq: y.Seq, Run: run, Task: task}
	y.Shelf = slices.Clone(y.Shelf)
	y.Shelf[shelf] = impl.PutEntry(y.Shelf[shelf], e)
	y.Seq++
	return y
}

// shelvedReady puts an entry of each task of the run that stands ready on the run's shelf.
func shelvedReady(y impl.Yard, r impl.Run) impl.Yard {
	for task, x := range r.Tasks {
		if x.State == 2 {
			y = shelved(y, impl.ShelfOf(r.Id), r.Plan.Prio, r.Id, task)
		}
	}
	return y
}

func emptyShelves() [][]impl.Entry { return make([][]impl.Entry, 4) }

// yardOf tells a yard of these runs, with an entry of each task that stands ready.
func yardOf(now int, runs ...impl.Run) impl.Yard {
	y := impl.Yard{Now: now, Seq: 1, Shelf: emptyShelves(), Runs: runs}
	for _, r := range runs {
		y = shelvedReady(y, r)
	}
	return y
}

// idsOf numbers runs, so that no two have one Id, and each shelf is that of some.
func idsOf(first int, runs ...impl.Run) []impl.Run {
	runs = slices.Clone(runs)
	for i := range runs {
		runs[i].Id = first + i
	}
	return runs
}

// busyYard has as many runs as a yard may have, of all states, with an Until from its Now on.
func busyYard(t *testing.T) impl.Yard {
	t.Helper()
	runs := idsOf(idHere, runsOfAllStates(t)...)
	for i := range runs {
		runs[i].Plan.Prio = 9 - i
	}
	return yardOf(3, runs...)
}

// doneRun is over, and has no slot.
func doneRun(id int) impl.Run {
	return impl.Run{Id: id, Plan: plan(1), State: 2, Tasks: laidTasks([4]int{4, 0, 1, 0})}
}

// readyRun is live, and so many tasks of it stand ready.
func readyRun(id, tasks int) impl.Run {
	r, ok := impl.RunNew(id, plan(tasks))
	if !ok {
		panic("no such run")
	}
	return r
}

// runningRun is live; its one task runs until then.
func runningRun(id, wait, until int) impl.Run {
	r := impl.Run{Id: id, Plan: plan(1), State: 1, Tasks: laidTasks([4]int{3, 0, 1, until})}
	r.Plan.Wait = wait
	return r
}

func placesOf[T any](list []T, wanted func(T) bool) []int {
	places := []int{}
	for i, item := range list {
		if wanted(item) {
			places = append(places, i)
		}
	}
	return places
}

func runAtByWords(y impl.Yard, id int) int {
	places := placesOf(y.Runs, func(r impl.Run) bool { return r.Id == id })
	if len(places) == 0 || len(y.Runs) > 8 {
		return -1
	}
	return places[0]
}

func freshByWords(y impl.Yard, e impl.Entry) bool {
	at := runAtByWords(y, e.Run)
	return at != -1 && e.Task >= 0 && e.Task < len(y.Runs[at].Tasks) && y.Runs[at].Tasks[e.Task].State == 2
}

func readyByWords(y impl.Yard) []impl.Entry {
	return slices.DeleteFunc(slices.Concat(y.Shelf...), func(e impl.Entry) bool { return !freshByWords(y, e) })
}

func slotsByWords(y impl.Yard) int {
	slots := len(slices.Concat(y.Shelf...)) - len(readyByWords(y))
	for _, r := range y.Runs {
		if r.State == 1 {
			slots += len(r.Tasks)
		}
	}
	return slots
}

func shelvesByWords(y impl.Yard) bool {
	if len(y.Shelf) != 4 || slices.ContainsFunc(y.Shelf, func(list []impl.Entry) bool { return !shelfByWords(list) }) {
		return false
	}
	seqs := []int{}
	for _, e := range slices.Concat(y.Shelf...) {
		if e.Seq < 1 || e.Seq >= y.Seq || slices.Contains(seqs, e.Seq) {
			return false
		}
		seqs = append(seqs, e.Seq)
	}
	return true
}

func tasksByWords(y impl.Yard, r impl.Run) bool {
	entries := slices.Concat(y.Shelf...)
	for i, task := range r.Tasks {
		own := placesOf(entries, func(e impl.Entry) bool { return e.Run == r.Id && e.Task == i && e.Prio == r.Plan.Prio })
		if task.State == 2 && len(own) != 1 {
			return false
		}
		if task.State == 3 && (task.Until <= y.Now || task.Until-y.Now > r.Plan.Wait) {
			return false
		}
	}
	return true
}

// yardOkByWords goes down the chapter's sentence, clause by clause.
func yardOkByWords(y impl.Yard) bool {
	if y.Now < 0 || y.Now > 1000000000-20 || y.Seq < 1 || y.Seq > 1000000000 || !shelvesByWords(y) || len(y.Runs) > 8 {
		return false
	}
	for i, r := range y.Runs {
		if !runOkByWords(r) || slices.ContainsFunc(y.Runs[:i], func(other impl.Run) bool { return other.Id == r.Id }) {
			return false
		}
	}
	for _, r := range y.Runs {
		if !tasksByWords(y, r) {
			return false
		}
	}
	for _, e := range readyByWords(y) {
		if e.Prio != y.Runs[runAtByWords(y, e.Run)].Plan.Prio {
			return false
		}
	}
	return slotsByWords(y) <= 40
}

// laidYard lays all lists of a yard ahead of spare room; what stands there would be shelves, entries, runs, edges and tasks of it.
func laidYard(y impl.Yard) impl.Yard {
	given := impl.Yard{Now: y.Now, Seq: y.Seq}
	for _, shelf := range y.Shelf {
		list, _ := laidEntries(shelf)
		given.Shelf = append(given.Shelf, list)
	}
	for _, r := range y.Runs {
		run, _, _ := laidRun(r)
		given.Runs = append(given.Runs, run)
	}
	more := impl.Run{Id: 77, Plan: plan(1), State: 1, Tasks: laidTasks([4]int{2, 0, 0, 0})}
	given.Shelf = append(given.Shelf, []impl.Entry{{Prio: 4, Seq: 1, Run: 77}}, nil)[:len(y.Shelf)]
	given.Runs = append(given.Runs, more, more)[:len(y.Runs)]
	return given
}

// wholeYard copies a yard's lists with the spare room behind them.
func wholeYard(y impl.Yard) impl.Yard {
	y.Shelf = slices.Clone(y.Shelf[:cap(y.Shelf)])
	for i, shelf := range y.Shelf {
		y.Shelf[i] = slices.Clone(shelf[:cap(shelf)])
	}
	y.Runs = slices.Clone(y.Runs[:cap(y.Runs)])
	for i := range y.Runs {
		r := &y.Runs[i]
		r.Plan.Edges = slices.Clone(r.Plan.Edges[:cap(r.Plan.Edges)])
		r.Tasks = slices.Clone(r.Tasks[:cap(r.Tasks)])
	}
	return y
}

func sameYards(a, b impl.Yard) bool {
	return a.Now == b.Now && a.Seq == b.Seq && slices.EqualFunc(a.Shelf, b.Shelf, slices.Equal[[]impl.Entry]) && slices.EqualFunc(a.Runs, b.Runs, sameRun)
}

// entriesAsked tells entries of each task of each run, of tasks beside these, and of runs that are not there.
func entriesAsked(y impl.Yard) []impl.Entry {
	asked := slices.Concat(y.Shelf...)
	for _, r := range y.Runs {
		for _, task := range append([]int{math.MinInt, -1, len(r.Tasks), len(r.Tasks) + 1, 1 << 32, math.MaxInt}, upTo(min(len(r.Tasks), 14))...) {
			asked = append(asked, impl.Entry{Run: r.Id, Task: task}, impl.Entry{Prio: r.Plan.Prio, Seq: 1, Run: r.Id, Task: task})
		}
	}
	for _, id := range edgeInts() {
		asked = append(asked, impl.Entry{Run: id}, impl.Entry{Prio: 4, Seq: 1, Run: id, Task: id})
	}
	return asked
}

// wantOneYard asks all that the chapter tells of a yard, by its words, and that nothing of it is written into.
func wantOneYard(t *testing.T, y impl.Yard) {
	t.Helper()
	given := laidYard(y)
	before := wholeYard(given)
	ids := edgeInts()
	for _, r := range y.Runs {
		ids = append(ids, r.Id-1, r.Id, r.Id+1, 1<<32+r.Id)
	}
	for _, id := range ids {
		if got, want := impl.RunAt(given, id), runAtByWords(y, id); got != want {
			t.Errorf("RunAt(%v, %d) is %d, not %d", y, id, got, want)
		}
	}
	for _, e := range entriesAsked(y) {
		if got, want := impl.Fresh(given, e), freshByWords(y, e); got != want {
			t.Errorf("Fresh(%v, %v) is %v", y, e, got)
		}
	}
	if got, want := impl.SlotsOf(given), slotsByWords(y); got != want {
		t.Errorf("SlotsOf(%v) is %d, not %d", y, got, want)
	}
	if got, want := impl.YardOk(given), yardOkByWords(y); got != want {
		t.Errorf("YardOk(%v) is %v", y, got)
	}
	wantReady(t, given, readyByWords(y))
	if !sameYards(wholeYard(given), before) {
		t.Errorf("%v is written into: it is %v", before, wholeYard(given))
	}
}

func wantReady(t *testing.T, y impl.Yard, want []impl.Entry) {
	t.Helper()
	got := impl.ReadyOf(y)
	if !slices.Equal(got, want) {
		t.Errorf("ReadyOf(%v) is %v, not %v", y, got, want)
	}
	spoilEntries(got)
	if again := impl.ReadyOf(y); !slices.Equal(again, want) {
		t.Errorf("ReadyOf(%v) is %v when it is asked again, not %v", y, again, want)
	}
}

// wantP10 asks what the promise says, by what the program answers alone: each task that stands ready stands once on a shelf.
func wantP10(t *testing.T, y impl.Yard) {
	t.Helper()
	ready, many := impl.ReadyOf(y), 0
	for _, r := range y.Runs {
		for _, task := range impl.TasksIn(r, impl.TsReady) {
			own := placesOf(ready, func(e impl.Entry) bool { return e.Run == r.Id && e.Task == task && e.Prio == r.Plan.Prio })
			if len(own) != 1 {
				t.Errorf("%v: the task %d of %d is ready, and stands %d times on the shelves", y, task, r.Id, len(own))
			}
			many++
		}
	}
	if len(ready) != many {
		t.Errorf("%v: %d tasks are ready, and %d entries are", y, many, len(ready))
	}
}

func wantRight(t *testing.T, what string, y impl.Yard) {
	t.Helper()
	if !impl.YardOk(y) {
		t.Errorf("%s: the yard is not right: %v", what, y)
	}
	wantOneYard(t, y)
	wantP10(t, y)
}

func wantWrong(t *testing.T, what string, y impl.Yard) {
	t.Helper()
	if impl.YardOk(y) {
		t.Errorf("%s: the yard is right: %v", what, y)
	}
	wantOneYard(t, y)
}

// wantStale asks that an entry is none of what stands ready, though the yard with it is right, and that it is a slot.
func wantStale(t *testing.T, what string, y impl.Yard, shelf int, e impl.Entry) {
	t.Helper()
	ready, slots := impl.ReadyOf(y), impl.SlotsOf(y)
	with := shelved(y, shelf, e.Prio, e.Run, e.Task)
	wantRight(t, what, with)
	if impl.Fresh(with, e) || impl.SlotsOf(with) != slots+1 || !slices.Equal(impl.ReadyOf(with), ready) {
		t.Errorf("%s: %v is fresh %v, the slots are %d behind %d, and ready is %v", what, e, impl.Fresh(with, e), impl.SlotsOf(with), slots, impl.ReadyOf(with))
	}
}

func TestANewYard(t *testing.T) {
	y := impl.YardNew()
	if !sameYards(y, impl.Yard{Seq: 1, Shelf: emptyShelves()}) {
		t.Errorf("YardNew is %v", y)
	}
	wantRight(t, "the new yard", y)
	if impl.SlotsOf(y) != 0 || len(impl.ReadyOf(y)) != 0 || impl.RunAt(y, 0) != -1 || impl.RunAt(y, 1) != -1 || impl.Fresh(y, impl.Entry{}) || impl.Fresh(y, impl.Entry{Run: 1, Seq: 1}) {
		t.Error("something is in the new yard")
	}
}

// What becomes of a new yard is nothing to the next one, nor what becomes of one shelf to another one.
func TestNewYardsHaveListsOfTheirOwn(t *testing.T) {
	y := impl.YardNew()
	for i := range y.Shelf {
		y.Shelf[i] = append(y.Shelf[i], entry(i, 7))
	}
	for i, shelf := range y.Shelf {
		if !slices.Equal(shelf, []impl.Entry{entry(i, 7)}) {
			t.Errorf("the shelf %d is %v", i, shelf)
		}
	}
	y.Runs = append(y.Runs, readyRun(1, 2))
	whole := y.Shelf[:cap(y.Shelf)]
	for i := range whole {
		whole[i] = []impl.Entry{{Prio: -77}}
	}
	if again := impl.YardNew(); !sameYards(again, impl.Yard{Seq: 1, Shelf: emptyShelves()}) {
		t.Errorf("YardNew is %v when it is asked again", again)
	}
}

func TestShelfOfKnownIds(t *testing.T) {
	for _, c := range [][2]int{{0, 1}, {1, 3}, {2, 1}, {3, 3}, {4, 0}, {5, 2}, {6, 0}, {7, 2}, {8, 3}, {9, 1}, {10, 3}, {41, 1}, {127, 0}, {128, 2}, {129, 3}, {300, 2}, {1000, 0}, {9998, 1}, {9999, 0}, {10000, 2}, {16383, 0}, {16384, 3}, {999999999, 3}, {1000000000, 0}} {
		if got := impl.ShelfOf(c[0]); got != c[1] {
			t.Errorf("ShelfOf(%d) is %d, not %d", c[0], got, c[1])
		}
	}
}

func TestShelfOfEachId(t *testing.T) {
	var many [4]int
	for id := range 10000 {
		got, want := impl.ShelfOf(id), int(crc32.ChecksumIEEE(binary.AppendUvarint(nil, uint64(id)))%4)
		if got < 0 || got > 3 || got != want || impl.ShelfOf(id) != got {
			t.Fatalf("ShelfOf(%d) is %d, not %d", id, got, want)
		}
		many[got]++
	}
	if many != [4]int{2500, 2500, 2500, 2500} {
		t.Errorf("the ids are shared out as %v", many)
	}
}

func TestShelfOfWhatIsNoId(t *testing.T) {
	for _, id := range []int{-1, -2, -9999, -1 << 32, 1 - 1<<32, 1000000001, 1000000002, 1000000003, 1 << 31, 1 << 32, 1<<32 + 1, 1<<32 + 5, math.MinInt, math.MinInt + 1, math.MaxInt - 1, math.MaxInt} {
		if got := impl.ShelfOf(id); got != 0 {
			t.Errorf("ShelfOf(%d) is %d", id, got)
		}
	}
}

func TestRunAtOfKnownYards(t *testing.T) {
	y := yardOf(0, readyRun(5, 1), readyRun(9999, 2), doneRun(1), readyRun(3, 1))
	for _, c := range [][2]int{{5, 0}, {9999, 1}, {1, 2}, {3, 3}, {0, -1}, {2, -1}, {4, -1}, {6, -1}, {9998, -1}, {10000, -1}, {-1, -1}, {-5, -1}, {1<<32 + 5, -1}, {math.MinInt, -1}, {math.MaxInt, -1}} {
		if got := impl.RunAt(y, c[0]); got != c[1] {
			t.Errorf("RunAt(%d) is %d, not %d", c[0], got, c[1])
		}
	}
	wantRight(t, "some runs", y)
	// Of two with one Id the first one is told, whatever they are.
	y.Runs = []impl.Run{doneRun(4), readyRun(7, 2), doneRun(7), readyRun(4, 3), readyRun(7, 1)}
	if impl.RunAt(y, 4) != 0 || impl.RunAt(y, 7) != 1 || impl.RunAt(y, 5) != -1 {
		t.Errorf("RunAt of two with one Id: %d, %d, %d", impl.RunAt(y, 4), impl.RunAt(y, 7), impl.RunAt(y, 5))
	}
	wantWrong(t, "two runs of one Id", y)
	// Whether a run or its Id is right is not asked.
	y.Runs = []impl.Run{{}, {Id: -3}, {Id: math.MinInt}, {Id: math.MaxInt}, {Id: 10000, State: 9}}
	for at, id := range []int{0, -3, math.MinInt, math.MaxInt, 10000} {
		if got := impl.RunAt(y, id); got != at {
			t.Errorf("RunAt(%d) is %d, not %d", id, got, at)
		}
	}
	wantWrong(t, "runs that are not right", y)
	if impl.RunAt(impl.Yard{}, 0) != -1 || impl.RunAt(impl.Yard{}, 1) != -1 {
		t.Error("the zero yard has a run")
	}
}

func TestAYardOfAllStates(t *testing.T) {
	y := busyYard(t)
	wantRight(t, "all states", y)
	if len(y.Runs) != 8 || impl.SlotsOf(y) != 7+4+4+12+1 {
		t.Errorf("the yard has %d runs and %d slots", len(y.Runs), impl.SlotsOf(y))
	}
	for place, r := range y.Runs {
		if impl.RunAt(y, r.Id) != place {
			t.Errorf("RunAt(%d) is %d, not %d", r.Id, impl.RunAt(y, r.Id), place)
		}
		for task, x := range r.Tasks {
			if got := impl.Fresh(y, impl.Entry{Run: r.Id, Task: task}); got != (x.State == 2) {
				t.Errorf("Fresh of the task %d of %v is %v", task, r, got)
			}
		}
		for _, task := range farInts() {
			if impl.Fresh(y, impl.Entry{Prio: r.Plan.Prio, Seq: 1, Run: r.Id, Task: task}) {
				t.Errorf("the task %d of %v is fresh", task, r)
			}
		}
	}
}

// Prio and Seq say nothing of whether an entry is fresh, nor does where it stands, if anywhere.
func TestFreshAsksRunAndTaskAlone(t *testing.T) {
	y := yardOf(0, readyRun(5, 2), runningRun(6, 7, 3))
	for _, n := range edgeInts() {
		for _, yard := range []impl.Yard{y, {Now: n, Seq: n, Runs: y.Runs}} {
			if !impl.Fresh(yard, impl.Entry{Prio: n, Seq: n, Run: 5, Task: 1}) || impl.Fresh(yard, impl.Entry{Prio: n, Seq: n, Run: 6}) || impl.Fresh(yard, impl.Entry{Prio: n, Seq: n, Run: 5, Task: 2}) {
				t.Errorf("Fresh by the Prio and the Seq %d of %v", n, yard)
			}
		}
	}
}

// What is fresh is the list of tasks that the run has, whatever its plan says, or its State.
func TestFreshOfRunsThatAreNotRight(t *testing.T) {
	for _, state := range statesAsked() {
		for _, tasks := range []int{math.MinInt, -1, 0, 1, 2, 3, 12, math.MaxInt} {
			r := impl.Run{Id: 5, State: state, Tasks: laidTasks([4]int{3, 0, 0, 0}, [4]int{2, 9, 9, 9})}
			r.Plan.Tasks = tasks
			y := yardOf(0, r)
			wantWrong(t, "a run that is not right", y)
			if impl.Fresh(y, impl.Entry{Run: 5}) || !impl.Fresh(y, impl.Entry{Run: 5, Task: 1}) || impl.Fresh(y, impl.Entry{Run: 5, Task: 2}) || len(impl.ReadyOf(y)) != 1 {
				t.Errorf("Fresh of %v", y)
			}
		}
	}
}

func TestSlotsOfKnownYards(t *testing.T) {
	over := runsOfAllStates(t)[3:6]
	for _, c := range []struct {
		runs []impl.Run
		want int
	}{
		{nil, 0},
		{[]impl.Run{readyRun(1, 1)}, 1},
		{[]impl.Run{readyRun(1, 12)}, 12},
		{[]impl.Run{doneRun(1)}, 0},
		{idsOf(1, over...), 0},
		{idsOf(1, append(slices.Clone(over), readyRun(1, 5))...), 5},
		{idsOf(1, readyRun(1, 5), over[0], readyRun(1, 7), over[1], over[2], runOfAll()), 19},
		{idsOf(1, readyRun(1, 12), readyRun(1, 12), readyRun(1, 12), readyRun(1, 4)), 40},
	} {
		y := yardOf(3, c.runs...)
		wantRight(t, "runs that are live beside runs that are over", y)
		if got := impl.SlotsOf(y); got != c.want {
			t.Errorf("SlotsOf(%v) is %d, not %d", y, got, c.want)
		}
		// Without entries what stands ready has slots none the less.
		y.Shelf = nil
		if got := impl.SlotsOf(y); got != c.want {
			t.Errorf("SlotsOf(%v) is %d, not %d", y, got, c.want)
		}
	}
}

// staleEntries tells entries that the busy yard may have beside its own, by what they are of.
func staleEntries(t *testing.T, y impl.Yard) map[string][]impl.Entry {
	t.Helper()
	stale := map[string][]impl.Entry{}
	names := []string{"", "a task that waits", "", "a task that runs", "a task that is done", "a task that has failed", "a task that is left"}
	for _, r := range y.Runs {
		for task, x := range r.Tasks {
			if x.State != 2 {
				stale[names[x.State]] = append(stale[names[x.State]], impl.Entry{Prio: r.Plan.Prio, Run: r.Id, Task: task})
			}
		}
		for _, task := range []int{math.MinInt, -1, len(r.Tasks), 12, 1 << 32, math.MaxInt} {
			stale["a task that the run does not have"] = append(stale["a task that the run does not have"], impl.Entry{Prio: r.Plan.Prio, Run: r.Id, Task: task})
		}
	}
	for _, id := range []int{math.MinInt, -41, -1, 0, 1, 40, 49, 9999, 10000, 1<<32 + 41, math.MaxInt} {
		for _, task := range []int{math.MinInt, -1, 0, 2, 12, math.MaxInt} {
			stale["a run that is not there"] = append(stale["a run that is not there"], impl.Entry{Prio: 4, Run: id, Task: task})
		}
	}
	for what, want := range map[string]int{names[1]: 6, names[3]: 3, names[4]: 7, names[5]: 1, names[6]: 5} {
		if len(stale[what]) < want {
			t.Fatalf("the busy yard has too few of %s: %v", what, stale[what])
		}
	}
	return stale
}

// Entries of what is over, and of what never was, stand on the shelves: each is a slot, and not ready.
func TestEntriesOfWhatIsOver(t *testing.T) {
	y := busyYard(t)
	for what, list := range staleEntries(t, y) {
		for i, e := range list {
			wantStale(t, what, y, i%4, e)
			// Such an entry may have any Prio.
			for _, prio := range []int{math.MinInt, -1, 0, 9, 10, math.MaxInt} {
				e.Prio = prio
				wantStale(t, what, y, (i+1)%4, e)
			}
		}
		with := y
		for i, e := range list {
			if impl.SlotsOf(with) < 40 {
				with = shelved(with, i%4, e.Prio, e.Run, e.Task)
			}
		}
		wantRight(t, what, with)
		if !slices.Equal(impl.ReadyOf(with), impl.ReadyOf(y)) {
			t.Errorf("%s: ready is %v, not %v", what, impl.ReadyOf(with), impl.ReadyOf(y))
		}
	}
}

// Several entries of one task that is over are each a slot of its own.
func TestEntriesOfOneTaskThatIsOver(t *testing.T) {
	y := yardOf(0, doneRun(8), readyRun(9, 1))
	for many := 1; many <= 39; many++ {
		y = shelved(y, many%4, many%3, 8, 0)
		wantRight(t, "many of one task", y)
		if impl.SlotsOf(y) != 1+many {
			t.Errorf("%d entries of one task that is over are %d slots", many, impl.SlotsOf(y)-1)
		}
	}
	wantWrong(t, "one slot too many", shelved(y, 0, 1, 8, 0))
}

func TestSlotsAtTheLimit(t *testing.T) {
	for _, c := range []struct {
		what string
		y    impl.Yard
	}{
		{"runs alone", yardOf(0, readyRun(1, 12), readyRun(2, 12), readyRun(3, 12), readyRun(4, 3))},
		{"runs of few tasks", yardOf(0, idsOf(1, readyRun(1, 5), readyRun(1, 5), readyRun(1, 5), readyRun(1, 5), readyRun(1, 5), readyRun(1, 5), readyRun(1, 5), readyRun(1, 4))...)},
		{"one run, and entries", yardOf(0, readyRun(1, 12))},
		{"entries alone", yardOf(0)},
		{"entries of what is over", yardOf(0, doneRun(1), doneRun(2))},
	} {
		y := c.y
		for i := 0; slotsByWords(y) < 39; i++ {
			y = shelved(y, i%4, i%10, 1+i%3, 12+i)
		}
		wantRight(t, c.what, y)
		wantStale(t, c.what, y, 2, impl.Entry{Prio: 3, Run: 77})
		full := shelved(y, 2, 3, 77, 0)
		if impl.SlotsOf(full) != 40 {
			t.Errorf("%s: there are %d slots", c.what, impl.SlotsOf(full))
		}
		for shelf := range 4 {
			over := shelved(full, shelf, 3, 77, 0)
			wantWrong(t, c.what, over)
			if impl.SlotsOf(over) != 41 {
				t.Errorf("%s: there are %d slots", c.what, impl.SlotsOf(over))
			}
		}
	}
	four := yardOf(0, readyRun(1, 12), readyRun(2, 12), readyRun(3, 12), readyRun(4, 4))
	wantRight(t, "40 tasks", four)
	wantWrong(t, "41 tasks", yardOf(0, readyRun(1, 12), readyRun(2, 12), readyRun(3, 12), readyRun(4, 5)))
	wantWrong(t, "96 tasks", yardOf(0, idsOf(1, slices.Repeat([]impl.Run{readyRun(1, 12)}, 8)...)...))
	wantRight(t, "40 tasks, and one that is over", yardOf(0, append(slices.Clone(four.Runs), doneRun(5))...))
}

func TestHowManyRuns(t *testing.T) {
	for many := range 12 {
		runs := []impl.Run{}
		for i := range many {
			runs = append(runs, readyRun(i+1, 1+i%2))
		}
		for _, y := range []impl.Yard{yardOf(0, runs...), yardOf(0, idsOf(100, slices.Repeat([]impl.Run{doneRun(1)}, many)...)...)} {
			if many <= 8 {
				wantRight(t, "at most MaxRuns", y)
				continue
			}
			wantWrong(t, "more than MaxRuns", y)
			for _, r := range y.Runs {
				if impl.RunAt(y, r.Id) != -1 || impl.Fresh(y, impl.Entry{Run: r.Id}) {
					t.Errorf("%v: the run %d is told", y, r.Id)
				}
			}
			// The entries are of no run then, one for each task here, and the live runs have their tasks none the less.
			entries := len(slices.Concat(y.Shelf...))
			if len(impl.ReadyOf(y)) != 0 || impl.SlotsOf(y) != entries+entries {
				t.Errorf("%v: ready is %v, and there are %d slots", y, impl.ReadyOf(y), impl.SlotsOf(y))
			}
		}
	}
}

func TestNowAndUntil(t *testing.T) {
	for _, now := range []int{0, 1, 19, 20, 21, 500, lastNow - 1, lastNow} {
		wantRight(t, "a Now", yardOf(now))
		wantRight(t, "a Now", yardOf(now, readyRun(1, 3), doneRun(2)))
		for _, wait := range []int{1, 2, 7, 19, 20} {
			for _, until := range []int{now + 1, now + 2, now + wait - 1, now + wait} {
				if until > now && until <= now+wait {
					wantRight(t, "an Until", yardOf(now, runningRun(1, wait, until)))
					wantRight(t, "an Until", yardOf(now, doneRun(2), readyRun(3, 1), runningRun(1, wait, until)))
				}
			}
			for _, until := range []int{now - 1, now, now + wait + 1, now + wait + 2, now + 21, 1, lastNow + 20, math.MaxInt, math.MinInt, -1, 0} {
				if until <= now || until > now+wait {
					wantWrong(t, "an Until", yardOf(now, runningRun(1, wait, until)))
					wantWrong(t, "an Until", yardOf(now, doneRun(2), readyRun(3, 1), runningRun(1, wait, until)))
				}
			}
		}
	}
	for _, now := range []int{-1, -2, lastNow + 1, lastNow + 20, lastNow + 21, 1 << 32, -1 << 32, math.MinInt, math.MaxInt} {
		wantWrong(t, "a Now", yardOf(now))
		wantWrong(t, "a Now", yardOf(now, readyRun(1, 3), doneRun(2)))
		for _, until := range []int{1, 5, 6, 7, 1000000000} {
			wantWrong(t, "a Now", yardOf(now, runningRun(1, 7, until)))
		}
		// A number goes round there, where Now and Wait are put together.
		wantWrong(t, "a Now", yardOf(now, runningRun(1, 20, now+1)))
	}
}

// Each of several tasks that run has an Until of its own, and each one counts.
func TestUntilOfEachTask(t *testing.T) {
	r := impl.Run{Id: 3, Plan: plan(12), State: 1, Tasks: slices.Repeat([]impl.Task{{State: 3, Try: 1, Until: 12}}, 12)}
	wantRight(t, "twelve that run", yardOf(5, r))
	for task := range 12 {
		for _, until := range []int{6, 7, 11, 12} {
			wantRight(t, "an Until", yardOf(5, doneRun(1), withTask(r, task, func(x *impl.Task) { x.Until = until })))
		}
		for _, until := range []int{1, 4, 5, 13, 14, 25} {
			wantWrong(t, "an Until", yardOf(5, doneRun(1), withTask(r, task, func(x *impl.Task) { x.Until = until })))
		}
	}
}

func TestSeqOfTheYard(t *testing.T) {
	for _, seq := range []int{1, 2, 1000, mostSeq - 1, mostSeq} {
		wantRight(t, "a Seq", impl.Yard{Seq: seq, Shelf: emptyShelves()})
		wantRight(t, "a Seq", impl.Yard{Seq: seq, Shelf: emptyShelves(), Runs: []impl.Run{doneRun(1)}})
	}
	for _, seq := range []int{0, -1, mostSeq + 1, 1 << 32, 1<<32 + 1, math.MinInt, math.MaxInt} {
		wantWrong(t, "a Seq", impl.Yard{Seq: seq, Shelf: emptyShelves()})
		wantWrong(t, "a Seq", impl.Yard{Seq: seq, Shelf: emptyShelves(), Runs: []impl.Run{doneRun(1)}})
	}
}

func TestSeqOfEachEntry(t *testing.T) {
	for _, seq := range []int{2, 3, 10, 1000, mostSeq - 1, mostSeq} {
		y := impl.Yard{Seq: seq, Runs: []impl.Run{readyRun(9, 1)}}
		for shelf := range 4 {
			for _, stale := range []bool{false, true} {
				// The task's own entry is laid, or one of what is over beside no run at all.
				with := y
				if stale {
					with.Runs = nil
				}
				for _, right := range []int{1, 2, seq / 2, seq - 2, seq - 1} {
					if right >= 1 && right < seq {
						with.Shelf = emptyShelves()
						with.Shelf[shelf] = []impl.Entry{{Prio: 4, Seq: right, Run: 9}}
						wantRight(t, "the Seq of an entry", with)
					}
				}
				for _, wrong := range []int{math.MinInt, -1, 0, seq, seq + 1, mostSeq, mostSeq + 1, 1<<32 + 1, math.MaxInt} {
					with.Shelf = emptyShelves()
					with.Shelf[shelf] = []impl.Entry{{Prio: 4, Seq: wrong, Run: 9}}
					wantWrong(t, "the Seq of an entry", with)
				}
			}
		}
	}
	one := impl.Yard{Seq: 1, Shelf: emptyShelves()}
	for seq := -1; seq <= 2; seq++ {
		one.Shelf[3] = []impl.Entry{{Prio: 4, Seq: seq, Run: 9}}
		wantWrong(t, "an entry in a yard that gave no Seq yet", one)
	}
}

func TestTwoEntriesOfOneSeq(t *testing.T) {
	for a := range 4 {
		for b := range 4 {
			y := impl.Yard{Seq: 10, Shelf: emptyShelves()}
			y.Shelf[a] = append(y.Shelf[a], impl.Entry{Prio: 5, Seq: 7, Run: 1})
			y.Shelf[b] = append(y.Shelf[b], impl.Entry{Prio: 4, Seq: 7, Run: 2})
			wantWrong(t, "two of one Seq", y)
			y.Shelf[b][len(y.Shelf[b])-1].Seq = 6
			wantRight(t, "two of unlike Seqs", y)
		}
	}
	y := busyYard(t)
	for a := range y.Shelf {
		for i := range y.Shelf[a] {
			for _, e := range slices.Concat(y.Shelf...) {
				if e.Seq != y.Shelf[a][i].Seq {
					twice := laidYard(y)
					twice.Shelf[a][i].Seq = e.Seq
					slices.SortStableFunc(twice.Shelf[a], func(a, b impl.Entry) int { return b.Prio - a.Prio })
					wantWrong(t, "a Seq twice", twice)
				}
			}
		}
	}
}

func TestHowManyShelves(t *testing.T) {
	for _, y := range []impl.Yard{impl.YardNew(), busyYard(t), yardOf(0, doneRun(1)), shelved(yardOf(0), 3, 1, 1, 1)} {
		wantRight(t, "as many shelves as Shelves", y)
		for many := range 4 {
			few := y
			few.Shelf = y.Shelf[:many]
			wantWrong(t, "too few shelves", few)
			few.Shelf = y.Shelf[4-many:]
			wantWrong(t, "too few shelves", few)
		}
		y.Shelf = append(slices.Clone(y.Shelf), nil)
		wantWrong(t, "one shelf more", y)
		y.Shelf = append(slices.Clone(y.Shelf), []impl.Entry{{Seq: 1, Run: 77}}, nil)
		wantWrong(t, "some shelves more", y)
		y.Shelf = nil
		wantWrong(t, "no shelves", y)
	}
	// A yard of too many shelves is still asked for all that stand on them.
	y := impl.Yard{Seq: 9, Shelf: make([][]impl.Entry, 1000), Runs: []impl.Run{readyRun(5, 2)}}
	y.Shelf[999] = []impl.Entry{{Prio: 4, Seq: 1, Run: 5}, {Prio: 4, Seq: 2, Run: 6}}
	y.Shelf[500] = []impl.Entry{{Prio: 1, Seq: 3, Run: 5, Task: 1}}
	wantWrong(t, "far too many shelves", y)
	wantReady(t, y, []impl.Entry{{Prio: 1, Seq: 3, Run: 5, Task: 1}, {Prio: 4, Seq: 1, Run: 5}})
	if impl.SlotsOf(y) != 3 {
		t.Errorf("there are %d slots", impl.SlotsOf(y))
	}
}

func TestShelvesInNoOrder(t *testing.T) {
	for shelf := range 4 {
		y := yardOf(0, readyRun(9, 6), readyRun(8, 6))
		all := slices.Concat(y.Shelf...)
		slices.SortFunc(all, func(a, b impl.Entry) int { return a.Seq - b.Seq })
		y.Shelf = emptyShelves()
		y.Shelf[shelf] = all
		wantRight(t, "all on one shelf", y)
		for i := range all {
			for k := range i {
				turned := laidYard(y)
				list := turned.Shelf[shelf]
				list[i], list[k] = list[k], list[i]
				wantWrong(t, "two that are turned round", turned)
				if !slices.Equal(impl.ReadyOf(turned), list) {
					t.Errorf("ReadyOf does not tell %v as it stands", list)
				}
			}
		}
	}
	// A shelf that is too long has slots that are too many; it is asked like any other.
	y := impl.Yard{Seq: 2000, Shelf: emptyShelves(), Runs: []impl.Run{readyRun(9, 1)}}
	for seq := range 1000 {
		y.Shelf[2] = append(y.Shelf[2], impl.Entry{Prio: 4, Seq: 1 + seq, Run: 9, Task: seq})
	}
	wantWrong(t, "a shelf that is too long", y)
	wantReady(t, y, []impl.Entry{{Prio: 4, Seq: 1, Run: 9}})
}

// What stands ready may stand on any shelf, beside the others or not.
func TestEntriesOnAnyShelf(t *testing.T) {
	for a := range 4 {
		for b := range 4 {
			for c := range 4 {
				y := impl.Yard{Seq: 1, Shelf: emptyShelves(), Runs: []impl.Run{readyRun(9, 2), readyRun(5, 1), doneRun(2)}}
				y = shelved(shelved(shelved(shelved(y, a, 4, 9, 1), b, 4, 5, 0), c, 4, 9, 0), (a+b)%4, 9, 2, 0)
				wantRight(t, "any shelf", y)
				if len(impl.ReadyOf(y)) != 3 || impl.SlotsOf(y) != 4 {
					t.Errorf("ready is %v, and there are %d slots", impl.ReadyOf(y), impl.SlotsOf(y))
				}
			}
		}
	}
}

func TestReadyInTheOrderOfTheShelves(t *testing.T) {
	y := impl.Yard{Now: 0, Seq: 20, Runs: []impl.Run{readyRun(9, 4), doneRun(2), readyRun(5, 2)}}
	y.Runs[2].Plan.Prio = 1
	a, b, c, d := impl.Entry{Prio: 4, Seq: 3, Run: 9, Task: 2}, impl.Entry{Prio: 4, Seq: 8, Run: 9}, impl.Entry{Prio: 4, Seq: 1, Run: 9, Task: 1}, impl.Entry{Prio: 4, Seq: 19, Run: 9, Task: 3}
	e, f := impl.Entry{Prio: 1, Seq: 2, Run: 5}, impl.Entry{Prio: 1, Seq: 4, Run: 5, Task: 1}
	over, none, far := impl.Entry{Prio: 9, Seq: 5, Run: 2}, impl.Entry{Prio: 4, Seq: 6, Run: 3}, impl.Entry{Prio: 4, Seq: 7, Run: 9, Task: 4}
	y.Shelf = [][]impl.Entry{{over, d, f}, {}, {a, none, far, b}, {c, e}}
	wantRight(t, "some on each shelf", y)
	wantReady(t, y, []impl.Entry{d, f, a, b, c, e})
	y.Shelf = [][]impl.Entry{{c}, {over, none}, {d, e}, {a, b, f, far}}
	wantReady(t, y, []impl.Entry{c, d, e, a, b, f})
	// One that stands there twice is told twice: the yard is not right then.
	y.Shelf = [][]impl.Entry{{a, a}, {a}, {f, e}, {b, over, b}, {a}}
	wantReady(t, y, []impl.Entry{a, a, a, f, e, b, b, a})
	wantWrong(t, "entries twice", y)
}

// eachReady does something with the place of each entry of a task that stands ready, on a yard of its own each time.
func eachReady(t *testing.T, do func(y impl.Yard, shelf, at int)) {
	t.Helper()
	y := busyYard(t)
	many := 0
	for shelf, list := range y.Shelf {
		for at := range list {
			do(laidYard(y), shelf, at)
			many++
		}
	}
	if many < 4 {
		t.Fatalf("the busy yard has %d entries", many)
	}
}

func TestReadyWithNoEntry(t *testing.T) {
	eachReady(t, func(y impl.Yard, shelf, at int) {
		e := y.Shelf[shelf][at]
		y.Shelf[shelf] = slices.Delete(slices.Clone(y.Shelf[shelf]), at, at+1)
		wantWrong(t, "a task with no entry", y)
		for _, other := range []impl.Entry{{Run: e.Run + 100, Task: e.Task}, {Run: e.Run, Task: e.Task + 12}, {Run: 77, Task: 77}} {
			wantWrong(t, "a task with no entry, and an entry of none", shelved(y, shelf, e.Prio, other.Run, other.Task))
		}
		wantRight(t, "its entry on the next shelf", shelved(y, (shelf+1)%4, e.Prio, e.Run, e.Task))
	})
}

func TestReadyWithTwoEntries(t *testing.T) {
	eachReady(t, func(y impl.Yard, shelf, at int) {
		e := y.Shelf[shelf][at]
		for other := range 4 {
			for prio := -1; prio <= 10; prio++ {
				wantWrong(t, "a task with two entries", shelved(y, other, prio, e.Run, e.Task))
			}
		}
		three := shelved(shelved(y, 0, e.Prio, e.Run, e.Task), 3, e.Prio, e.Run, e.Task)
		wantWrong(t, "a task with three entries", three)
	})
}

func TestReadyOfAnotherPrio(t *testing.T) {
	eachReady(t, func(y impl.Yard, shelf, at int) {
		e := y.Shelf[shelf][at]
		y.Shelf[shelf] = slices.Delete(slices.Clone(y.Shelf[shelf]), at, at+1)
		for _, prio := range []int{math.MinInt, -1, 0, e.Prio - 1, e.Prio + 1, 9, 10, 1<<32 + e.Prio, math.MaxInt} {
			if prio != e.Prio {
				wantWrong(t, "an entry of another Prio", shelved(y, shelf, prio, e.Run, e.Task))
			}
		}
	})
}

// yardSpoils tells ways in which the busy yard becomes a wrong one, in one point each.
func yardSpoils() map[string]func(y *impl.Yard) {
	return map[string]func(y *impl.Yard){
		"Now below 0":            func(y *impl.Yard) { y.Now = -1 },
		"Now that is too late":   func(y *impl.Yard) { y.Now = 4 },
		"Now that is too early":  func(y *impl.Yard) { y.Now = 1 },
		"Now above the limit":    func(y *impl.Yard) { y.Now = lastNow + 1 },
		"Seq 0":                  func(y *impl.Yard) { y.Seq = 0 },
		"Seq above the limit":    func(y *impl.Yard) { y.Seq = mostSeq + 1 },
		"Seq that was given":     func(y *impl.Yard) { y.Seq-- },
		"no shelves":             func(y *impl.Yard) { y.Shelf = nil },
		"a shelf more":           func(y *impl.Yard) { y.Shelf = append(y.Shelf, nil) },
		"a run more":             func(y *impl.Yard) { y.Runs = append(y.Runs, doneRun(7)) },
		"an Id twice":            func(y *impl.Yard) { y.Runs[3].Id = y.Runs[7].Id },
		"an Id twice, far apart": func(y *impl.Yard) { y.Runs[5].Id = y.Runs[0].Id },
		"Id 0":                   func(y *impl.Yard) { y.Runs[3].Id = 0 },
		"Id above the limit":     func(y *impl.Yard) { y.Runs[4].Id = 10000 },
		"a plan with a fault":    func(y *impl.Yard) { y.Runs[4].Plan.Edges = slices.Repeat(y.Runs[4].Plan.Edges, 2) },
		"the first run's State":  func(y *impl.Yard) { y.Runs[0].State = 4 },
		"the last run's State":   func(y *impl.Yard) { y.Runs[7].State = 0 },
		"a run that is not over": func(y *impl.Yard) { y.Runs[4].State = 4 },
		"a Need":                 func(y *impl.Yard) { y.Runs[3].Tasks[0].Need = 1 },
		"a Try":                  func(y *impl.Yard) { y.Runs[5].Tasks[1].Try = 4 },
		"an Until of what left":  func(y *impl.Yard) { y.Runs[5].Tasks[0].Until = 5 },
		"an Until of Now":        func(y *impl.Yard) { y.Runs[2].Tasks[2].Until = 3 },
		"an Until behind Wait":   func(y *impl.Yard) { y.Runs[2].Tasks[2].Until = 11 },
		"a shorter Wait":         func(y *impl.Yard) { y.Runs[0].Plan.Wait = 4 },
		"another Prio":           func(y *impl.Yard) { y.Runs[7].Plan.Prio++ },
		"a run that is none":     func(y *impl.Yard) { y.Runs[7] = impl.Run{} },
		"a ready one not told":   func(y *impl.Yard) { y.Runs[0].Tasks[1] = impl.Task{State: 2, Try: 1} },
	}
}

func TestYardsWrongInOnePoint(t *testing.T) {
	wantRight(t, "the busy yard", busyYard(t))
	for what, do := range yardSpoils() {
		y := laidYard(busyYard(t))
		do(&y)
		wantWrong(t, what, y)
	}
}

// Two runs of one Id make the yard a wrong one, though nothing else of it is; RunAt, and what hangs on it, tells of the first.
func TestTwoRunsOfOneId(t *testing.T) {
	for _, c := range []struct {
		first, second impl.Run
		ready, slots  int
	}{
		{doneRun(6), doneRun(6), 0, 0},
		{readyRun(6, 2), doneRun(6), 2, 2},
		{doneRun(6), readyRun(6, 2), 0, 4},
		{runningRun(6, 3, 2), doneRun(6), 0, 1},
		{runningRun(6, 3, 2), runningRun(6, 3, 2), 0, 2},
		{readyRun(6, 1), runningRun(6, 3, 2), 1, 2},
		{readyRun(6, 2), readyRun(6, 2), 4, 4},
	} {
		y := yardOf(0, readyRun(3, 1), c.first, doneRun(5), c.second)
		wantWrong(t, "two runs of one Id", y)
		if impl.RunAt(y, 6) != 1 || len(impl.ReadyOf(y)) != 1+c.ready || impl.SlotsOf(y) != 1+c.slots {
			t.Errorf("%v: RunAt is %d, ready is %v, and there are %d slots", y, impl.RunAt(y, 6), impl.ReadyOf(y), impl.SlotsOf(y))
		}
		y.Runs = slices.Delete(slices.Clone(y.Runs), 3, 4)
		y = yardOf(0, y.Runs...)
		wantRight(t, "one of them", y)
	}
}

func TestTheZeroYardAndOthers(t *testing.T) {
	wantWrong(t, "the zero yard", impl.Yard{})
	wantWrong(t, "the zero yard with shelves", impl.Yard{Shelf: emptyShelves()})
	wantWrong(t, "no shelves", impl.Yard{Seq: 1})
	wantRight(t, "empty lists", impl.Yard{Seq: 1, Shelf: [][]impl.Entry{{}, nil, {}, {}}, Runs: []impl.Run{}})
	wantWrong(t, "the zero run", impl.Yard{Seq: 1, Shelf: emptyShelves(), Runs: []impl.Run{{}}})
	wantWrong(t, "far too many runs", yardOf(0, slices.Repeat([]impl.Run{doneRun(1)}, 300)...))
	long := impl.Yard{Seq: 1, Shelf: emptyShelves(), Runs: []impl.Run{{Id: 1, Plan: plan(12), State: 1, Tasks: slices.Repeat([]impl.Task{{State: 2}}, 5000)}}}
	wantWrong(t, "far too many tasks", long)
	if impl.SlotsOf(long) != 5000 || !impl.Fresh(long, impl.Entry{Run: 1, Task: 4999}) || impl.Fresh(long, impl.Entry{Run: 1, Task: 5000}) {
		t.Error("a run of far too many tasks")
	}
}

// Yards put together by a fixed rule of few numbers, most of them far from right.
func TestYardsOfAnyKind(t *testing.T) {
	seed := 11
	next := func(below int) int {
		seed = (seed*1103515245 + 12345) % (1 << 31)
		return seed >> 8 % below
	}
	for range 3000 {
		y := impl.Yard{Now: next(4) - 1, Seq: next(12)}
		for range next(7) {
			list := []impl.Entry{}
			for range next(5) {
				list = append(list, impl.Entry{Prio: next(2) + 3, Seq: next(12), Run: next(6) - 1, Task: next(5) - 1})
			}
			y.Shelf = append(y.Shelf, list)
		}
		for range next(11) {
			r := impl.Run{Id: next(6) - 1, Plan: plan(next(4)), State: next(3)}
			for range next(4) {
				r.Tasks = append(r.Tasks, impl.Task{State: next(5), Try: next(2), Until: next(3)})
			}
			y.Runs = append(y.Runs, r)
		}
		wantOneYard(t, y)
	}
}

// yardWalk goes on with a yard by a fixed rule, by hand: a plan comes, a task is handed out, what is told of it, a run is given up or forgotten.
type yardWalk struct {
	y    impl.Yard
	next func(below int) int
	id   int
	did  map[string]int
}

func (w *yardWalk) at(place int, r impl.Run) {
	w.y.Runs = slices.Clone(w.y.Runs)
	w.y.Runs[place] = r
}

func (w *yardWalk) comes() {
	tasks := 1 + w.next(6)
	p := impl.Plan{Prio: w.next(10), Most: 1 + w.next(3), Wait: 1 + w.next(20), Tasks: tasks}
	for range w.next(5) {
		a, b := w.next(tasks), w.next(tasks)
		if e := edge(min(a, b), max(a, b)); a != b && !slices.Contains(p.Edges, e) {
			p.Edges = append(p.Edges, e)
		}
	}
	if len(w.y.Runs) == 8 || impl.SlotsOf(w.y)+tasks > 40 {
		return
	}
	w.id++
	r, _ := impl.RunNew(w.id, p)
	w.y.Runs = append(slices.Clone(w.y.Runs), r)
	w.y = shelvedReady(w.y, r)
	w.did["comes"]++
}

// handOut takes the first entry of a shelf off; one that is not fresh is gone with that.
func (w *yardWalk) handOut() {
	shelf := w.next(4)
	e, rest, ok := impl.TakeEntry(w.y.Shelf[shelf])
	if !ok {
		return
	}
	fresh, at := impl.Fresh(w.y, e), impl.RunAt(w.y, e.Run)
	w.y.Shelf = slices.Clone(w.y.Shelf)
	w.y.Shelf[shelf] = rest
	if fresh {
		r := w.y.Runs[at]
		w.at(at, handedOut(r, e.Task, w.y.Now+1+w.next(r.Plan.Wait)))
		w.did["handed out"]++
	} else {
		w.did["swept"]++
	}
}

// isTold tells something of a task that runs, and lays what is ready behind it on the run's shelf.
func (w *yardWalk) isTold(what string, of func(impl.Run, int) impl.Run) {
	if len(w.y.Runs) == 0 {
		return
	}
	at := w.next(len(w.y.Runs))
	old := w.y.Runs[at]
	running := impl.TasksIn(old, impl.TsRuns)
	if len(running) == 0 {
		return
	}
	told := of(old, running[w.next(len(running))])
	w.at(at, told)
	for _, task := range impl.TasksIn(told, impl.TsReady) {
		if old.Tasks[task].State != impl.TsReady {
			w.y = shelved(w.y, impl.ShelfOf(told.Id), told.Plan.Prio, told.Id, task)
		}
	}
	w.did[what]++
}

// isLeft gives a run up; what stands on the shelves stays there, where there are slots enough.
func (w *yardWalk) isLeft() {
	if len(w.y.Runs) == 0 {
		return
	}
	at := w.next(len(w.y.Runs))
	if w.y.Runs[at].State == impl.RsLive {
		w.at(at, impl.RunLeft(w.y.Runs[at]))
		w.did["left"]++
	}
}

// isForgotten takes a run away that is over; its entries stand there still, and are of no run.
func (w *yardWalk) isForgotten() {
	if len(w.y.Runs) == 0 {
		return
	}
	at := w.next(len(w.y.Runs))
	if w.y.Runs[at].State != impl.RsLive {
		w.y.Runs = slices.Delete(slices.Clone(w.y.Runs), at, at+1)
		w.did["forgotten"]++
	}
}

// moves brings half of one shelf to another one.
func (w *yardWalk) moves() {
	from, to := w.next(4), w.next(4)
	if from == to || len(w.y.Shelf[from]) == 0 {
		return
	}
	half, rest := impl.HalfOf(w.y.Shelf[from])
	w.y.Shelf = slices.Clone(w.y.Shelf)
	w.y.Shelf[from], w.y.Shelf[to] = rest, impl.Merged(w.y.Shelf[to], half)
	w.did["moved"]++
}

// later lets time go on, as far as no task that runs is late.
func (w *yardWalk) later() {
	later := w.y
	later.Now++
	for _, r := range later.Runs {
		for _, task := range r.Tasks {
			if task.State == impl.TsRuns && task.Until <= later.Now {
				return
			}
		}
	}
	w.y = later
	w.did["later"]++
}

// goesOn does by lot what needs no plan that comes.
func (w *yardWalk) goesOn() {
	switch lot := w.next(19); {
	case lot < 7:
		w.handOut()
	case lot < 12:
		w.isTold("done", impl.RunDone)
	case lot < 14:
		w.isTold("failed", impl.RunFails)
	case lot < 15:
		w.isLeft()
	case lot < 17:
		w.isForgotten()
	case lot < 18:
		w.moves()
	default:
		w.later()
	}
}

// wantEnough asks that a walk did each of these often enough to say something of it.
func wantEnough(t *testing.T, did map[string]int, words ...string) {
	t.Helper()
	for _, what := range words {
		if did[what] < 30 {
			t.Errorf("too few were %s: %v", what, did)
		}
	}
}

func TestPromiseOfYards(t *testing.T) {
	seed := 29
	next := func(below int) int {
		seed = (seed*1103515245 + 12345) % (1 << 31)
		return seed >> 8 % below
	}
	did := map[string]int{}
	for range 30 {
		w := &yardWalk{y: impl.YardNew(), next: next, did: did}
		for range 150 {
			if next(24) < 5 {
				w.comes()
			} else {
				w.goesOn()
			}
			wantRight(t, "a step", w.y)
			wantOneYard(t, oneNumberOff(w.y, next))
		}
	}
	wantEnough(t, did, "comes", "handed out", "swept", "done", "failed", "left", "forgotten", "moved", "later")
}

// oneNumberOff tells the yard with one of its numbers changed by 1, chosen by lot.
func oneNumberOff(y impl.Yard, next func(below int) int) impl.Yard {
	y = laidYard(y)
	by := 1 - 2*next(2)
	switch shelf := next(4); next(7) {
	case 0:
		y.Now += by
	case 1:
		y.Seq += by
	case 2, 3:
		if len(y.Shelf[shelf]) > 0 {
			e := &y.Shelf[shelf][next(len(y.Shelf[shelf]))]
			*[]*int{&e.Prio, &e.Seq, &e.Run, &e.Task}[next(4)] += by
		}
	default:
		if len(y.Runs) > 0 {
			r := &y.Runs[next(len(y.Runs))]
			task := &r.Tasks[next(len(r.Tasks))]
			*[]*int{&r.Id, &r.Plan.Prio, &r.Plan.Wait, &r.State, &task.State, &task.Need, &task.Try, &task.Until}[next(8)] += by
		}
	}
	return y
}
