package tests

import (
	"math"
	"slices"
	"testing"

	"loop.example/g00965/impl"
)

var (
	_ func(impl.Plan) int            = impl.PlanFault
	_ func(impl.Plan, int) []int     = impl.BeforeOf
	_ func(impl.Plan, int) []int     = impl.BehindOf
	_ func(impl.Plan, int, int) bool = impl.Reaches
)

// plan tells a plan of so many tasks, whose other numbers are within their limits.
func plan(tasks int, edges ...impl.Edge) impl.Plan {
	return impl.Plan{Prio: 4, Most: 3, Wait: 7, Tasks: tasks, Edges: edges}
}

func edge(from, to int) impl.Edge { return impl.Edge{From: from, To: to} }

// chain tells the edges of a way through these tasks.
func chain(tasks ...int) []impl.Edge {
	edges := []impl.Edge{}
	for i := 1; i < len(tasks); i++ {
		edges = append(edges, edge(tasks[i-1], tasks[i]))
	}
	return edges
}

// forward tells so many unlike edges of 12 tasks, each from a lesser task to a greater one.
func forward(many int) []impl.Edge {
	edges := []impl.Edge{}
	for far := 1; far < 12; far++ {
		for from := 0; from+far < 12; from++ {
			edges = append(edges, edge(from, from+far))
		}
	}
	return edges[:many]
}

// shuffled tells the edges in another order, the same one each time for a seed.
func shuffled(edges []impl.Edge, seed int) []impl.Edge {
	list := slices.Clone(edges)
	for i := len(list) - 1; i > 0; i-- {
		seed = (seed*1103515245 + 12345) % (1 << 31)
		k := seed >> 8 % (i + 1)
		list[i], list[k] = list[k], list[i]
	}
	return list
}

// farInts tells numbers that are no task's.
func farInts() []int {
	return []int{math.MinInt, math.MinInt + 1, -1 << 32, -12, -1, 12, 13, 64, 1 << 31, 1 << 32, 1<<32 + 1, math.MaxInt - 1, math.MaxInt}
}

// faultByWords says the chapter again; a cycle is what stays when tasks that wait for none are taken away.
func faultByWords(p impl.Plan) int {
	if p.Tasks < 1 || p.Tasks > 12 || len(p.Edges) > 30 || p.Prio < 0 || p.Prio > 9 || p.Most < 1 || p.Most > 5 || p.Wait < 1 || p.Wait > 20 {
		return 1
	}
	for _, e := range p.Edges {
		if e.From < 0 || e.To < 0 || e.From >= p.Tasks || e.To >= p.Tasks {
			return 2
		}
	}
	for i, e := range p.Edges {
		if slices.Contains(p.Edges[:i], e) {
			return 3
		}
	}
	left := slices.Clone(p.Edges)
	for range p.Tasks {
		all := slices.Clone(left)
		left = slices.DeleteFunc(left, func(e impl.Edge) bool {
			return !slices.ContainsFunc(all, func(ahead impl.Edge) bool { return ahead.To == e.From })
		})
	}
	if len(left) > 0 {
		return 4
	}
	return 0
}

func beforeByWords(p impl.Plan, task int) []int {
	list := []int{}
	for _, e := range p.Edges {
		if e.To == task {
			list = append(list, e.From)
		}
	}
	slices.Sort(list)
	return list
}

func behindByWords(p impl.Plan, task int) []int {
	list := []int{}
	for _, e := range p.Edges {
		if e.From == task {
			list = append(list, e.To)
		}
	}
	slices.Sort(list)
	return list
}

// reachedByWords tells all tasks to which a way of edges leads, of a plan without fault.
func reachedByWords(p impl.Plan, from int) []int {
	list := []int{}
	for _, to := range behindByWords(p, from) {
		list = append(append(list, to), reachedByWords(p, to)...)
	}
	slices.Sort(list)
	return slices.Compact(list)
}

// laidPlan lays a plan's edges ahead of spare room in one list; what stands there would be edges of the plan.
func laidPlan(p impl.Plan) (impl.Plan, []impl.Edge) {
	room := append(slices.Clone(p.Edges), edge(0, 1), edge(1, 2), edge(0, 0), edge(-1, 12))
	if p.Edges != nil {
		p.Edges = room[:len(p.Edges)]
	}
	return p, room
}

func wantFault(t *testing.T, p impl.Plan, want int) {
	t.Helper()
	given, room := laidPlan(p)
	before := slices.Clone(room)
	if got := impl.PlanFault(given); got != want {
		t.Errorf("PlanFault(%v) is %d, not %d", p, got, want)
	}
	if !slices.Equal(room, before) {
		t.Errorf("PlanFault(%v) wrote into the edges", p)
	}
}

// wantTasks asks for a list of tasks, that it is new memory at each call, and that nothing is written into the plan.
func wantTasks(t *testing.T, what string, of func(impl.Plan, int) []int, p impl.Plan, task int, want []int) {
	t.Helper()
	given, room := laidPlan(p)
	before := slices.Clone(room)
	first := of(given, task)
	if !slices.Equal(first, want) {
		t.Errorf("%s(%v, %d) is %v, not %v", what, p, task, first, want)
	}
	first = first[:cap(first)]
	for i := range first {
		first[i] = -7
	}
	if again := of(given, task); !slices.Equal(again, want) {
		t.Errorf("%s(%v, %d) is %v when it is asked again, not %v", what, p, task, again, want)
	}
	if !slices.Equal(room, before) {
		t.Errorf("%s(%v, %d) wrote into the edges", what, p, task)
	}
}

func wantReaches(t *testing.T, p impl.Plan, from, to int, want bool) {
	t.Helper()
	given, room := laidPlan(p)
	before := slices.Clone(room)
	if impl.Reaches(given, from, to) != want {
		t.Errorf("Reaches(%v, %d, %d) is not %v", p, from, to, want)
	}
	if !slices.Equal(room, before) {
		t.Errorf("Reaches(%v, %d, %d) wrote into the edges", p, from, to)
	}
}

// wantPlan asks of each task, and of some that are none, what the chapter's words say.
func wantPlan(t *testing.T, p impl.Plan, asked ...int) {
	t.Helper()
	fault := faultByWords(p)
	wantFault(t, p, fault)
	for task := -1; task <= 12; task++ {
		asked = append(asked, task)
	}
	for _, task := range asked {
		before, behind, reached := []int{}, []int{}, []int{}
		if fault == 0 {
			before, behind, reached = beforeByWords(p, task), behindByWords(p, task), reachedByWords(p, task)
		}
		wantTasks(t, "BeforeOf", impl.BeforeOf, p, task, before)
		wantTasks(t, "BehindOf", impl.BehindOf, p, task, behind)
		for _, to := range asked {
			wantReaches(t, p, task, to, slices.Contains(reached, to))
		}
	}
}

// wantP6 asks what the promise says, by what the program answers alone.
func wantP6(t *testing.T, p impl.Plan) {
	t.Helper()
	for a := range p.Tasks {
		if impl.Reaches(p, a, a) {
			t.Errorf("%v: %d reaches itself", p, a)
		}
		before, behind := impl.BeforeOf(p, a), impl.BehindOf(p, a)
		for b := range p.Tasks {
			if slices.Contains(behind, b) != slices.Contains(impl.BeforeOf(p, b), a) {
				t.Errorf("%v: whether %d waits for %d is told in two ways", p, b, a)
			}
			if (slices.Contains(behind, b) || slices.Contains(impl.BeforeOf(p, b), a)) && !impl.Reaches(p, a, b) {
				t.Errorf("%v: %d does not reach %d, which waits for it", p, a, b)
			}
			for c := range p.Tasks {
				if impl.Reaches(p, a, b) && impl.Reaches(p, b, c) && !impl.Reaches(p, a, c) {
					t.Errorf("%v: %d reaches %d, that one %d, but not the first the last", p, a, b, c)
				}
			}
		}
		for _, list := range [][]int{before, behind} {
			for i := 1; i < len(list); i++ {
				if list[i-1] >= list[i] {
					t.Errorf("%v: %v of %d does not rise", p, list, a)
				}
			}
		}
	}
}

func TestConstantsOfPlans(t *testing.T) {
	got := []int{impl.MaxTasks, impl.MaxEdges, impl.MaxPrio, impl.MaxTries, impl.MaxWait, impl.ErrMany, impl.ErrEdge, impl.ErrTwice, impl.ErrCycle}
	if want := []int{12, 30, 9, 5, 20, 1, 2, 3, 4}; !slices.Equal(got, want) {
		t.Errorf("the constants are %v, not %v", got, want)
	}
}

// diamond has several ways between 0 and 5, and 3 stands beside them.
func diamond() impl.Plan {
	return plan(6, edge(2, 5), edge(0, 4), edge(4, 5), edge(0, 1), edge(1, 4), edge(0, 2), edge(0, 5))
}

func TestPlansOfKnownTasks(t *testing.T) {
	p := diamond()
	wantFault(t, p, 0)
	for task, want := range [][]int{{}, {0}, {0}, {}, {0, 1}, {0, 2, 4}} {
		wantTasks(t, "BeforeOf", impl.BeforeOf, p, task, want)
	}
	for task, want := range [][]int{{1, 2, 4, 5}, {4}, {5}, {}, {5}, {}} {
		wantTasks(t, "BehindOf", impl.BehindOf, p, task, want)
	}
	for from, want := range [][]int{{1, 2, 4, 5}, {4, 5}, {5}, {}, {5}, {}} {
		for to := range 6 {
			wantReaches(t, p, from, to, slices.Contains(want, to))
		}
	}
	wantPlan(t, p)
	wantP6(t, p)
}

func TestPlansWithoutEdges(t *testing.T) {
	for tasks := 1; tasks <= 12; tasks++ {
		wantFault(t, plan(tasks), 0)
		for _, edges := range [][]impl.Edge{nil, {}} {
			wantPlan(t, plan(tasks, edges...), farInts()...)
			wantP6(t, plan(tasks, edges...))
		}
	}
}

// In a chain each task waits for one, and all behind it are reached, whichever way the numbers run.
func TestPlansOfChains(t *testing.T) {
	for _, tasks := range [][]int{{0}, {0, 1}, {1, 0}, {0, 1, 2, 3, 4, 5, 6, 7, 8, 9, 10, 11}, {11, 10, 9, 8, 7, 6, 5, 4, 3, 2, 1, 0}, {5, 0, 11, 1, 10, 2, 9, 3, 8, 4, 7, 6}} {
		p := plan(len(tasks), chain(tasks...)...)
		for seed := range 5 {
			p.Edges = shuffled(p.Edges, seed)
			wantFault(t, p, 0)
			for i, from := range tasks {
				for k, to := range tasks {
					wantReaches(t, p, from, to, i < k)
				}
				wantTasks(t, "BeforeOf", impl.BeforeOf, p, from, tasks[max(i-1, 0):i])
				wantTasks(t, "BehindOf", impl.BehindOf, p, from, tasks[i+1:min(i+2, len(tasks))])
			}
			wantP6(t, p)
		}
	}
}

func TestPlansWithEdgesInAnyOrder(t *testing.T) {
	for _, edges := range [][]impl.Edge{diamond().Edges, forward(30), chain(3, 1, 4, 0, 5, 2)} {
		for seed := range 20 {
			p := plan(12, shuffled(edges, seed)...)
			wantFault(t, p, 0)
			wantPlan(t, p)
			wantP6(t, p)
		}
		turned := slices.Clone(edges)
		slices.Reverse(turned)
		wantPlan(t, plan(12, turned...))
	}
}

// One task waits for all others, or is waited for by all: the lists are full.
func TestPlansOfStars(t *testing.T) {
	for middle := range 12 {
		in, out, others := []impl.Edge{}, []impl.Edge{}, []int{}
		for task := 11; task >= 0; task-- {
			if task != middle {
				in, out, others = append(in, edge(task, middle)), append(out, edge(middle, task)), append(others, task)
			}
		}
		slices.Sort(others)
		wantTasks(t, "BeforeOf", impl.BeforeOf, plan(12, in...), middle, others)
		wantTasks(t, "BehindOf", impl.BehindOf, plan(12, in...), middle, nil)
		wantTasks(t, "BeforeOf", impl.BeforeOf, plan(12, out...), middle, nil)
		wantTasks(t, "BehindOf", impl.BehindOf, plan(12, out...), middle, others)
		wantPlan(t, plan(12, in...))
		wantPlan(t, plan(12, out...))
	}
}

func TestPlanFaultAtTheLimits(t *testing.T) {
	for _, c := range []struct {
		what        string
		least, most int
		with        func(n int) impl.Plan
	}{
		{"Tasks", 1, 12, func(n int) impl.Plan { return plan(n) }},
		{"Prio", 0, 9, func(n int) impl.Plan { return impl.Plan{Prio: n, Most: 3, Wait: 7, Tasks: 2, Edges: chain(0, 1)} }},
		{"Most", 1, 5, func(n int) impl.Plan { return impl.Plan{Prio: 4, Most: n, Wait: 7, Tasks: 2, Edges: chain(0, 1)} }},
		{"Wait", 1, 20, func(n int) impl.Plan { return impl.Plan{Prio: 4, Most: 3, Wait: n, Tasks: 2, Edges: chain(0, 1)} }},
	} {
		for _, n := range append(farInts(), c.least-1, c.least, c.least+1, c.most-1, c.most, c.most+1) {
			want := 1
			if n >= c.least && n <= c.most {
				want = 0
			}
			if got := impl.PlanFault(c.with(n)); got != want {
				t.Errorf("%s %d: the fault is %d, not %d", c.what, n, got, want)
			}
			wantPlan(t, c.with(n))
		}
	}
	wantPlan(t, impl.Plan{Prio: 0, Most: 1, Wait: 1, Tasks: 1}, farInts()...)
	wantPlan(t, impl.Plan{Prio: 9, Most: 5, Wait: 20, Tasks: 12, Edges: forward(30)}, farInts()...)
	wantFault(t, impl.Plan{Prio: 9, Most: 5, Wait: 20, Tasks: 12, Edges: forward(30)}, 0)
	wantFault(t, impl.Plan{}, 1)
}

func TestPlanFaultOfManyEdges(t *testing.T) {
	for many := range 67 {
		want := 0
		if many > 30 {
			want = 1
		}
		wantFault(t, plan(12, forward(many)...), want)
	}
	wantPlan(t, plan(12, forward(29)...))
	wantPlan(t, plan(12, forward(30)...))
	wantPlan(t, plan(12, forward(31)...))
	wantPlan(t, plan(12, forward(66)...))
	same := plan(2, slices.Repeat([]impl.Edge{edge(0, 1)}, 100000)...)
	wantFault(t, same, 1)
	same.Edges = same.Edges[:31]
	wantFault(t, same, 1)
	same.Edges = same.Edges[:30]
	wantFault(t, same, 3)
}

func TestPlansOfTheFirstAndTheLastTask(t *testing.T) {
	for tasks := 2; tasks <= 12; tasks++ {
		last := tasks - 1
		for _, p := range []impl.Plan{plan(tasks, edge(0, last)), plan(tasks, edge(last, 0))} {
			from, to := p.Edges[0].From, p.Edges[0].To
			wantFault(t, p, 0)
			wantTasks(t, "BeforeOf", impl.BeforeOf, p, to, []int{from})
			wantTasks(t, "BeforeOf", impl.BeforeOf, p, from, nil)
			wantTasks(t, "BehindOf", impl.BehindOf, p, from, []int{to})
			wantTasks(t, "BehindOf", impl.BehindOf, p, to, nil)
			wantReaches(t, p, from, to, true)
			wantReaches(t, p, to, from, false)
			wantPlan(t, p)
		}
	}
}

func TestPlanFaultOfStrayEdges(t *testing.T) {
	for tasks := 1; tasks <= 12; tasks++ {
		for _, stray := range append(farInts(), tasks, tasks+1) {
			if stray >= 0 && stray < tasks {
				continue
			}
			for _, e := range []impl.Edge{edge(stray, 0), edge(0, stray), edge(stray, tasks-1), edge(tasks-1, stray), edge(stray, stray)} {
				wantFault(t, plan(tasks, e), 2)
				wantFault(t, plan(12, append(forward(29), edge(e.From, 12))...), 2)
			}
		}
		wantPlan(t, plan(tasks, edge(-1, 0)))
		wantPlan(t, plan(tasks, edge(0, -1)))
		wantPlan(t, plan(tasks, edge(0, tasks)))
		wantPlan(t, plan(tasks, edge(tasks, 0)))
		wantPlan(t, plan(tasks, edge(math.MinInt, math.MaxInt)), math.MinInt, math.MaxInt)
	}
	for place := range 30 {
		for _, e := range []impl.Edge{edge(-1, 3), edge(3, -1), edge(12, 3), edge(3, 12)} {
			p := plan(12, forward(30)...)
			p.Edges[place] = e
			wantFault(t, p, 2)
		}
	}
}

func TestPlanFaultOfTwoEdgesThatAreTheSame(t *testing.T) {
	for first := range 30 {
		for second := range 30 {
			if first == second {
				continue
			}
			p := plan(12, forward(30)...)
			p.Edges[second] = p.Edges[first]
			wantFault(t, p, 3)
		}
	}
	wantPlan(t, plan(2, edge(0, 1), edge(0, 1)))
	wantPlan(t, plan(12, append(forward(29), forward(1)...)...))
	wantPlan(t, plan(12, slices.Repeat([]impl.Edge{edge(0, 11)}, 30)...))
	// Those that have only one end the same, or are the same only when they are put together, are not the same.
	for _, edges := range [][]impl.Edge{
		{edge(0, 1), edge(0, 2)}, {edge(0, 2), edge(1, 2)}, {edge(0, 1), edge(1, 2)},
		{edge(1, 11), edge(11, 2)}, {edge(1, 10), edge(11, 0)}, {edge(0, 3), edge(1, 2)}, {edge(1, 5), edge(2, 10)},
	} {
		wantFault(t, plan(12, edges...), 0)
		wantPlan(t, plan(12, edges...))
	}
}

func TestPlanFaultOfCycles(t *testing.T) {
	for tasks := 1; tasks <= 12; tasks++ {
		for task := range tasks {
			wantFault(t, plan(tasks, edge(task, task)), 4)
		}
		for long := 1; long <= tasks; long++ {
			round := []int{}
			for task := tasks - long; task < tasks; task++ {
				round = append(round, task)
			}
			p := plan(tasks, chain(append(round, round[0])...)...)
			wantFault(t, p, 4)
			wantPlan(t, p)
			slices.Reverse(p.Edges)
			wantFault(t, p, 4)
			for i := range p.Edges {
				wantFault(t, plan(tasks, slices.Delete(slices.Clone(p.Edges), i, i+1)...), 0)
			}
		}
	}
	for _, p := range []impl.Plan{
		plan(2, edge(0, 1), edge(1, 0)),                                 // turned round
		plan(5, append(chain(0, 1, 2), chain(3, 4, 3)...)...),           // apart from the rest
		plan(6, append(chain(0, 1, 2, 3), chain(3, 4, 2)...)...),        // behind a way
		plan(6, append(chain(0, 1, 2, 0), chain(2, 3, 4, 5)...)...),     // ahead of a way
		plan(6, append(chain(0, 2, 5), chain(2, 3, 2)...)...),           // in the middle of a way
		plan(12, append(forward(29), edge(11, 0))...),                   // from the last to the first
		plan(12, append(forward(29), edge(7, 7))...),                    // beside many edges
		plan(12, append(chain(0, 11, 0), chain(4, 9, 6, 4)...)...),      // two of them
		plan(12, chain(6, 1, 10, 3, 8, 5, 11, 0, 7, 2, 9, 4, 6)...),     // through all, in no order
		plan(12, append(chain(5, 4, 3, 2, 1, 0), edge(1, 4))...),        // by greater ones
		plan(12, append(chain(0, 1, 2, 3, 4, 5), chain(5, 2)...)...),    // back into the way
		plan(12, append(chain(0, 1), chain(9, 3, 9, 10, 11, 10)...)...), // one behind the other
	} {
		wantFault(t, p, 4)
		wantPlan(t, p)
	}
}

// spoil is one way in which a plan becomes a wrong one.
type spoil struct {
	what string
	code int
	do   func(p *impl.Plan)
}

func spoils() []spoil {
	add := func(edges ...impl.Edge) func(*impl.Plan) {
		return func(p *impl.Plan) { p.Edges = append(slices.Clone(p.Edges), edges...) }
	}
	return []spoil{
		{"no task", 1, func(p *impl.Plan) { p.Tasks = 0 }},
		{"the least Tasks", 1, func(p *impl.Plan) { p.Tasks = math.MinInt }},
		{"too many tasks", 1, func(p *impl.Plan) { p.Tasks = 13 }},
		{"the greatest Tasks", 1, func(p *impl.Plan) { p.Tasks = math.MaxInt }},
		{"too many edges", 1, add(forward(31)...)},
		{"Prio too low", 1, func(p *impl.Plan) { p.Prio = -1 }},
		{"Prio too high", 1, func(p *impl.Plan) { p.Prio = 10 }},
		{"Most too low", 1, func(p *impl.Plan) { p.Most = 0 }},
		{"Most too high", 1, func(p *impl.Plan) { p.Most = 6 }},
		{"Wait too low", 1, func(p *impl.Plan) { p.Wait = 0 }},
		{"Wait too high", 1, func(p *impl.Plan) { p.Wait = 21 }},
		{"From -1", 2, add(edge(-1, 3))},
		{"To -1", 2, add(edge(3, -1))},
		{"From past the last", 2, add(edge(12, 3))},
		{"To past the last", 2, add(edge(3, 12))},
		{"the least From, the greatest To", 2, add(edge(math.MinInt, math.MaxInt))},
		{"two the same, far apart", 3, add(edge(0, 1))},
		{"two the same, side by side", 3, add(edge(7, 8), edge(7, 8))},
		{"one edge round", 4, add(edge(5, 5))},
		{"two edges round", 4, add(edge(1, 0))},
		{"many edges round", 4, add(chain(4, 6, 11, 9, 10, 4)...)},
	}
}

func TestPlanFaultOfEachPairOfFaults(t *testing.T) {
	base := plan(12, chain(0, 1, 2, 3)...)
	wantFault(t, base, 0)
	for _, a := range spoils() {
		one := base
		a.do(&one)
		wantPlan(t, one)
		wantFault(t, one, a.code)
		for _, b := range spoils() {
			two := one
			b.do(&two)
			if b.what == a.what {
				continue
			}
			want := min(a.code, b.code)
			if got := impl.PlanFault(two); got != want {
				t.Errorf("%s, then %s: the fault is %d, not %d", a.what, b.what, got, want)
			}
			slices.Reverse(two.Edges)
			wantFault(t, two, want)
			wantTasks(t, "BeforeOf", impl.BeforeOf, two, 1, nil)
			wantTasks(t, "BehindOf", impl.BehindOf, two, 1, nil)
			wantReaches(t, two, 0, 1, false)
		}
	}
}

// What is both is told by the first code: a stray edge twice, a stray edge round, a round one twice.
func TestPlanFaultOfEdgesWithTwoFaults(t *testing.T) {
	for _, c := range []struct {
		p    impl.Plan
		want int
	}{
		{plan(3, edge(0, 3), edge(0, 3)), 2},
		{plan(3, edge(-1, -1)), 2},
		{plan(3, edge(3, 3), edge(3, 3)), 2},
		{plan(3, edge(0, 3), edge(3, 0)), 2},
		{plan(3, edge(1, 1), edge(1, 1)), 3},
		{plan(3, edge(0, 1), edge(1, 0), edge(0, 1)), 3},
		{plan(13, edge(0, 12), edge(0, 12)), 1},
		{plan(0, edge(0, 0), edge(0, 0)), 1},
		{plan(-1, edge(-1, -1)), 1},
		{plan(13, edge(0, 14), edge(0, 14), edge(1, 1)), 1},
	} {
		wantFault(t, c.p, c.want)
		wantPlan(t, c.p)
	}
}

func TestPlansAskedForTasksThatAreNone(t *testing.T) {
	for _, p := range []impl.Plan{plan(1), diamond(), plan(12, forward(30)...)} {
		wantPlan(t, p, farInts()...)
		for _, none := range append(farInts(), p.Tasks) {
			if none >= 0 && none < p.Tasks {
				continue
			}
			wantTasks(t, "BeforeOf", impl.BeforeOf, p, none, nil)
			wantTasks(t, "BehindOf", impl.BehindOf, p, none, nil)
			for task := range p.Tasks {
				wantReaches(t, p, none, task, false)
				wantReaches(t, p, task, none, false)
			}
			wantReaches(t, p, none, none, false)
		}
	}
}

// All lists of at most two edges between tasks and what stands next to them.
func TestAllSmallPlans(t *testing.T) {
	all := []impl.Edge{}
	for from := -1; from <= 3; from++ {
		for to := -1; to <= 3; to++ {
			all = append(all, edge(from, to))
		}
	}
	for tasks := 0; tasks <= 3; tasks++ {
		for _, a := range all {
			wantPlan(t, plan(tasks, a))
			for _, b := range all {
				wantPlan(t, plan(tasks, a, b))
			}
		}
	}
}

// All sets of edges between four tasks, those round one task left out.
func TestAllPlansOfFourTasks(t *testing.T) {
	all := []impl.Edge{}
	for from := range 4 {
		for to := range 4 {
			if from != to {
				all = append(all, edge(from, to))
			}
		}
	}
	whole := 0
	for set := range 1 << len(all) {
		p := plan(4)
		for i, e := range all {
			if set>>i&1 == 1 {
				p.Edges = append(p.Edges, e)
			}
		}
		p.Edges = shuffled(p.Edges, set)
		fault := faultByWords(p)
		wantFault(t, p, fault)
		for from := range 4 {
			reached := []int{}
			if fault == 0 {
				reached = reachedByWords(p, from)
			}
			for to := range 4 {
				wantReaches(t, p, from, to, slices.Contains(reached, to))
			}
		}
		if fault == 0 {
			whole++
			wantP6(t, p)
		}
	}
	// So many ways there are to order four tasks by edges, without a cycle.
	if whole != 543 {
		t.Errorf("%d plans have no fault, not 543", whole)
	}
}

// Plans of up to 12 tasks with edges put there by a fixed rule, some of them forward only, so that they have no cycle.
func TestPromiseOfPlans(t *testing.T) {
	seed, whole := 1, 0
	next := func(below int) int {
		seed = (seed*1103515245 + 12345) % (1 << 31)
		return seed >> 8 % below
	}
	for round := range 300 {
		tasks := 2 + next(11)
		names := make([]int, tasks)
		for i := range names {
			k := next(i + 1)
			names[i], names[k] = names[k], i
		}
		p := plan(tasks)
		for range next(31) {
			a, b := next(tasks), next(tasks)
			if round%5 != 0 && a > b {
				a, b = b, a
			}
			e := edge(names[a], names[b])
			if round%5 == 0 || a != b && !slices.Contains(p.Edges, e) {
				p.Edges = append(p.Edges, e)
			}
		}
		wantPlan(t, p)
		if impl.PlanFault(p) == 0 {
			whole++
			wantP6(t, p)
		}
	}
	if whole < 240 {
		t.Errorf("only %d plans have no fault", whole)
	}
}
