package tests

import (
	"math"
	"slices"
	"testing"

	"loop.example/g00965/impl"
)

var (
	_ func(impl.Plan) []int       = impl.OrderOf
	_ func(impl.Plan) []int       = impl.DepthOf
	_ func(impl.Plan) [][]int     = impl.RanksOf
	_ func(impl.Plan, []int) bool = impl.InOrder
	_ func(impl.Plan, int) []int  = impl.CloseOf
)

// orderByWords takes the least task to which no edge leads from one that is left, until none is left.
func orderByWords(p impl.Plan) []int {
	order, left := []int{}, upTo(p.Tasks)
	for len(left) > 0 {
		i := slices.IndexFunc(left, func(task int) bool {
			return !slices.ContainsFunc(p.Edges, func(e impl.Edge) bool { return e.To == task && slices.Contains(left, e.From) })
		})
		order, left = append(order, left[i]), slices.Delete(left, i, i+1)
	}
	return order
}

// depthsByWords lets each edge push its To below its From, as often as a way can have edges.
func depthsByWords(p impl.Plan) []int {
	depths := make([]int, p.Tasks)
	for range p.Tasks {
		for _, e := range p.Edges {
			depths[e.To] = max(depths[e.To], depths[e.From]+1)
		}
	}
	return depths
}

func ranksByWords(p impl.Plan) [][]int {
	depths, ranks := depthsByWords(p), [][]int{}
	for depth := range slices.Max(depths) + 1 {
		rank := []int{}
		for task, its := range depths {
			if its == depth {
				rank = append(rank, task)
			}
		}
		ranks = append(ranks, rank)
	}
	return ranks
}

// inOrderByWords looks at the places of each edge's two tasks, in a list that has each task once.
func inOrderByWords(p impl.Plan, list []int) bool {
	sorted := slices.Sorted(slices.Values(list))
	if !slices.Equal(sorted, upTo(p.Tasks)) {
		return false
	}
	return !slices.ContainsFunc(p.Edges, func(e impl.Edge) bool { return slices.Index(list, e.From) > slices.Index(list, e.To) })
}

func closeByWords(p impl.Plan, task int) []int {
	if task < 0 || task >= p.Tasks {
		return []int{}
	}
	list := append(reachedByWords(p, task), task)
	slices.Sort(list)
	return list
}

// upTo tells 0 and all below many.
func upTo(many int) []int {
	list := []int{}
	for i := range max(many, 0) {
		list = append(list, i)
	}
	return list
}

func sameRanks(a, b [][]int) bool { return slices.EqualFunc(a, b, slices.Equal[[]int]) }

// wantList asks for a list of a plan, in the same way as wantTasks.
func wantList(t *testing.T, what string, of func(impl.Plan) []int, p impl.Plan, want []int) {
	t.Helper()
	wantTasks(t, what, func(p impl.Plan, _ int) []int { return of(p) }, p, 0, want)
}

// wantRanks asks for the ranks, that each is memory of its own and new, and that nothing is written into the plan.
func wantRanks(t *testing.T, p impl.Plan, want [][]int) {
	t.Helper()
	given, room := laidPlan(p)
	before := slices.Clone(room)
	got := impl.RanksOf(given)
	if !sameRanks(got, want) {
		t.Errorf("RanksOf(%v) is %v, not %v", p, got, want)
		return
	}
	for i := range got {
		full := got[i][:cap(got[i])]
		for k := range full {
			full[k] = -7
		}
		for k := i + 1; k < len(got); k++ {
			if !slices.Equal(got[k], want[k]) {
				t.Errorf("RanksOf(%v): ranks %d and %d share memory", p, i, k)
			}
		}
	}
	if again := impl.RanksOf(given); !sameRanks(again, want) {
		t.Errorf("RanksOf(%v) is %v when it is asked again, not %v", p, again, want)
	}
	if !slices.Equal(room, before) {
		t.Errorf("RanksOf(%v) wrote into the edges", p)
	}
}

// wantInOrder lays the list ahead of spare room, in which the task stands that would come next.
func wantInOrder(t *testing.T, p impl.Plan, list []int, want bool) {
	t.Helper()
	given, room := laidPlan(p)
	more := append(slices.Clone(list), len(list), len(list)+1, 0)
	before, ahead := slices.Clone(room), slices.Clone(more)
	asked := more[:len(list)]
	if list == nil {
		asked = nil
	}
	if impl.InOrder(given, asked) != want {
		t.Errorf("InOrder(%v, %v) is not %v", p, list, want)
	}
	if !slices.Equal(room, before) || !slices.Equal(more, ahead) {
		t.Errorf("InOrder(%v, %v) wrote into an argument", p, list)
	}
}

// wantOrders asks all that the chapter tells of a plan, by its words.
func wantOrders(t *testing.T, p impl.Plan, asked ...int) {
	t.Helper()
	if faultByWords(p) != 0 {
		wantNoOrders(t, p, asked...)
		return
	}
	wantList(t, "OrderOf", impl.OrderOf, p, orderByWords(p))
	wantList(t, "DepthOf", impl.DepthOf, p, depthsByWords(p))
	wantRanks(t, p, ranksByWords(p))
	for task := -1; task <= 12; task++ {
		asked = append(asked, task)
	}
	for _, task := range asked {
		wantTasks(t, "CloseOf", impl.CloseOf, p, task, closeByWords(p, task))
	}
	for _, list := range listsFor(p) {
		wantInOrder(t, p, list, inOrderByWords(p, list))
	}
}

// wantNoOrders asks of a plan with a fault, whatever else is asked.
func wantNoOrders(t *testing.T, p impl.Plan, asked ...int) {
	t.Helper()
	wantList(t, "OrderOf", impl.OrderOf, p, nil)
	wantList(t, "DepthOf", impl.DepthOf, p, nil)
	wantRanks(t, p, nil)
	for _, task := range append(asked, -1, 0, 1, 5, 11, 12) {
		wantTasks(t, "CloseOf", impl.CloseOf, p, task, nil)
	}
	for _, list := range [][]int{nil, {}, {0}, {-1}, {0, 1}, {1, 0}, upTo(11), upTo(12), upTo(13), upTo(len(p.Edges)), {math.MinInt, math.MaxInt}} {
		wantInOrder(t, p, list, false)
	}
	if p.Tasks > 0 && p.Tasks < 100 {
		wantInOrder(t, p, upTo(p.Tasks), false)
	}
}

// listsFor tells the plan's order, some that are made of it by one change each, and orders of other kinds.
func listsFor(p impl.Plan) [][]int {
	order := orderByWords(p)
	lists := [][]int{nil, {}, order, upTo(p.Tasks), slices.Concat(ranksByWords(p)...), append(slices.Clone(order), p.Tasks), append(slices.Clone(order), 0)}
	back := slices.Clone(order)
	slices.Reverse(back)
	lists = append(lists, back)
	for i := range order {
		lists = append(lists, slices.Delete(slices.Clone(order), i, i+1), slices.Insert(slices.Clone(order), i, order[i]))
		for _, none := range []int{-1, p.Tasks, math.MinInt, math.MaxInt, 12, order[0], order[len(order)-1]} {
			list := slices.Clone(order)
			list[i] = none
			lists = append(lists, list)
		}
		if i > 0 {
			list := slices.Clone(order)
			list[i-1], list[i] = list[i], list[i-1]
			lists = append(lists, list)
		}
	}
	return lists
}

// wantP7 asks what the promise says, by what the program answers alone.
func wantP7(t *testing.T, p impl.Plan) {
	t.Helper()
	order, depths, ranks := impl.OrderOf(p), impl.DepthOf(p), impl.RanksOf(p)
	if len(order) != p.Tasks || len(depths) != p.Tasks || !impl.InOrder(p, order) {
		t.Errorf("%v: %v is no order", p, order)
		return
	}
	if !impl.InOrder(p, slices.Concat(ranks...)) {
		t.Errorf("%v: the ranks %v are no order", p, ranks)
	}
	for task := range p.Tasks {
		deepest := -1
		for _, ahead := range impl.BeforeOf(p, task) {
			deepest = max(deepest, depths[ahead])
			if slices.Index(order, ahead) > slices.Index(order, task) {
				t.Errorf("%v: %d is ahead of %d, for which it waits", p, task, ahead)
			}
		}
		if depths[task] != deepest+1 {
			t.Errorf("%v: the depth of %d is %d, not %d", p, task, depths[task], deepest+1)
			continue
		}
		if len(ranks) <= depths[task] || !slices.Contains(ranks[depths[task]], task) {
			t.Errorf("%v: %d is not in its rank", p, task)
		}
		closed := impl.CloseOf(p, task)
		for other := range p.Tasks {
			if slices.Contains(closed, other) != (other == task || impl.Reaches(p, task, other)) {
				t.Errorf("%v: CloseOf %d is %v", p, task, closed)
			}
		}
	}
	wantLeastNext(t, p, order)
}

// wantLeastNext asks that no task stands ahead of a lesser one that was free, too.
func wantLeastNext(t *testing.T, p impl.Plan, order []int) {
	t.Helper()
	for i, next := range order {
		for _, later := range order[i+1:] {
			waits := slices.ContainsFunc(impl.BeforeOf(p, later), func(ahead int) bool { return slices.Index(order, ahead) >= i })
			if later < next && !waits {
				t.Errorf("%v: %d comes ahead of %d in %v, which is less and free", p, next, later, order)
			}
		}
	}
}

func TestOrdersOfKnownPlans(t *testing.T) {
	for _, c := range []struct {
		p      impl.Plan
		order  []int
		depths []int
		ranks  [][]int
	}{
		{plan(1), []int{0}, []int{0}, [][]int{{0}}},
		{plan(3), []int{0, 1, 2}, []int{0, 0, 0}, [][]int{{0, 1, 2}}},
		{plan(4, chain(0, 1, 2, 3)...), []int{0, 1, 2, 3}, []int{0, 1, 2, 3}, [][]int{{0}, {1}, {2}, {3}}},
		{plan(4, chain(3, 2, 1, 0)...), []int{3, 2, 1, 0}, []int{3, 2, 1, 0}, [][]int{{3}, {2}, {1}, {0}}},
		{diamond(), []int{0, 1, 2, 3, 4, 5}, []int{0, 1, 1, 0, 2, 3}, [][]int{{0, 3}, {1, 2}, {4}, {5}}},
		// A lesser one becomes free later, and then comes ahead of greater ones that were free all the while.
		{plan(4, edge(1, 0)), []int{1, 0, 2, 3}, []int{1, 0, 0, 0}, [][]int{{1, 2, 3}, {0}}},
		{plan(4, edge(2, 0)), []int{1, 2, 0, 3}, []int{1, 0, 0, 0}, [][]int{{1, 2, 3}, {0}}},
		{plan(6, edge(5, 0), edge(3, 1), edge(4, 1)), []int{2, 3, 4, 1, 5, 0}, []int{1, 1, 0, 0, 0, 0}, [][]int{{2, 3, 4, 5}, {0, 1}}},
		{plan(6, edge(4, 0), edge(0, 2), edge(3, 1)), []int{3, 1, 4, 0, 2, 5}, []int{1, 1, 2, 0, 0, 0}, [][]int{{3, 4, 5}, {0, 1}, {2}}},
		// The short way is told first, and last: the long one counts.
		{plan(4, edge(0, 3), edge(0, 1), edge(1, 2), edge(2, 3)), []int{0, 1, 2, 3}, []int{0, 1, 2, 3}, [][]int{{0}, {1}, {2}, {3}}},
		{plan(5, edge(4, 3), edge(3, 1), edge(1, 0), edge(4, 0), edge(2, 0)), []int{2, 4, 3, 1, 0}, []int{3, 2, 0, 1, 0}, [][]int{{2, 4}, {3}, {1}, {0}}},
		// Two ways that are equally long.
		{plan(4, edge(0, 1), edge(0, 2), edge(1, 3), edge(2, 3)), []int{0, 1, 2, 3}, []int{0, 1, 1, 2}, [][]int{{0}, {1, 2}, {3}}},
		{plan(4, edge(3, 2), edge(3, 1), edge(2, 0), edge(1, 0)), []int{3, 1, 2, 0}, []int{2, 1, 1, 0}, [][]int{{3}, {1, 2}, {0}}},
	} {
		for seed := range 10 {
			c.p.Edges = shuffled(c.p.Edges, seed)
			wantList(t, "OrderOf", impl.OrderOf, c.p, c.order)
			wantList(t, "DepthOf", impl.DepthOf, c.p, c.depths)
			wantRanks(t, c.p, c.ranks)
			wantOrders(t, c.p, farInts()...)
			wantP7(t, c.p)
		}
	}
}

func TestCloseOfKnownTasks(t *testing.T) {
	for task, want := range [][]int{{0, 1, 2, 4, 5}, {1, 4, 5}, {2, 5}, {3}, {4, 5}, {5}} {
		wantTasks(t, "CloseOf", impl.CloseOf, diamond(), task, want)
	}
	for tasks := 1; tasks <= 12; tasks++ {
		back := upTo(tasks)
		slices.Reverse(back)
		for task := range tasks {
			wantTasks(t, "CloseOf", impl.CloseOf, plan(tasks), task, []int{task})
			wantTasks(t, "CloseOf", impl.CloseOf, plan(tasks, chain(upTo(tasks)...)...), task, upTo(tasks)[task:])
			wantTasks(t, "CloseOf", impl.CloseOf, plan(tasks, chain(back...)...), task, upTo(task+1))
		}
	}
}

func TestCloseOfTasksThatAreNone(t *testing.T) {
	for _, p := range []impl.Plan{plan(1), plan(5, chain(4, 2, 0)...), diamond(), plan(11), plan(12), plan(12, forward(30)...)} {
		for _, none := range append(farInts(), p.Tasks, p.Tasks+1) {
			if none < 0 || none >= p.Tasks {
				wantTasks(t, "CloseOf", impl.CloseOf, p, none, nil)
			}
		}
		if first, last := impl.CloseOf(p, 0), impl.CloseOf(p, p.Tasks-1); !slices.Contains(first, 0) || !slices.Contains(last, p.Tasks-1) {
			t.Errorf("CloseOf of the first and the last task of %v is %v and %v", p, first, last)
		}
	}
}

// A chain has one order alone, and each depth once, the greatest that there can be at its end.
func TestOrdersOfChains(t *testing.T) {
	for _, tasks := range [][]int{{0}, {0, 1}, {1, 0}, upTo(12), {11, 10, 9, 8, 7, 6, 5, 4, 3, 2, 1, 0}, {5, 0, 11, 1, 10, 2, 9, 3, 8, 4, 7, 6}} {
		p := plan(len(tasks), chain(tasks...)...)
		depths, ranks := make([]int, len(tasks)), [][]int{}
		for depth, task := range tasks {
			depths[task], ranks = depth, append(ranks, []int{task})
		}
		for seed := range 5 {
			p.Edges = shuffled(p.Edges, seed)
			wantList(t, "OrderOf", impl.OrderOf, p, tasks)
			wantList(t, "DepthOf", impl.DepthOf, p, depths)
			wantRanks(t, p, ranks)
			wantInOrder(t, p, tasks, true)
			for i := 1; i < len(tasks); i++ {
				turned := slices.Clone(tasks)
				turned[i-1], turned[i] = turned[i], turned[i-1]
				wantInOrder(t, p, turned, false)
			}
			wantOrders(t, p)
			wantP7(t, p)
		}
	}
}

// The last of a chain of all tasks is as deep as a task can be, also where shorter ways lead to it.
func TestOrdersOfTheGreatestDepth(t *testing.T) {
	for _, tasks := range [][]int{upTo(12), {11, 10, 9, 8, 7, 6, 5, 4, 3, 2, 1, 0}, {7, 2, 9, 4, 11, 6, 1, 8, 3, 10, 5, 0}} {
		edges := chain(tasks...)
		for i := 2; len(edges) < 30; i++ {
			far := 2 + i%9
			edges = append(edges, edge(tasks[i%(12-far)], tasks[i%(12-far)+far]))
			slices.SortFunc(edges, func(a, b impl.Edge) int { return (a.From-b.From)*100 + a.To - b.To })
			edges = slices.Compact(edges)
		}
		for seed := range 10 {
			p := plan(12, shuffled(edges, seed)...)
			wantFault(t, p, 0)
			if got := impl.DepthOf(p); got[tasks[11]] != 11 || got[tasks[0]] != 0 {
				t.Errorf("DepthOf(%v) is %v", p, got)
			}
			wantList(t, "OrderOf", impl.OrderOf, p, tasks)
			wantOrders(t, p)
			wantP7(t, p)
		}
	}
}

func TestOrdersAtTheLimits(t *testing.T) {
	for tasks := 1; tasks <= 12; tasks++ {
		for _, edges := range [][]impl.Edge{nil, {}} {
			p := impl.Plan{Prio: 9, Most: 5, Wait: 20, Tasks: tasks, Edges: edges}
			wantList(t, "OrderOf", impl.OrderOf, p, upTo(tasks))
			wantList(t, "DepthOf", impl.DepthOf, p, make([]int, tasks))
			wantRanks(t, p, [][]int{upTo(tasks)})
			wantOrders(t, p, farInts()...)
			wantP7(t, p)
		}
	}
	for many := range 67 {
		p := impl.Plan{Prio: 0, Most: 1, Wait: 1, Tasks: 12, Edges: forward(many)}
		wantOrders(t, p)
		if many > 30 {
			wantNoOrders(t, p, farInts()...)
			continue
		}
		wantList(t, "OrderOf", impl.OrderOf, p, upTo(12))
		wantP7(t, p)
	}
}

// Of many that are free at once the least comes next: all but one are, at first or behind that one.
func TestOrdersOfStars(t *testing.T) {
	for middle := range 12 {
		in, out, others := plan(12), plan(12), []int{}
		for task := 11; task >= 0; task-- {
			if task != middle {
				in.Edges, out.Edges, others = append(in.Edges, edge(task, middle)), append(out.Edges, edge(middle, task)), append(others, task)
			}
		}
		slices.Sort(others)
		wantList(t, "OrderOf", impl.OrderOf, in, append(slices.Clone(others), middle))
		wantList(t, "OrderOf", impl.OrderOf, out, append([]int{middle}, others...))
		wantRanks(t, in, [][]int{others, {middle}})
		wantRanks(t, out, [][]int{{middle}, others})
		wantTasks(t, "CloseOf", impl.CloseOf, out, middle, upTo(12))
		wantTasks(t, "CloseOf", impl.CloseOf, in, middle, []int{middle})
		for _, p := range []impl.Plan{in, out} {
			wantOrders(t, p)
			wantP7(t, p)
		}
	}
}

// All lists of up to four numbers, of tasks and what stands next to them.
func TestInOrderOfAllShortLists(t *testing.T) {
	lists := [][]int{{}}
	for i := 0; i < len(lists); i++ {
		for n := -1; len(lists[i]) < 4 && n <= 3; n++ {
			lists = append(lists, append(slices.Clone(lists[i]), n))
		}
	}
	for _, p := range []impl.Plan{plan(1), plan(2), plan(2, edge(1, 0)), plan(3), plan(3, edge(0, 2)), plan(3, edge(2, 0), edge(2, 1)), plan(3, chain(1, 2, 0)...)} {
		for _, list := range lists {
			wantInOrder(t, p, list, inOrderByWords(p, list))
		}
	}
}

func TestInOrderOfWrongLists(t *testing.T) {
	p := plan(4, edge(3, 1))
	for _, list := range [][]int{{0, 2, 3, 1}, {3, 1, 0, 2}, {2, 3, 1, 0}, {3, 2, 0, 1}} {
		wantInOrder(t, p, list, true)
	}
	for _, list := range [][]int{
		nil, {}, {0, 2, 3}, {0, 2, 3, 1, 1}, {0, 2, 3, 1, 4}, {0, 0, 2, 3, 1}, {0, 1, 2, 3}, {0, 2, 1, 3}, {1, 3, 0, 2}, {0, 2, 3, 3}, {0, 0, 3, 1}, {3, 1, 1, 0},
		{-1, 2, 3, 1}, {4, 2, 3, 1}, {0, 2, 3, 4}, {0, 2, 3, -1}, {0, 12, 3, 1}, {math.MinInt, 2, 3, 1}, {0, math.MaxInt, 3, 1}, {0, 2, 3, math.MaxInt}, {1 << 32, 2, 3, 1}, {2 - 1<<32, 0, 3, 1},
	} {
		wantInOrder(t, p, list, false)
	}
	wantInOrder(t, plan(1), []int{0}, true)
	wantInOrder(t, plan(12), slices.Repeat([]int{0}, 12), false)
	wantInOrder(t, plan(12), upTo(100000), false)
}

func TestOrdersOfPlansWithAFault(t *testing.T) {
	base := plan(12, chain(0, 1, 2, 3)...)
	for _, a := range spoils() {
		one := base
		a.do(&one)
		wantNoOrders(t, one, farInts()...)
		for _, b := range spoils() {
			two := one
			b.do(&two)
			wantNoOrders(t, two)
		}
	}
	for _, p := range []impl.Plan{{}, {Prio: 1, Most: 1, Wait: 1}, plan(-1), plan(math.MinInt), plan(13), plan(math.MaxInt), plan(1, edge(0, 0)), plan(2, chain(0, 1, 0)...), plan(2, edge(0, 1), edge(0, 1)), plan(2, edge(0, 2)), plan(12, slices.Repeat(chain(0, 1), 100000)...)} {
		wantNoOrders(t, p, farInts()...)
	}
	p := plan(3, edge(2, 0))
	wantInOrder(t, p, []int{2, 0, 1}, true)
	for _, wrong := range []func(){func() { p.Prio = 10 }, func() { p.Prio, p.Most = 0, 6 }, func() { p.Most, p.Wait = 1, 0 }, func() { p.Wait, p.Edges = 1, chain(2, 0, 2) }} {
		wrong()
		wantInOrder(t, p, []int{2, 0, 1}, false)
		wantNoOrders(t, p)
	}
}

// All sets of edges between up to four tasks, each with all lists that have each task once.
func TestOrdersOfAllSmallPlans(t *testing.T) {
	for tasks := 1; tasks <= 4; tasks++ {
		all := []impl.Edge{}
		for from := range tasks {
			for to := range tasks {
				if from != to {
					all = append(all, edge(from, to))
				}
			}
		}
		for set := range 1 << len(all) {
			p := plan(tasks)
			for i, e := range all {
				if set>>i&1 == 1 {
					p.Edges = append(p.Edges, e)
				}
			}
			p.Edges = shuffled(p.Edges, set)
			if faultByWords(p) != 0 {
				wantList(t, "OrderOf", impl.OrderOf, p, nil)
				wantRanks(t, p, nil)
				continue
			}
			wantOrders(t, p)
			wantP7(t, p)
			wantFirstOfAll(t, p)
		}
	}
}

// wantFirstOfAll goes through all lists that have each task once, rising: the first that is in order is the one that OrderOf tells.
func wantFirstOfAll(t *testing.T, p impl.Plan) {
	t.Helper()
	lists := [][]int{{}}
	for range p.Tasks {
		longer := [][]int{}
		for _, list := range lists {
			for task := range p.Tasks {
				if !slices.Contains(list, task) {
					longer = append(longer, append(slices.Clone(list), task))
				}
			}
		}
		lists = longer
	}
	i := slices.IndexFunc(lists, func(list []int) bool { return impl.InOrder(p, list) })
	if i < 0 || !slices.Equal(lists[i], impl.OrderOf(p)) {
		t.Errorf("OrderOf(%v) is %v, which is not the first of all orders", p, impl.OrderOf(p))
	}
	for _, list := range lists {
		wantInOrder(t, p, list, inOrderByWords(p, list))
	}
}

// Plans of up to 12 tasks with edges put there by a fixed rule, most of them without a cycle.
func TestPromiseOfOrders(t *testing.T) {
	seed, whole := 7, 0
	next := func(below int) int {
		seed = (seed*1103515245 + 12345) % (1 << 31)
		return seed >> 8 % below
	}
	for round := range 400 {
		tasks := 2 + next(11)
		names := make([]int, tasks)
		for i := range names {
			k := next(i + 1)
			names[i], names[k] = names[k], i
		}
		p := plan(tasks)
		for range next(31) {
			a, b := next(tasks), next(tasks)
			if round%8 != 0 && a > b {
				a, b = b, a
			}
			if e := edge(names[a], names[b]); a != b && !slices.Contains(p.Edges, e) {
				p.Edges = append(p.Edges, e)
			}
		}
		wantOrders(t, p)
		if impl.PlanFault(p) == 0 {
			whole++
			wantP7(t, p)
		}
	}
	if whole < 340 {
		t.Errorf("only %d plans have no fault", whole)
	}
}
