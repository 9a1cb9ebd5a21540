package tests

import (
	"math"
	"slices"
	"testing"

	"loop.example/g00965/impl"
)

var (
	_ func(impl.Entry, impl.Entry) bool                   = impl.Ahead
	_ func([]impl.Entry) bool                             = impl.ShelfOk
	_ func([]impl.Entry, impl.Entry) []impl.Entry         = impl.PutEntry
	_ func([]impl.Entry) (impl.Entry, []impl.Entry, bool) = impl.TakeEntry
	_ func([]impl.Entry) ([]impl.Entry, []impl.Entry)     = impl.HalfOf
	_ func([]impl.Entry, []impl.Entry) []impl.Entry       = impl.Merged
	_ [impl.MaxShelf - 80]struct{}                        = [0]struct{}{}
	_ struct{ Prio, Seq, Run, Task int }                  = impl.Entry{}
)

// entry has a Run and a Task that tell nothing of where it stands.
func entry(prio, seq int) impl.Entry {
	return impl.Entry{Prio: prio, Seq: seq, Run: 3 - seq, Task: prio}
}

// rowOf tells so many entries, each Ahead of the next one: up to three of one Prio with rising Seqs, all unlike; from one Prio to the next the Seqs fall.
func rowOf(many int) []impl.Entry {
	row := []impl.Entry{}
	for i := range many {
		prio := (many - 1 - i) / 3
		row = append(row, entry(prio, i+7*prio))
	}
	return row
}

// edgeInts tells the numbers at which comparing goes wrong where it is done by taking one from the other.
func edgeInts() []int {
	return []int{math.MinInt, math.MinInt + 1, -1 << 32, -2, -1, 0, 1, 2, 1 << 32, math.MaxInt - 1, math.MaxInt}
}

func aheadByWords(a, b impl.Entry) bool { return a.Prio > b.Prio || a.Prio == b.Prio && a.Seq < b.Seq }

func shelfByWords(list []impl.Entry) bool {
	for i := range list {
		if i > 0 && !aheadByWords(list[i-1], list[i]) {
			return false
		}
	}
	return len(list) <= 80
}

func putByWords(list []impl.Entry, e impl.Entry) []impl.Entry {
	at := slices.IndexFunc(list, func(other impl.Entry) bool { return !aheadByWords(other, e) })
	if at < 0 {
		at = len(list)
	}
	return slices.Concat(list[:at], []impl.Entry{e}, list[at:])
}

func mergedByWords(a, b []impl.Entry) []impl.Entry {
	if len(a)+len(b) > 80 {
		return a
	}
	for _, e := range b {
		a = putByWords(a, e)
	}
	return a
}

// laidEntries lays a list ahead of spare room, in which entries stand that are ahead of all; nil stays nil.
func laidEntries(list []impl.Entry) (given, room []impl.Entry) {
	if list == nil {
		return nil, nil
	}
	room = append(slices.Clone(list), entry(math.MaxInt, 1), entry(math.MaxInt, 2), entry(math.MaxInt, 3))
	return room[:len(list)], room
}

// spoilEntries writes over a list that was answered, and the room behind it, so that whatever shares its memory shows it.
func spoilEntries(list []impl.Entry) {
	full := list[:cap(list)]
	for i := range full {
		full[i] = impl.Entry{Prio: -77, Seq: -77, Run: -77, Task: -77}
	}
}

// wantUntouched asks that a list and its spare room are as they were.
func wantUntouched(t *testing.T, what string, room, before []impl.Entry) {
	t.Helper()
	if !slices.Equal(room, before) {
		t.Errorf("%s: an argument is %v, and was %v", what, room, before)
	}
}

func wantAhead(t *testing.T, a, b impl.Entry, want bool) {
	t.Helper()
	if impl.Ahead(a, b) != want {
		t.Errorf("Ahead(%v, %v) is not %v", a, b, want)
	}
}

func wantShelfOk(t *testing.T, list []impl.Entry, want bool) {
	t.Helper()
	given, room := laidEntries(list)
	before := slices.Clone(room)
	if impl.ShelfOk(given) != want {
		t.Errorf("ShelfOk of %d, %v, is not %v", len(list), list, want)
	}
	wantUntouched(t, "ShelfOk", room, before)
}

func wantPut(t *testing.T, list []impl.Entry, e impl.Entry, want []impl.Entry) {
	t.Helper()
	given, room := laidEntries(list)
	before := slices.Clone(room)
	got := impl.PutEntry(given, e)
	if !slices.Equal(got, want) {
		t.Errorf("PutEntry(%v, %v) is %v, not %v", list, e, got, want)
	}
	wantUntouched(t, "PutEntry", room, before)
	spoilEntries(got)
	wantUntouched(t, "PutEntry's answer written over", room, before)
}

func wantTake(t *testing.T, list []impl.Entry) {
	t.Helper()
	given, room := laidEntries(list)
	before := slices.Clone(room)
	first, rest, ok := impl.TakeEntry(given)
	if len(list) == 0 {
		if ok || len(rest) != 0 || first != (impl.Entry{}) {
			t.Errorf("TakeEntry of none is %v, %v, %v", first, rest, ok)
		}
	} else if !ok || first != list[0] || !slices.Equal(rest, list[1:]) {
		t.Errorf("TakeEntry(%v) is %v, %v, %v", list, first, rest, ok)
	}
	wantUntouched(t, "TakeEntry", room, before)
	spoilEntries(rest)
	wantUntouched(t, "TakeEntry's answer written over", room, before)
}

func wantHalf(t *testing.T, list []impl.Entry) {
	t.Helper()
	given, room := laidEntries(list)
	before := slices.Clone(room)
	many := len(list)/2 + len(list)%2
	first, second := impl.HalfOf(given)
	if !slices.Equal(first, list[:many]) || !slices.Equal(second, list[many:]) {
		t.Errorf("HalfOf(%v) is %v and %v", list, first, second)
		return
	}
	wantUntouched(t, "HalfOf", room, before)
	spoilEntries(first)
	if !slices.Equal(second, list[many:]) {
		t.Errorf("HalfOf(%v): the second one shares the first one's memory", list)
	}
	other, last := impl.HalfOf(given)
	spoilEntries(last)
	if !slices.Equal(other, list[:many]) {
		t.Errorf("HalfOf(%v): the first one shares the second one's memory", list)
	}
	wantUntouched(t, "HalfOf's answers written over", room, before)
}

func wantMerged(t *testing.T, a, b, want []impl.Entry) {
	t.Helper()
	givenA, roomA := laidEntries(a)
	givenB, roomB := laidEntries(b)
	beforeA, beforeB := slices.Clone(roomA), slices.Clone(roomB)
	got := impl.Merged(givenA, givenB)
	if !slices.Equal(got, want) {
		t.Errorf("Merged(%v, %v) is %v, not %v", a, b, got, want)
	}
	wantUntouched(t, "Merged", roomA, beforeA)
	wantUntouched(t, "Merged", roomB, beforeB)
	spoilEntries(got)
	wantUntouched(t, "Merged's answer written over", roomA, beforeA)
	wantUntouched(t, "Merged's answer written over", roomB, beforeB)
}

// wantOneList asks all that the chapter tells of one list, by its words.
func wantOneList(t *testing.T, list []impl.Entry, puts ...impl.Entry) {
	t.Helper()
	wantShelfOk(t, list, shelfByWords(list))
	wantTake(t, list)
	wantHalf(t, list)
	for _, e := range puts {
		wantPut(t, list, e, putByWords(list, e))
	}
}

// wantP8 asks what the promise says of a shelf, by what the program answers alone.
func wantP8(t *testing.T, shelf []impl.Entry) {
	t.Helper()
	if !impl.ShelfOk(shelf) {
		t.Errorf("%v is no shelf", shelf)
		return
	}
	first, second := impl.HalfOf(shelf)
	if !slices.Equal(slices.Concat(first, second), shelf) || !impl.ShelfOk(first) || !impl.ShelfOk(second) {
		t.Errorf("the halves of %v are %v and %v", shelf, first, second)
	}
	if more := len(first) - len(second); more != len(shelf)%2 {
		t.Errorf("of %d entries the first half has %d more", len(shelf), more)
	}
	if got := impl.Merged(first, second); !slices.Equal(got, shelf) {
		t.Errorf("the halves of %v merged are %v", shelf, got)
	}
	if got := impl.Merged(second, first); !slices.Equal(got, shelf) {
		t.Errorf("the halves of %v merged the other way round are %v", shelf, got)
	}
	left := shelf
	for len(left) > 0 {
		top, rest, ok := impl.TakeEntry(left)
		if !ok || !slices.Equal(rest, left[1:]) || !impl.ShelfOk(rest) {
			t.Errorf("%v and %v are taken of %v", top, rest, left)
			return
		}
		for _, e := range rest {
			if !impl.Ahead(top, e) {
				t.Errorf("%v is taken of %v, and is not ahead of %v", top, shelf, e)
			}
		}
		left = rest
	}
}

func TestAheadOfKnownEntries(t *testing.T) {
	for _, c := range []struct {
		a, b impl.Entry
		want bool
	}{
		{entry(2, 5), entry(1, 5), true},
		{entry(2, 9), entry(1, 1), true},
		{entry(1, 1), entry(2, 9), false},
		{entry(2, 4), entry(2, 5), true},
		{entry(2, 5), entry(2, 4), false},
		{entry(2, 5), entry(2, 5), false},
		{impl.Entry{}, impl.Entry{}, false},
		{entry(0, 0), entry(-1, -1), true},
		{entry(-1, -1), entry(0, 0), false},
		{entry(-1, -2), entry(-1, -1), true},
		{entry(math.MaxInt, 0), entry(math.MinInt, 0), true},
		{entry(math.MinInt, 0), entry(math.MaxInt, 0), false},
		{entry(0, math.MinInt), entry(0, math.MaxInt), true},
		{entry(0, math.MaxInt), entry(0, math.MinInt), false},
	} {
		wantAhead(t, c.a, c.b, c.want)
	}
}

// Run and Task say nothing of who is ahead, whichever of two has the greater ones.
func TestAheadAsksNeitherRunNorTask(t *testing.T) {
	for _, run := range edgeInts() {
		for _, task := range edgeInts() {
			for _, c := range []struct {
				prio, seq int
				want      bool
			}{{4, 6, false}, {4, 5, false}, {4, 7, true}, {3, 6, true}, {3, 0, true}, {5, 6, false}, {5, 9, false}} {
				a := impl.Entry{Prio: 4, Seq: 6, Run: run, Task: task}
				wantAhead(t, a, impl.Entry{Prio: c.prio, Seq: c.seq}, c.want)
				wantAhead(t, impl.Entry{Prio: 4, Seq: 6}, impl.Entry{Prio: c.prio, Seq: c.seq, Run: run, Task: task}, c.want)
				wantAhead(t, a, impl.Entry{Prio: c.prio, Seq: c.seq, Run: run, Task: task}, c.want)
			}
		}
	}
}

func TestAheadAtTheEndsOfTheNumbers(t *testing.T) {
	list := []impl.Entry{}
	for _, prio := range edgeInts() {
		for _, seq := range edgeInts() {
			list = append(list, impl.Entry{Prio: prio, Seq: seq})
		}
	}
	for i, a := range list {
		for k, b := range list {
			wantAhead(t, a, b, aheadByWords(a, b))
			if i != k && impl.Ahead(a, b) == impl.Ahead(b, a) {
				t.Errorf("of %v and %v not one is ahead of the other", a, b)
			}
		}
		wantAhead(t, a, a, false)
	}
}

func TestShelfOkOfKnownLists(t *testing.T) {
	a, b, c := entry(5, 2), entry(5, 4), entry(3, 1)
	for _, list := range [][]impl.Entry{nil, {}, {a}, {{}}, {a, b}, {b, c}, {a, b, c}, {entry(0, 0), entry(0, 1)}, {entry(0, 9), entry(-1, -9)}, {entry(math.MaxInt, math.MinInt), entry(math.MaxInt, math.MaxInt), entry(math.MinInt, math.MinInt), entry(math.MinInt, math.MaxInt)}} {
		wantShelfOk(t, list, true)
	}
	for _, list := range [][]impl.Entry{{b, a}, {c, a}, {a, a}, {a, b, b}, {a, a, b}, {a, c, b}, {b, a, c}, {c, b, a}, {a, b, c, c}, {{}, {}}, {a, {Prio: 5, Seq: 2, Run: 9, Task: 9}}} {
		wantShelfOk(t, list, false)
	}
}

func TestShelfOkAtTheLimit(t *testing.T) {
	for many := range 80 {
		wantShelfOk(t, rowOf(many), true)
	}
	full := rowOf(80)
	wantShelfOk(t, full, true)
	wantShelfOk(t, rowOf(81), false)
	wantShelfOk(t, rowOf(82), false)
	wantShelfOk(t, rowOf(1000), false)
	for i := 1; i < 80; i++ {
		turned := slices.Clone(full)
		turned[i-1], turned[i] = turned[i], turned[i-1]
		wantShelfOk(t, turned, false)
		twice := slices.Clone(full)
		twice[i] = twice[i-1]
		wantShelfOk(t, twice, false)
	}
}

func TestPutIntoKnownShelves(t *testing.T) {
	a, b, c := entry(5, 2), entry(5, 4), entry(3, 1)
	for _, list := range [][]impl.Entry{nil, {}} {
		wantPut(t, list, a, []impl.Entry{a})
		wantPut(t, list, impl.Entry{}, []impl.Entry{{}})
	}
	shelf := []impl.Entry{a, b, c}
	for _, x := range []struct {
		e  impl.Entry
		at int
	}{
		{entry(9, 9), 0}, {entry(5, 1), 0}, {entry(5, 3), 1}, {entry(5, 5), 2}, {entry(4, 0), 2}, {entry(3, 0), 2}, {entry(3, 2), 3}, {entry(0, 0), 3},
		{entry(-1, -1), 3}, {entry(math.MaxInt, math.MaxInt), 0}, {entry(5, math.MinInt), 0}, {entry(5, math.MaxInt), 2}, {entry(math.MinInt, math.MinInt), 3},
	} {
		wantPut(t, shelf, x.e, slices.Insert(slices.Clone(shelf), x.at, x.e))
		if got := impl.PutEntry(shelf, x.e); !impl.ShelfOk(got) {
			t.Errorf("%v put into %v is no shelf: %v", x.e, shelf, got)
		}
	}
}

// One that is put stands ahead of its equal; which of them it is, Run and Task show.
func TestPutOfEqualUrgency(t *testing.T) {
	a, b, c := entry(5, 2), entry(5, 4), entry(3, 1)
	shelf := []impl.Entry{a, b, c}
	for at, old := range shelf {
		for _, e := range []impl.Entry{old, {Prio: old.Prio, Seq: old.Seq, Run: 99, Task: 98}, {Prio: old.Prio, Seq: old.Seq, Run: -99, Task: -98}} {
			want := slices.Insert(slices.Clone(shelf), at, e)
			wantPut(t, shelf, e, want)
			wantShelfOk(t, want, false)
			again := impl.Entry{Prio: old.Prio, Seq: old.Seq, Run: 1000}
			wantPut(t, want, again, slices.Insert(slices.Clone(want), at, again))
		}
	}
	line := []impl.Entry{}
	for run := range 80 {
		e := impl.Entry{Prio: 1, Seq: 1, Run: run}
		line = append([]impl.Entry{e}, line...)
		wantPut(t, line[1:], e, line)
	}
}

// PutEntry names no limit: a list that is full, or longer, takes one more.
func TestPutIntoFullLists(t *testing.T) {
	for _, many := range []int{79, 80, 81, 200} {
		row := rowOf(many)
		for _, e := range []impl.Entry{entry(-1, 0), entry(1000, 0), {Prio: row[40].Prio, Seq: row[40].Seq, Run: 77}, {Prio: row[40].Prio, Seq: row[40].Seq + 1}} {
			wantPut(t, row, e, putByWords(row, e))
			if got := impl.PutEntry(row, e); len(got) != many+1 {
				t.Errorf("%d and one more are %d", many, len(got))
			}
		}
		wantTake(t, row)
		wantHalf(t, row)
	}
}

// A shelf that is not full stays one by each entry with a Seq of its own, wherever that stands.
func TestPutKeepsAShelf(t *testing.T) {
	for _, many := range []int{0, 1, 2, 3, 10, 78, 79} {
		shelf := rowOf(many)
		for i := range shelf {
			shelf[i].Seq *= 2
		}
		for prio := -1; prio <= many/3+1; prio++ {
			for seq := -1; seq <= 5*many+5; seq += 2 {
				got := impl.PutEntry(shelf, entry(prio, seq))
				if !impl.ShelfOk(got) || len(got) != many+1 || !slices.Contains(got, entry(prio, seq)) {
					t.Errorf("%v put into %v is %v", entry(prio, seq), shelf, got)
				}
			}
		}
	}
}

func TestTakeOfKnownLists(t *testing.T) {
	a, b, c := entry(5, 2), entry(5, 4), entry(3, 1)
	for _, list := range [][]impl.Entry{nil, {}, {a}, {a, b}, {a, b, c}, {c, b, a}, {b, a, c}, {a, a}, {a, a, b}, {{}}, {{}, {}}, {{}, a}} {
		wantTake(t, list)
	}
	if _, rest, ok := impl.TakeEntry([]impl.Entry{{}}); !ok || len(rest) != 0 {
		t.Error("one that is zero is one")
	}
}

func TestHalfOfKnownLists(t *testing.T) {
	a, b, c, d := entry(5, 2), entry(5, 4), entry(3, 1), entry(1, 1)
	for _, x := range []struct{ list, first, second []impl.Entry }{
		{nil, nil, nil},
		{[]impl.Entry{}, nil, nil},
		{[]impl.Entry{a}, []impl.Entry{a}, nil},
		{[]impl.Entry{a, b}, []impl.Entry{a}, []impl.Entry{b}},
		{[]impl.Entry{a, b, c}, []impl.Entry{a, b}, []impl.Entry{c}},
		{[]impl.Entry{a, b, c, d}, []impl.Entry{a, b}, []impl.Entry{c, d}},
		{[]impl.Entry{d, a, c}, []impl.Entry{d, a}, []impl.Entry{c}},
		{[]impl.Entry{b, b, a, a}, []impl.Entry{b, b}, []impl.Entry{a, a}},
	} {
		first, second := impl.HalfOf(x.list)
		if !slices.Equal(first, x.first) || !slices.Equal(second, x.second) {
			t.Errorf("HalfOf(%v) is %v and %v", x.list, first, second)
		}
		wantHalf(t, x.list)
	}
	for many := range 200 {
		wantHalf(t, rowOf(many))
		first, second := impl.HalfOf(rowOf(many))
		if len(first) != (many+1)/2 || len(second) != many/2 {
			t.Errorf("the halves of %d have %d and %d", many, len(first), len(second))
		}
	}
}

func TestMergedOfKnownShelves(t *testing.T) {
	a, b, c, d := entry(5, 2), entry(5, 4), entry(3, 1), entry(1, 1)
	for _, x := range []struct{ a, b, want []impl.Entry }{
		{nil, nil, nil},
		{[]impl.Entry{}, nil, nil},
		{[]impl.Entry{a, b}, nil, []impl.Entry{a, b}},
		{nil, []impl.Entry{a, b}, []impl.Entry{a, b}},
		{[]impl.Entry{a, c}, []impl.Entry{b, d}, []impl.Entry{a, b, c, d}},
		{[]impl.Entry{b, d}, []impl.Entry{a, c}, []impl.Entry{a, b, c, d}},
		{[]impl.Entry{c, d}, []impl.Entry{a, b}, []impl.Entry{a, b, c, d}},
		{[]impl.Entry{a, b}, []impl.Entry{c, d}, []impl.Entry{a, b, c, d}},
		{[]impl.Entry{a}, []impl.Entry{a}, []impl.Entry{a, a}},
	} {
		wantMerged(t, x.a, x.b, x.want)
	}
}

// Of equals each that is put stands ahead of those that were there: b's come first, the last one of them at the top.
func TestMergedOfEqualUrgency(t *testing.T) {
	of := func(runs ...int) []impl.Entry {
		list := []impl.Entry{}
		for _, run := range runs {
			list = append(list, impl.Entry{Prio: 2, Seq: 7, Run: run})
		}
		return list
	}
	wantMerged(t, of(1), of(2), of(2, 1))
	wantMerged(t, of(2), of(1), of(1, 2))
	wantMerged(t, of(1, 2), of(3, 4, 5), of(5, 4, 3, 1, 2))
	wantMerged(t, nil, of(1, 2, 3), of(3, 2, 1))
	wantMerged(t, of(1, 2, 3), nil, of(1, 2, 3))
	high, low := entry(9, 1), entry(0, 1)
	wantMerged(t, slices.Concat([]impl.Entry{high}, of(1), []impl.Entry{low}), of(2), slices.Concat([]impl.Entry{high}, of(2, 1), []impl.Entry{low}))
}

// Nothing is sorted anew: of lists that are not in order, what is put still looks for the first that is not ahead.
func TestMergedOfListsThatAreNotInOrder(t *testing.T) {
	one, two, three, four := entry(1, 1), entry(2, 2), entry(3, 3), entry(4, 4)
	wantMerged(t, []impl.Entry{one, four}, []impl.Entry{two, three}, []impl.Entry{three, two, one, four})
	wantMerged(t, []impl.Entry{four, one, three}, []impl.Entry{two}, []impl.Entry{four, two, one, three})
	wantMerged(t, nil, []impl.Entry{one, two, four, three}, []impl.Entry{four, three, two, one})
	wantMerged(t, []impl.Entry{one, two, three}, nil, []impl.Entry{one, two, three})
	wantMerged(t, []impl.Entry{one, three}, []impl.Entry{{}}, []impl.Entry{one, three, {}})
	wantPut(t, []impl.Entry{one, four, two}, three, []impl.Entry{three, one, four, two})
	wantPut(t, []impl.Entry{four, one, four}, three, []impl.Entry{four, three, one, four})
	wantPut(t, []impl.Entry{three, four, one, two}, two, []impl.Entry{three, four, two, one, two})
	// A list that is halved at each look would be led to the wrong end here.
	wantPut(t, []impl.Entry{one, four, four, four, four, four, four}, three, []impl.Entry{three, one, four, four, four, four, four, four})
}

func TestMergedAtTheLimit(t *testing.T) {
	full := rowOf(80)
	for many := range 81 {
		a, b := full[:many], full[many:]
		wantMerged(t, a, b, full)
		wantMerged(t, b, a, full)
		for _, more := range []impl.Entry{full[0], full[79], entry(-1, 0), entry(1000, 0)} {
			wantMerged(t, a, append(slices.Clone(b), more), a)
			wantMerged(t, append(slices.Clone(b), more), a, append(slices.Clone(b), more))
			wantMerged(t, append(slices.Clone(a), more), b, append(slices.Clone(a), more))
		}
	}
	long := rowOf(81)
	wantMerged(t, long, nil, long)
	wantMerged(t, nil, long, nil)
	wantMerged(t, rowOf(1), rowOf(200), rowOf(1))
	wantMerged(t, rowOf(200), rowOf(200), rowOf(200))
	back := slices.Clone(long)
	slices.Reverse(back)
	wantMerged(t, back, full, back)
	wantMerged(t, back[:40], full[:40], mergedByWords(back[:40], full[:40]))
	wantMerged(t, back[:40], full[:41], back[:40])
}

// All lists of up to four of some entries, two of which are as urgent, in order or not; and all pairs of the shorter ones.
func TestShelvesOfAllShortLists(t *testing.T) {
	some := []impl.Entry{{Prio: 1, Seq: 1, Run: 1}, {Prio: 1, Seq: 1, Run: 2}, {Prio: 1, Seq: 2}, {Prio: 0, Seq: 1}, {Prio: 2, Seq: 3}}
	lists, short := [][]impl.Entry{{}}, 0
	for i := 0; i < len(lists); i++ {
		if len(lists[i]) < 3 {
			short = i + 1
		}
		for k := 0; len(lists[i]) < 4 && k < len(some); k++ {
			lists = append(lists, append(slices.Clone(lists[i]), some[k]))
		}
	}
	for _, list := range lists {
		wantOneList(t, list, some...)
		if shelfByWords(list) {
			wantP8(t, list)
		}
	}
	for _, a := range lists[:short] {
		for _, b := range lists[:short] {
			wantMerged(t, a, b, mergedByWords(a, b))
		}
	}
}

func TestPromiseOfShelvesOfEachLength(t *testing.T) {
	for many := range 81 {
		row := rowOf(many)
		wantP8(t, row)
		for i := range row {
			row[i].Seq -= 1000
			row[i].Prio -= 10
			row[i].Run, row[i].Task = 4, 4
		}
		wantP8(t, row)
		same := []impl.Entry{}
		for i := range many {
			same = append(same, impl.Entry{Seq: i - 40})
		}
		wantP8(t, same)
	}
	ends := []impl.Entry{}
	for _, prio := range edgeInts()[:7] {
		for _, seq := range edgeInts() {
			ends = append([]impl.Entry{{Prio: prio, Seq: -1 - seq}}, ends...)
		}
	}
	wantP8(t, ends)
}

// Shelves that are filled and emptied by a fixed rule: what is put in whatever order comes out in one.
func TestPromiseOfShelves(t *testing.T) {
	seed := 11
	next := func(below int) int {
		seed = (seed*1103515245 + 12345) % (1 << 31)
		return seed >> 8 % below
	}
	for range 300 {
		shelf, many := []impl.Entry{}, next(81)
		seqs := upTo(many)
		for i := range seqs {
			k := next(i + 1)
			seqs[i], seqs[k] = seqs[k], seqs[i]
		}
		for _, seq := range seqs {
			e := impl.Entry{Prio: next(10), Seq: seq, Run: next(3), Task: next(3)}
			wantPut(t, shelf, e, putByWords(shelf, e))
			shelf = impl.PutEntry(shelf, e)
		}
		wantP8(t, shelf)
		// Every second one, or another share, and the others: merged, they are the shelf again, in either order.
		some, others := []impl.Entry{}, []impl.Entry{}
		for _, e := range shelf {
			if next(3) == 0 {
				some = append(some, e)
			} else {
				others = append(others, e)
			}
		}
		wantMerged(t, some, others, shelf)
		wantMerged(t, others, some, shelf)
	}
}

// Lists of all kinds, put there by a fixed rule: few numbers, so that many are as urgent as others.
func TestShelvesOfListsInNoOrder(t *testing.T) {
	seed := 5
	next := func(below int) int {
		seed = (seed*1103515245 + 12345) % (1 << 31)
		return seed >> 8 % below
	}
	list := func(many int) []impl.Entry {
		row := []impl.Entry{}
		for i := range many {
			row = append(row, impl.Entry{Prio: next(3) - 1, Seq: next(4) - 1, Run: i, Task: next(2)})
		}
		return row
	}
	for range 400 {
		a, b := list(next(50)), list(next(50))
		wantOneList(t, a, list(3)...)
		wantMerged(t, a, b, mergedByWords(a, b))
		wantMerged(t, b, a, mergedByWords(b, a))
		wantMerged(t, a, a, mergedByWords(a, a))
	}
}

// Two arguments that are pieces of one list are still not written into.
func TestMergedOfPiecesOfOneList(t *testing.T) {
	whole := rowOf(20)
	before := slices.Clone(whole)
	for at := range 21 {
		if got := impl.Merged(whole[:at], whole[at:]); !slices.Equal(got, before) {
			t.Errorf("Merged at %d is %v", at, got)
		}
		if got := impl.Merged(whole[at:], whole[:at]); !slices.Equal(got, before) {
			t.Errorf("Merged the other way round at %d is %v", at, got)
		}
		wantUntouched(t, "Merged", whole, before)
	}
	got := impl.PutEntry(whole[:0], whole[5])
	if len(got) != 1 || got[0] != before[5] {
		t.Errorf("PutEntry into an empty beginning is %v", got)
	}
	wantUntouched(t, "PutEntry", whole, before)
}
