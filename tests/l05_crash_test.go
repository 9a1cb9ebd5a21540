package tests

import (
	"fmt"
	"math"
	"slices"
	"strings"
	"testing"

	"loop.example/g00965/impl"
)

var (
	_ func(impl.Disk, []int) impl.Disk = impl.Crashed
	_ func(impl.Disk, impl.Disk) bool  = impl.MayBe
	_ func(impl.Disk) bool             = impl.AllSafe
)

// wantCrashed asks for what is left, and that neither the disk nor keep is touched; the spare room behind keep would keep all.
func wantCrashed(t *testing.T, d impl.Disk, keep []int, want impl.Disk) {
	t.Helper()
	room := append(slices.Clone(keep), 99999, 99999, 99999, 99999, 99999)
	before := slices.Clone(room)
	given := room[:len(keep)]
	if keep == nil {
		given = nil
	}
	crash := change{fmt.Sprintf("Crashed by %v", keep), nil, func(d impl.Disk) (impl.Disk, bool) { return impl.Crashed(d, given), true }}
	wantChange(t, d, crash, want, true)
	if !slices.Equal(room, before) {
		t.Errorf("%s of %s wrote into keep", crash.what, tellDisk(d))
	}
}

// wantMayBe asks that nothing is written into either disk, too.
func wantMayBe(t *testing.T, d, left impl.Disk, want bool) {
	t.Helper()
	givenDisk, room := laid(d)
	givenLeft, leftRoom := laid(left)
	before, leftBefore := slices.Clone(room), slices.Clone(leftRoom)
	if impl.MayBe(givenDisk, givenLeft) != want {
		t.Errorf("MayBe(%s, %s) is not %v", tellDisk(d), tellDisk(left), want)
	}
	if !slices.Equal(room, before) || !slices.Equal(leftRoom, leftBefore) {
		t.Errorf("MayBe(%s, %s) wrote into what it was given", tellDisk(d), tellDisk(left))
	}
}

func wantAllSafe(t *testing.T, d impl.Disk, want bool) {
	t.Helper()
	given, room := laid(d)
	before := slices.Clone(room)
	if impl.AllSafe(given) != want {
		t.Errorf("AllSafe(%s) is not %v", tellDisk(d), want)
	}
	if !slices.Equal(room, before) {
		t.Errorf("AllSafe(%s) wrote into what it was given", tellDisk(d))
	}
}

// leftByWords says the chapter again, byte by byte.
func leftByWords(d impl.Disk, keep []int) impl.Disk {
	if !okByWords(d) {
		return d
	}
	left := impl.Disk{}
	for i, f := range d.Files {
		many := f.Safe
		for i < len(keep) && many < len(f.Data) && many-f.Safe < keep[i] {
			many++
		}
		left.Files = append(left.Files, file(f.Name, f.Data[:many], many))
	}
	return left
}

// keepsUpTo tells all lists of at most so many numbers in least .. most.
func keepsUpTo(many, least, most int) [][]int {
	all, last := [][]int{{}}, [][]int{{}}
	for range many {
		var next [][]int
		for _, keep := range last {
			for n := least; n <= most; n++ {
				next = append(next, append(slices.Clone(keep), n))
			}
		}
		all, last = append(all, next...), next
	}
	return all
}

// mayBeByWords tries each keep that makes a difference.
func mayBeByWords(d, left impl.Disk) bool {
	longest := 0
	for _, f := range d.Files {
		longest = max(longest, len(f.Data))
	}
	return okByWords(d) && slices.ContainsFunc(keepsUpTo(len(d.Files), 0, longest), func(keep []int) bool {
		return slices.Equal(leftByWords(d, keep).Files, left.Files)
	})
}

// wantPromise asks what P5 says of a right disk and of any keep.
func wantPromise(t *testing.T, d impl.Disk, keep []int) {
	t.Helper()
	left := impl.Crashed(d, keep)
	if len(left.Files) != len(d.Files) {
		t.Fatalf("%d files are left of %d", len(left.Files), len(d.Files))
	}
	for i, f := range left.Files {
		whole := d.Files[i]
		if f.Name != whole.Name || !strings.HasPrefix(whole.Data, f.Data) || !strings.HasPrefix(f.Data, whole.Data[:whole.Safe]) || f.Safe != len(f.Data) {
			t.Errorf("by %v %s is left of %s", keep, tellDisk(disk(f)), tellDisk(disk(whole)))
		}
	}
	if !impl.DiskOk(left) {
		t.Errorf("by %v what is left of %s is not right", keep, tellDisk(d))
	}
	wantAllSafe(t, left, true)
	wantMayBe(t, d, left, true)
	for _, again := range [][]int{nil, keep, {5, 5, 5, 5}, {-1, -1, -1, -1}} {
		wantCrashed(t, left, again, left)
	}
}

// farKeeps tells numbers that are far from all that a file can keep.
func farKeeps() []int {
	return []int{math.MinInt, math.MinInt + 1, -1 << 32, -60001, -1, 60001, 1 << 31, 1 << 32, 1<<32 + 1, math.MaxInt - 60000, math.MaxInt - 1, math.MaxInt}
}

func TestCrashedOfKnownDisks(t *testing.T) {
	for _, c := range []struct {
		keep []int
		want impl.Disk
	}{
		{nil, disk(file("log", "", 0), file("mark", "defg", 4), file("old", "", 0), file("x", "h", 1))},
		{[]int{}, disk(file("log", "", 0), file("mark", "defg", 4), file("old", "", 0), file("x", "h", 1))},
		{[]int{2}, disk(file("log", "ab", 2), file("mark", "defg", 4), file("old", "", 0), file("x", "h", 1))},
		{[]int{3, 1, 1}, disk(file("log", "abc", 3), file("mark", "defg", 4), file("old", "", 0), file("x", "h", 1))},
		{[]int{0, 0, 0, 1}, disk(file("log", "", 0), file("mark", "defg", 4), file("old", "", 0), file("x", "hi", 2))},
		{[]int{1, -4, -1, -1}, disk(file("log", "a", 1), file("mark", "defg", 4), file("old", "", 0), file("x", "h", 1))},
		{[]int{4, 4, 4, 4}, disk(file("log", "abc", 3), file("mark", "defg", 4), file("old", "", 0), file("x", "hi", 2))},
		{[]int{1, 0, 0, 0, 9, 9}, disk(file("log", "a", 1), file("mark", "defg", 4), file("old", "", 0), file("x", "h", 1))},
	} {
		wantCrashed(t, fourFiles(), c.keep, c.want)
		wantPromise(t, fourFiles(), c.keep)
	}
}

// Each place of keep tells of the file at the same place, and of no other.
func TestCrashedKeepsPlaceByPlace(t *testing.T) {
	d := disk(file("a", "0123", 1), file("b", "4567", 1), file("c", "89ab", 1), file("d", "cdef", 1))
	for place := range d.Files {
		keep := make([]int, len(d.Files))
		keep[place] = 2
		want := disk(file("a", "0", 1), file("b", "4", 1), file("c", "8", 1), file("d", "c", 1))
		want.Files[place] = file(d.Files[place].Name, d.Files[place].Data[:3], 3)
		wantCrashed(t, d, keep, want)
		wantCrashed(t, d, keep[:place+1], want)
	}
}

func TestCrashedOfEachKeep(t *testing.T) {
	for length := range 6 {
		for safe := range length + 1 {
			d := disk(file("a", bodyOf(length), safe))
			for keep := -3; keep <= length+3; keep++ {
				many := min(max(safe, safe+keep), length)
				wantCrashed(t, d, []int{keep}, disk(file("a", bodyOf(many), many)))
				wantPromise(t, d, []int{keep})
			}
		}
	}
}

func TestCrashedOfFarKeeps(t *testing.T) {
	for _, length := range []int{0, 1, 5, 60000} {
		for _, safe := range []int{0, length / 2, length} {
			d := disk(file("a", bodyOf(length), safe), file("b", "xy", 1))
			for _, keep := range farKeeps() {
				many := safe
				if keep > 0 {
					many = length
				}
				wantCrashed(t, d, []int{keep}, disk(file("a", bodyOf(many), many), file("b", "x", 1)))
				wantCrashed(t, d, []int{keep, 1}, disk(file("a", bodyOf(many), many), file("b", "xy", 2)))
			}
		}
	}
}

func TestCrashedOfKeepsThatAreTooShortOrTooLong(t *testing.T) {
	for many := range 8 {
		want := fourFiles()
		for i, f := range want.Files {
			left := f.Safe
			if i < many {
				left = len(f.Data)
			}
			want.Files[i] = file(f.Name, f.Data[:left], left)
		}
		wantCrashed(t, fourFiles(), slices.Repeat([]int{9}, many), want)
	}
	wantCrashed(t, disk(file("a", "xy", 1)), make([]int, 100000), disk(file("a", "x", 1)))
}

func TestCrashedOfFullFiles(t *testing.T) {
	for _, safe := range []int{0, 1, 30000, 59999, 60000} {
		d := disk(file("a", "x", 0), file("b", bodyOf(60000), safe))
		rest := 60000 - safe
		for _, keep := range []int{-1, 0, 1, rest - 1, rest, rest + 1, 60000} {
			many := safe + min(max(keep, 0), rest)
			wantCrashed(t, d, []int{0, keep}, disk(file("a", "", 0), file("b", bodyOf(many), many)))
		}
	}
}

func TestCrashedOfNoFile(t *testing.T) {
	for _, keep := range [][]int{nil, {}, {0}, {1}, {math.MaxInt, math.MinInt}} {
		wantCrashed(t, impl.Disk{}, keep, impl.Disk{})
		wantCrashed(t, disk(), keep, impl.Disk{})
		wantPromise(t, disk(), keep)
	}
}

func TestCrashedOfWrongDisks(t *testing.T) {
	for _, d := range wrongDisks() {
		for _, keep := range [][]int{nil, {}, {0, 0, 0, 0, 0}, {1, 1, 1, 1, 1}, {99999, 99999}, {math.MinInt, math.MaxInt}} {
			wantCrashed(t, d, keep, d)
			wantMayBe(t, d, impl.Crashed(d, keep), false)
		}
	}
	many := disk(slices.Repeat([]impl.File{file("a", "xy", 1)}, 1000)...)
	wantCrashed(t, many, make([]int, 1000), many)
}

// shortest leaves of each file what is safe of it, as far as that can be said, whether the disk is right or not.
func shortest(d impl.Disk) impl.Disk {
	left := impl.Disk{}
	for _, f := range d.Files {
		many := min(max(f.Safe, 0), len(f.Data))
		left.Files = append(left.Files, file(f.Name, f.Data[:many], many))
	}
	return left
}

func TestMayBeOfWrongDisks(t *testing.T) {
	for _, d := range wrongDisks() {
		wantMayBe(t, d, d, false)
		wantMayBe(t, d, shortest(d), false)
		wantMayBe(t, d, impl.Disk{}, false)
		wantMayBe(t, impl.Disk{}, d, false)
		wantMayBe(t, shortest(d), d, false)
	}
}

func TestMayBeOfEachBeginning(t *testing.T) {
	data := "abcde"
	for safe := range len(data) + 1 {
		d := disk(file("x", "first", 5), file("log", data, safe))
		for many := range len(data) + 1 {
			for leftSafe := -1; leftSafe <= len(data)+1; leftSafe++ {
				left := disk(file("x", "first", 5), file("log", data[:many], leftSafe))
				wantMayBe(t, d, left, many >= safe && leftSafe == many)
			}
		}
		wantMayBe(t, d, disk(file("x", "first", 5), file("log", data+"f", 6)), false)
		wantMayBe(t, d, disk(file("x", "first", 5), file("log", data+"\x00", 6)), false)
		wantMayBe(t, d, disk(file("x", "first", 5), file("log", data[1:], 4)), false)
		wantMayBe(t, d, disk(file("x", "first", 5), file("log", data, math.MinInt)), false)
		wantMayBe(t, d, disk(file("x", "first", 5), file("log", data, math.MaxInt)), false)
	}
}

func TestMayBeOfFullFiles(t *testing.T) {
	full := bodyOf(60000)
	d := disk(file("a", full, 30000))
	for _, many := range []int{0, 29999, 30000, 30001, 59999, 60000} {
		wantMayBe(t, d, disk(file("a", full[:many], many)), many >= 30000)
	}
	wantMayBe(t, d, disk(file("a", bodyOf(60001), 60001)), false)
	wantMayBe(t, d, disk(file("a", bodyOf(1000000), 1000000)), false)
}

func TestMayBeOfOneByteTurned(t *testing.T) {
	data := "abcde"
	for place := range len(data) {
		for _, bit := range []byte{1, 16, 128} {
			turned := []byte(data)
			turned[place] ^= bit
			for many := range len(data) + 1 {
				left := disk(file("a", string(turned[:many]), many))
				wantMayBe(t, disk(file("a", data, 0)), left, many <= place)
			}
		}
	}
}

func TestMayBeOfOtherFiles(t *testing.T) {
	a, b, c := file("a", "xyz", 3), file("b", "xyz", 3), file("c", "", 0)
	d := disk(a, b, c)
	wantMayBe(t, d, disk(a, b, c), true)
	for _, left := range []impl.Disk{
		{}, disk(), disk(a), disk(a, b), disk(b, c), disk(a, c), // fewer
		disk(a, b, c, file("d", "", 0)), disk(file("d", "", 0), a, b, c), disk(a, b, c, c), // more
		disk(b, a, c), disk(a, c, b), disk(c, b, a), disk(b, c, a), // in another order
		disk(a, a, c), disk(b, b, c), disk(a, b, b), // one in another one's place
		disk(a, b, file("C", "", 0)), disk(a, b, file("", "", 0)), disk(a, b, file("cc", "", 0)), // with another Name
		disk(file("a", "yz", 2), b, c), disk(file("a", "Xyz", 3), b, c), disk(a, file("b", "z", 1), c), disk(a, b, file("c", "x", 1)), // with other Data
		disk(file("a", "xyz", 2), b, c), disk(a, file("b", "xyz", 0), c), disk(a, b, file("c", "", 1)), disk(a, b, file("c", "", -1)), // with another Safe
	} {
		wantMayBe(t, d, left, false)
		wantMayBe(t, disk(file("a", "xyz", 0), file("b", "xyz", 0), c), left, false)
	}
	wantMayBe(t, disk(), disk(), true)
	wantMayBe(t, impl.Disk{}, disk(), true)
	wantMayBe(t, disk(), disk(c), false)
}

func TestAllSafe(t *testing.T) {
	for _, d := range []impl.Disk{
		{}, disk(),
		disk(file("a", "", 0)),
		disk(file("a", "xyz", 3), file("b", "", 0), file("c", "\x00", 1)),
		disk(file("a", bodyOf(60000), 60000)),
	} {
		wantAllSafe(t, d, true)
		for i, f := range d.Files {
			for _, safe := range append(wrongPlaces(len(f.Data)+1), 0, 1, len(f.Data)/2, len(f.Data)-1) {
				wantAllSafe(t, replaced(d, i, file(f.Name, f.Data, safe)), safe == len(f.Data))
			}
		}
	}
	wantAllSafe(t, fourFiles(), false)
}

// Whether the disk is right is not asked, but of each file whether all of it is safe.
func TestAllSafeOfWrongDisks(t *testing.T) {
	for _, d := range wrongDisks() {
		all := true
		for i, f := range d.Files {
			all = all && f.Safe == len(f.Data)
			wantAllSafe(t, disk(d.Files[:i+1]...), all)
		}
		for i, f := range d.Files {
			d.Files[i].Safe = len(f.Data)
		}
		wantAllSafe(t, d, true)
	}
	wantAllSafe(t, disk(slices.Repeat([]impl.File{file("", "xy", 2)}, 1000)...), true)
}

func TestAllSafeOfSyncedFiles(t *testing.T) {
	d := fourFiles()
	for _, f := range fourFiles().Files {
		wantAllSafe(t, d, false)
		d = mustChange(t, d, syncs(f.Name))
	}
	wantAllSafe(t, d, true)
	wantMayBe(t, fourFiles(), d, true)
	wantAllSafe(t, mustChange(t, d, write("old", "x")), false)
	wantAllSafe(t, mustChange(t, d, write("old", "")), true)
}

func TestAllSmallDisksWhenThePowerGoes(t *testing.T) {
	disks := smallDisks([]string{"", "a", "b"}, []string{"", "xy"}, []int{-1, 0, 1, 2, 3}, 2)
	for _, d := range disks {
		for _, keep := range keepsUpTo(3, -1, 3) {
			wantCrashed(t, d, keep, leftByWords(d, keep))
		}
		wantAllSafe(t, d, !slices.ContainsFunc(d.Files, func(f impl.File) bool { return f.Safe != len(f.Data) }))
	}
}

func TestAllSmallDisksThatMayBeLeft(t *testing.T) {
	whole := smallDisks([]string{"a", "b"}, []string{"", "xy"}, []int{-1, 0, 1, 2, 3}, 2)
	lefts := smallDisks([]string{"a", "b"}, []string{"", "x", "y", "xy"}, []int{0, 1, 2}, 2)
	for _, d := range whole {
		for _, left := range lefts {
			wantMayBe(t, d, left, mayBeByWords(d, left))
		}
	}
}

// A log is written record by record, and the power goes behind each: what was synced is there, and of the rest a beginning.
func TestPromiseOfCrashes(t *testing.T) {
	d := disk(file("mark", "the old one", 11))
	written, synced := []string{}, 0
	for i, body := range bodies() {
		d = mustChange(t, d, write("log", frameByWords(body)))
		written = append(written, body)
		if i%3 == 1 {
			d = mustChange(t, d, syncs("log"))
			synced = len(written)
		}
		for _, keep := range []int{math.MinInt, 0, 1, 6, 7, 200, 405, 406, 407, math.MaxInt} {
			wantPromise(t, d, []int{3, keep})
			left, _ := scanByWords(impl.ReadFile(impl.Crashed(d, []int{3, keep}), "log"))
			if len(left) < synced || !slices.Equal(left, written[:len(left)]) {
				t.Fatalf("by %d of %d records, %d of them safe, %d are left", keep, len(written), synced, len(left))
			}
		}
	}
	d = mustChange(t, impl.Crashed(d, []int{0, 300}), write("log", "behind it"))
	wantAllSafe(t, d, false)
	wantPromise(t, d, nil)
}
