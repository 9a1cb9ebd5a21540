package tests

import (
	"fmt"
	"math"
	"slices"
	"strings"
	"testing"

	"loop.example/g00965/impl"
)

var (
	_ func(impl.Disk) bool                              = impl.DiskOk
	_ func(impl.Disk, string) string                    = impl.ReadFile
	_ func(impl.Disk, string, string) (impl.Disk, bool) = impl.WriteFile
	_ func(impl.Disk, string) (impl.Disk, bool)         = impl.SyncFile
	_ func(impl.Disk, string, int) (impl.Disk, bool)    = impl.CutFile
	_ func(impl.Disk, string, string) (impl.Disk, bool) = impl.MoveFile
)

const (
	tenBytes    = "ten bytes."
	elevenBytes = "one more..."
	tenInRunes  = "\u00e9\u00e9\u00e9\u00e9\u00e9"
	moreInRunes = tenInRunes + "\u00e9"
)

func disk(files ...impl.File) impl.Disk { return impl.Disk{Files: files} }

func file(name, data string, safe int) impl.File {
	return impl.File{Name: name, Data: data, Safe: safe}
}

// change is one call that makes a disk of another one; texts are what it is given besides.
type change struct {
	what  string
	texts []string
	do    func(impl.Disk) (impl.Disk, bool)
}

func write(name, more string) change {
	name, more = strings.Clone(name), strings.Clone(more)
	return change{fmt.Sprintf("WriteFile %.20q, %.20q", name, more), []string{name, more}, func(d impl.Disk) (impl.Disk, bool) { return impl.WriteFile(d, name, more) }}
}

func syncs(name string) change {
	return change{fmt.Sprintf("SyncFile %.20q", name), nil, func(d impl.Disk) (impl.Disk, bool) { return impl.SyncFile(d, name) }}
}

func cut(name string, many int) change {
	return change{fmt.Sprintf("CutFile %.20q, %d", name, many), nil, func(d impl.Disk) (impl.Disk, bool) { return impl.CutFile(d, name, many) }}
}

func move(from, to string) change {
	to = strings.Clone(to)
	return change{fmt.Sprintf("MoveFile %.20q, %.20q", from, to), []string{to}, func(d impl.Disk) (impl.Disk, bool) { return impl.MoveFile(d, from, to) }}
}

// changesOf tells calls of each kind that a right disk with this file would take.
func changesOf(f impl.File) []change {
	return []change{write(f.Name, "x"), write(f.Name, ""), write("new", "x"), syncs(f.Name), cut(f.Name, 0), cut(f.Name, len(f.Data)), move(f.Name, "new")}
}

// laid lays a disk's files, their texts copied, ahead of spare room in one list.
func laid(d impl.Disk) (impl.Disk, []impl.File) {
	room := make([]impl.File, 0, len(d.Files)+3)
	for _, f := range d.Files {
		room = append(room, file(strings.Clone(f.Name), strings.Clone(f.Data), f.Safe))
	}
	for len(room) < cap(room) {
		room = append(room, file("spare", "spare room", 3))
	}
	return impl.Disk{Files: room[:len(d.Files)]}, room
}

func tellDisk(d impl.Disk) string {
	all := []string{}
	for _, f := range d.Files {
		all = append(all, fmt.Sprintf("%.20q: %.20q of %d bytes, %d safe", f.Name, f.Data, len(f.Data), f.Safe))
	}
	return "[" + strings.Join(all, "; ") + "]"
}

// wantChange asks for the answer, and that neither it nor a later change of it touches what was handed in.
func wantChange(t *testing.T, d impl.Disk, c change, want impl.Disk, wantOk bool) {
	t.Helper()
	given, room := laid(d)
	before := slices.Clone(room)
	got, ok := c.do(given)
	if !slices.Equal(got.Files, want.Files) || ok != wantOk {
		t.Errorf("%s of %s = %s, %v, not %s, %v", c.what, tellDisk(d), tellDisk(got), ok, tellDisk(want), wantOk)
	}
	for _, f := range got.Files {
		wantOwnTexts(t, c, f, before)
	}
	for i := range got.Files[:cap(got.Files)] {
		got.Files[:cap(got.Files)][i] = file("changed", "changed", 1)
	}
	if !slices.Equal(room, before) {
		t.Errorf("%s of %s wrote into what it was given, or shares it", c.what, tellDisk(d))
	}
}

func wantOwnTexts(t *testing.T, c change, f impl.File, given []impl.File) {
	t.Helper()
	texts := slices.Clone(c.texts)
	for _, g := range given {
		texts = append(texts, g.Name, g.Data)
	}
	for _, text := range texts {
		if sharesBytes(f.Name, text) || sharesBytes(f.Data, text) {
			t.Errorf("%s: the file %.20q shares memory with %.20q", c.what, f.Name, text)
		}
	}
}

func wantAsItIs(t *testing.T, d impl.Disk, c change) {
	t.Helper()
	wantChange(t, d, c, d, false)
}

func wantRead(t *testing.T, d impl.Disk, name, want string) {
	t.Helper()
	if got := impl.ReadFile(d, name); got != want {
		t.Errorf("ReadFile(%s, %.20q) = %.20q of %d bytes, not %.20q of %d", tellDisk(d), name, got, len(got), want, len(want))
	}
}

// fourFiles has as many files as a disk may have: none, some and all of them safe, and one with nothing in it.
func fourFiles() impl.Disk {
	return disk(file("log", "abc", 0), file("mark", "defg", 4), file("old", "", 0), file("x", "hi", 1))
}

// wrongDisks tells disks each of which breaks the rule in one way alone.
func wrongDisks() map[string]impl.Disk {
	a, b := file("a", "data", 4), file("b", "more", 2)
	return map[string]impl.Disk{
		"one name twice":               disk(a, a),
		"one name twice, unlike data":  disk(a, b, file("a", "other", 5)),
		"one name twice at the end":    disk(a, b, file("c", "", 0), file("c", "", 0)),
		"five files":                   disk(a, b, file("c", "", 0), file("d", "", 0), file("e", "", 0)),
		"no name":                      disk(a, file("", "data", 4)),
		"no name ahead":                disk(file("", "", 0), a),
		"a name of eleven bytes":       disk(a, file(elevenBytes, "data", 4)),
		"a name of six runes":          disk(a, file(moreInRunes, "data", 4)),
		"data too long":                disk(a, file("b", bodyOf(60001), 4)),
		"data too long, all safe":      disk(file("b", bodyOf(60001), 60001), a),
		"safe past the end":            disk(a, file("b", "more", 5)),
		"safe past the end of nothing": disk(a, file("b", "", 1)),
		"safe below 0":                 disk(a, file("b", "more", -1)),
		"safe below 0 of nothing":      disk(a, file("b", "", -1)),
		"the least safe":               disk(a, file("b", "more", math.MinInt)),
		"the greatest safe":            disk(a, file("b", "more", math.MaxInt)),
	}
}

func TestLimitsOfFiles(t *testing.T) {
	if impl.MaxFiles != 4 {
		t.Error(impl.MaxFiles)
	}
}

func TestDiskOkOfRightDisks(t *testing.T) {
	for _, d := range []impl.Disk{
		{}, disk(), fourFiles(),
		disk(file("a", "", 0)),
		disk(file(tenBytes, "data", 4), file(tenInRunes, "", 0)),
		disk(file("\x00", "\x00", 1), file("\x00\x00", "", 0)),
		disk(file(" ", "", 0), file("A", "", 0), file("a", "", 0), file("\xff", "", 0)),
		disk(file("a", bodyOf(60000), 0), file("b", bodyOf(60000), 60000), file("c", bodyOf(60000), 59999)),
		disk(file("same", "data", 2), file("data", "same", 2)),
		disk(file("log", "", 0), file("lo", "", 0), file("og", "", 0), file("logs", "", 0)),
	} {
		if !impl.DiskOk(d) {
			t.Errorf("DiskOk(%s) is false", tellDisk(d))
		}
	}
}

func TestDiskOkOfWrongDisks(t *testing.T) {
	for why, d := range wrongDisks() {
		if impl.DiskOk(d) {
			t.Errorf("DiskOk of a disk with %s", why)
		}
	}
	if many := slices.Repeat([]impl.File{file("a", "", 0)}, 100000); impl.DiskOk(disk(many...)) {
		t.Error("DiskOk of very many files")
	}
}

func TestReadFile(t *testing.T) {
	d := fourFiles()
	for _, f := range d.Files {
		wantRead(t, d, f.Name, f.Data)
	}
	for _, none := range []string{"", "lo", "logs", "Log", " log", "abc", tenBytes, elevenBytes, bodyOf(1000)} {
		wantRead(t, d, none, "")
		wantRead(t, impl.Disk{}, none, "")
	}
}

// What is read is said of any disk, right or not.
func TestReadFileOfWrongDisks(t *testing.T) {
	wantRead(t, disk(file("a", "first", 5), file("a", "second", 6)), "a", "first")
	wantRead(t, disk(file("a", "", 0), file("a", "second", 6)), "a", "")
	wantRead(t, disk(file("b", "x", 1), file("a", "first", -3), file("a", "second", 6)), "a", "first")
	wantRead(t, disk(file("", "nameless", 99)), "", "nameless")
	wantRead(t, disk(file(elevenBytes, "long", 0)), elevenBytes, "long")
	wantRead(t, disk(file("a", bodyOf(60001), 0)), "a", bodyOf(60001))
	wantRead(t, disk(append(fourFiles().Files, file("fifth", "5", 1))...), "fifth", "5")
}

func TestReadFileAnswersNewMemory(t *testing.T) {
	given, room := laid(fourFiles())
	before := slices.Clone(room)
	for _, f := range given.Files {
		if sharesBytes(impl.ReadFile(given, f.Name), f.Data) {
			t.Errorf("what is read of %s lies in the file", f.Name)
		}
	}
	if !slices.Equal(room, before) {
		t.Error("ReadFile wrote into its disk")
	}
}

func TestWriteFileBehindWhatIsThere(t *testing.T) {
	for i, f := range fourFiles().Files {
		for _, more := range []string{"", "x", "\x00", "more of it", everyByte(), bodyOf(60000 - len(f.Data))} {
			want := fourFiles()
			want.Files[i].Data += more
			wantChange(t, fourFiles(), write(f.Name, more), want, true)
		}
	}
}

func TestWriteFileMakesAFile(t *testing.T) {
	for many := range 4 {
		d := disk(fourFiles().Files[:many]...)
		for _, name := range []string{"n", "new", "lo", "LOG", "\x00", "\xff\xff", tenBytes, tenInRunes} {
			for _, more := range []string{"", "x", everyByte(), bodyOf(60000)} {
				want := disk(append(slices.Clone(d.Files), file(name, more, 0))...)
				wantChange(t, d, write(name, more), want, true)
			}
			wantAsItIs(t, d, write(name, bodyOf(60001)))
		}
		for _, none := range []string{"", elevenBytes, moreInRunes, bodyOf(1000)} {
			wantAsItIs(t, d, write(none, ""))
			wantAsItIs(t, d, write(none, "x"))
		}
	}
}

func TestWriteFileWithoutRoomForAFile(t *testing.T) {
	for _, name := range []string{"new", "n", tenBytes} {
		wantAsItIs(t, fourFiles(), write(name, ""))
		wantAsItIs(t, fourFiles(), write(name, "x"))
	}
}

func TestWriteFileUpToMaxFile(t *testing.T) {
	for _, length := range []int{0, 1, 59998, 59999, 60000} {
		for _, safe := range []int{0, length} {
			d := disk(file("a", "x", 1), file("b", bodyOf(length), safe))
			full := disk(file("a", "x", 1), file("b", bodyOf(length)+bodyOf(60000-length), safe))
			wantChange(t, d, write("b", bodyOf(60000-length)), full, true)
			wantAsItIs(t, d, write("b", bodyOf(60001-length)))
			wantAsItIs(t, d, write("b", bodyOf(1000000)))
			wantAsItIs(t, full, write("b", "x"))
			wantChange(t, full, write("b", ""), full, true)
		}
	}
}

func TestSyncFile(t *testing.T) {
	for i, f := range fourFiles().Files {
		want := fourFiles()
		want.Files[i].Safe = len(f.Data)
		wantChange(t, fourFiles(), syncs(f.Name), want, true)
		wantChange(t, want, syncs(f.Name), want, true)
	}
	wantChange(t, disk(file(tenBytes, bodyOf(60000), 0)), syncs(tenBytes), disk(file(tenBytes, bodyOf(60000), 60000)), true)
}

func TestCutFile(t *testing.T) {
	for i, f := range fourFiles().Files {
		for many := range len(f.Data) + 1 {
			want := fourFiles()
			want.Files[i] = file(f.Name, f.Data[:many], many)
			wantChange(t, fourFiles(), cut(f.Name, many), want, true)
		}
		for _, many := range wrongPlaces(len(f.Data) + 1) {
			wantAsItIs(t, fourFiles(), cut(f.Name, many))
		}
	}
}

func TestCutFileOfAFullFile(t *testing.T) {
	for _, safe := range []int{0, 30000, 60000} {
		d := disk(file("a", bodyOf(60000), safe))
		for _, many := range []int{0, 1, 29999, 30000, 30001, 59999, 60000} {
			wantChange(t, d, cut("a", many), disk(file("a", bodyOf(60000)[:many], many)), true)
		}
		wantAsItIs(t, d, cut("a", 60001))
		wantAsItIs(t, d, cut("a", -1))
	}
}

func TestMoveFileToAFreeName(t *testing.T) {
	for _, to := range []string{"n", "new", "lo", "MARK", "\x00", tenBytes} {
		want := fourFiles()
		want.Files[1].Name = to
		wantChange(t, fourFiles(), move("mark", to), want, true)
		want = fourFiles()
		want.Files[2].Name = to
		wantChange(t, fourFiles(), move("old", to), want, true)
	}
	wantChange(t, disk(file("a", "", 0)), move("a", "b"), disk(file("b", "", 0)), true)
}

func TestMoveFileOverAnother(t *testing.T) {
	names := []string{"log", "mark", "old", "x"}
	for from := range names {
		for over := range names {
			d := fourFiles()
			d.Files[from].Safe = len(d.Files[from].Data)
			if from == over {
				wantAsItIs(t, d, move(names[from], names[from]))
				continue
			}
			want := disk(slices.Clone(d.Files)...)
			want.Files[from].Name = names[over]
			want.Files = slices.Delete(want.Files, over, over+1)
			wantChange(t, d, move(names[from], names[over]), want, true)
		}
	}
}

// The one that is moved over may have nothing safe; of the one that is moved all has to be.
func TestMoveFileOnlyWhenAllIsSafe(t *testing.T) {
	for length := range 5 {
		for safe := range length + 1 {
			d := disk(file("a", bodyOf(length), safe), file("b", "xyz", 0))
			if safe < length {
				wantAsItIs(t, d, move("a", "b"))
				wantAsItIs(t, d, move("a", "c"))
				continue
			}
			wantChange(t, d, move("a", "b"), disk(file("b", bodyOf(length), safe)), true)
			wantChange(t, d, move("a", "c"), disk(file("c", bodyOf(length), safe), file("b", "xyz", 0)), true)
		}
	}
	full := bodyOf(60000)
	wantChange(t, disk(file("a", full, 60000)), move("a", "b"), disk(file("b", full, 60000)), true)
	wantAsItIs(t, disk(file("a", full, 59999)), move("a", "b"))
}

func TestMoveFileToNoRightName(t *testing.T) {
	for _, to := range []string{"", "mark", elevenBytes, moreInRunes, bodyOf(1000)} {
		wantAsItIs(t, fourFiles(), move("mark", to))
	}
}

func TestChangesOfAFileThatIsNotThere(t *testing.T) {
	for _, d := range []impl.Disk{{}, disk(), disk(file("a", "data", 4)), fourFiles()} {
		for _, none := range []string{"", "A", "aa", "lo", "logs", "data", "abc", tenBytes, elevenBytes} {
			wantAsItIs(t, d, syncs(none))
			wantAsItIs(t, d, cut(none, 0))
			wantAsItIs(t, d, move(none, "b"))
			wantAsItIs(t, d, move(none, none))
			wantAsItIs(t, d, move(none, "mark"))
		}
	}
}

func TestChangesOfWrongDisks(t *testing.T) {
	for _, d := range wrongDisks() {
		for _, f := range d.Files {
			for _, c := range changesOf(f) {
				wantAsItIs(t, d, c)
			}
			wantAsItIs(t, d, move("a", f.Name))
			wantAsItIs(t, d, move(f.Name, "a"))
			wantAsItIs(t, d, move(f.Name, "b"))
		}
	}
}

// No change may mend what is not right, though the file that is at fault would be right behind it.
func TestChangesDoNotMendWrongDisks(t *testing.T) {
	for _, safe := range []int{-1, 5, math.MinInt, math.MaxInt} {
		d := disk(file("a", "data", safe))
		wantAsItIs(t, d, syncs("a"))
		wantAsItIs(t, d, cut("a", 2))
		wantAsItIs(t, d, write("a", "x"))
	}
	wantAsItIs(t, disk(file("a", bodyOf(60001), 0)), cut("a", 60000))
	wantAsItIs(t, disk(file(elevenBytes, "data", 4)), move(elevenBytes, "a"))
	wantAsItIs(t, disk(file("", "data", 4)), move("", "a"))
	wantAsItIs(t, disk(file("a", "", 0), file("b", "", 0), file("b", "", 0)), move("a", "b"))
	wantAsItIs(t, disk(append(fourFiles().Files, file("fifth", "5", 1))...), move("fifth", "log"))
}

// nameByWords, okByWords, placeByWords and changedByWords say the chapter again, in another way than the program.
func nameByWords(name string) bool { return len(name) >= 1 && len(name) <= 10 }

func okByWords(d impl.Disk) bool {
	seen := map[string]int{}
	for _, f := range d.Files {
		seen[f.Name]++
		if !nameByWords(f.Name) || seen[f.Name] > 1 || len(f.Data) > 60000 || f.Safe != min(max(f.Safe, 0), len(f.Data)) {
			return false
		}
	}
	return len(d.Files) <= 4
}

func placeByWords(d impl.Disk, name string) int {
	return slices.IndexFunc(d.Files, func(f impl.File) bool { return f.Name == name })
}

// replaced puts a file in another one's place.
func replaced(d impl.Disk, at int, f impl.File) impl.Disk {
	return disk(slices.Concat(d.Files[:at], []impl.File{f}, d.Files[at+1:])...)
}

func writtenByWords(d impl.Disk, name, more string) (impl.Disk, bool) {
	made := disk(slices.Concat(d.Files, []impl.File{file(name, more, 0)})...)
	if at := placeByWords(d, name); at >= 0 {
		made = replaced(d, at, file(name, d.Files[at].Data+more, d.Files[at].Safe))
	}
	if !okByWords(d) || !okByWords(made) {
		return d, false
	}
	return made, true
}

func syncedByWords(d impl.Disk, name string) (impl.Disk, bool) {
	at := placeByWords(d, name)
	if !okByWords(d) || at < 0 {
		return d, false
	}
	return replaced(d, at, file(name, d.Files[at].Data, len(d.Files[at].Data))), true
}

func cutByWords(d impl.Disk, name string, many int) (impl.Disk, bool) {
	at := placeByWords(d, name)
	if !okByWords(d) || at < 0 || many < 0 || many > len(d.Files[at].Data) {
		return d, false
	}
	return replaced(d, at, file(name, d.Files[at].Data[:many], many)), true
}

func movedByWords(d impl.Disk, from, to string) (impl.Disk, bool) {
	at := placeByWords(d, from)
	if !okByWords(d) || at < 0 || !nameByWords(to) || from == to || d.Files[at].Safe != len(d.Files[at].Data) {
		return d, false
	}
	left := impl.Disk{}
	for i, f := range d.Files {
		if i == at {
			f.Name = to
		}
		if i == at || f.Name != to {
			left.Files = append(left.Files, f)
		}
	}
	return left, true
}

// smallDisks tells all disks of at most so many files that have these names, a Data and a Safe, right or not.
func smallDisks(names []string, data []string, safes []int, most int) []impl.Disk {
	all, last := []impl.Disk{{}}, []impl.Disk{{}}
	for range most {
		var next []impl.Disk
		for _, d := range last {
			for _, name := range names {
				for _, text := range data {
					for _, safe := range safes {
						next = append(next, disk(slices.Concat(d.Files, []impl.File{file(name, text, safe)})...))
					}
				}
			}
		}
		all, last = append(all, next...), next
	}
	return all
}

func wantAllByWords(t *testing.T, d impl.Disk, names []string) {
	t.Helper()
	if impl.DiskOk(d) != okByWords(d) {
		t.Errorf("DiskOk(%s) is not %v", tellDisk(d), okByWords(d))
	}
	for _, name := range names {
		for _, more := range []string{"", "z"} {
			want, ok := writtenByWords(d, name, more)
			wantChange(t, d, write(name, more), want, ok)
		}
		want, ok := syncedByWords(d, name)
		wantChange(t, d, syncs(name), want, ok)
		for many := -1; many <= 3; many++ {
			want, ok := cutByWords(d, name, many)
			wantChange(t, d, cut(name, many), want, ok)
		}
		for _, to := range names {
			want, ok := movedByWords(d, name, to)
			wantChange(t, d, move(name, to), want, ok)
		}
	}
}

func TestAllSmallDisksOfTwoFiles(t *testing.T) {
	names := []string{"", "a", "b", elevenBytes}
	for _, d := range smallDisks(names, []string{"", "xy"}, []int{-1, 0, 1, 2, 3}, 2) {
		wantAllByWords(t, d, names)
	}
}

func TestAllSmallDisksOfFiveFiles(t *testing.T) {
	names := []string{"a", "b", "c", "d", "e"}
	for _, d := range smallDisks(names, []string{"x"}, []int{1}, 5) {
		wantAllByWords(t, d, names[:3])
	}
}

func mustChange(t *testing.T, d impl.Disk, c change) impl.Disk {
	t.Helper()
	got, ok := c.do(d)
	if !ok || !impl.DiskOk(got) {
		t.Fatalf("%s of %s = %s, %v", c.what, tellDisk(d), tellDisk(got), ok)
	}
	return got
}

// One file is written bit by bit, made safe now and then, and at its end moved over the one that stood for it.
func TestPromiseOfFiles(t *testing.T) {
	d := disk(file("mark", "the old one", 3), file("log", "", 0))
	all, safe := "", 0
	for i, more := range bodies() {
		d = mustChange(t, d, write("next", more))
		all += more
		if i%3 == 1 {
			d = mustChange(t, d, syncs("next"))
			safe = len(all)
		}
		wantRead(t, d, "next", all)
		if d.Files[2].Safe != safe {
			t.Fatalf("behind %d writes %d bytes are safe, not %d", i+1, d.Files[2].Safe, safe)
		}
	}
	wantRead(t, d, "mark", "the old one")
	d = mustChange(t, d, syncs("next"))
	d = mustChange(t, d, move("next", "mark"))
	wantRead(t, d, "mark", all)
	wantRead(t, d, "next", "")
	if want := disk(file("log", "", 0), file("mark", all, len(all))); !slices.Equal(d.Files, want.Files) {
		t.Errorf("%s, not %s", tellDisk(d), tellDisk(want))
	}
}
