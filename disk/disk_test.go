package disk_test

import (
	"bytes"
	"fmt"
	"math"
	"math/rand"
	"slices"
	"strings"
	"testing"

	"sojourn/api"
	"sojourn/disk"
)

// names are names that may be, in their order: all lengths' edges, and bytes that are no text.
var names = []string{
	"\x00", "A", "a", "a\x00", "aa", "log", "next", "snap", strings.Repeat("z", 20), "\x80", "é", "\xff", strings.Repeat("\xff", 20),
}

// wrongNames are names that may not be.
var wrongNames = []string{"", strings.Repeat("z", 21), strings.Repeat("é", 11), strings.Repeat("z", 1<<16+1)}

// newDisk answers a disk of that room.
func newDisk(t testing.TB, room int) *disk.Disk {
	t.Helper()
	d, err := disk.New(room)
	if d == nil || err != api.OK {
		t.Fatalf("New(%d): %v, %d", room, d, err)
	}
	return d
}

// must fails if a call did not answer OK.
func must(t testing.TB, err int) {
	t.Helper()
	if err != api.OK {
		t.Fatalf("an error: %d", err)
	}
}

// checkErr fails if a call did not answer this error.
func checkErr(t *testing.T, what string, got, err int) {
	t.Helper()
	if got != err {
		t.Errorf("%q: %d, not %d", what, got, err)
	}
}

// checkFile fails if the file has other bytes, or others of them are synced.
func checkFile(t *testing.T, d *disk.Disk, name, content string, synced int) {
	t.Helper()
	b, err := d.Read(name)
	if string(b) != content || err != api.OK || d.Synced(name) != synced {
		t.Errorf("%q: %q (%d), %d synced, not %q, %d synced", name, b, err, d.Synced(name), content, synced)
	}
}

// checkNoFile fails if there is such a file.
func checkNoFile(t *testing.T, d *disk.Disk, name string) {
	t.Helper()
	if b, err := d.Read(name); len(b) != 0 || err != api.ErrNone || d.Synced(name) != 0 {
		t.Errorf("%q: %q (%d), %d synced", name, b, err, d.Synced(name))
	}
	if slices.Contains(d.Names(), name) {
		t.Errorf("%q is named", name)
	}
}

// checkAll fails if the disk has other names, or not so many bytes.
func checkAll(t *testing.T, d *disk.Disk, used int, names ...string) {
	t.Helper()
	if !slices.Equal(d.Names(), names) || d.Used() != used {
		t.Errorf("%q, %d bytes, not %q, %d bytes", d.Names(), d.Used(), names, used)
	}
}

// told answers all that a disk tells of itself.
func told(d *disk.Disk) string {
	var out strings.Builder
	fmt.Fprintf(&out, "%d bytes\n", d.Used())
	for _, name := range d.Names() {
		b, err := d.Read(name)
		fmt.Fprintf(&out, "%q: %x, %d, %d synced\n", name, b, err, d.Synced(name))
	}
	return out.String()
}

// Promise 5.1: New.

func TestNewOfRooms(t *testing.T) {
	for _, room := range []int{0, 1, 999999, api.MaxRoom} {
		d := newDisk(t, room)
		checkAll(t, d, 0)
		checkErr(t, "as much as there is room", d.Append("a", make([]byte, room)), api.OK)
		checkErr(t, "a byte more", d.Append("a", []byte{1}), api.ErrFull)
		checkErr(t, "a byte more, in another file", d.Append("b", []byte{1}), api.ErrFull)
		checkAll(t, d, room, "a")
	}
}

func TestNewOfNoRoom(t *testing.T) {
	for _, room := range []int{-1, api.MaxRoom + 1, math.MinInt, math.MaxInt, 1 << 32, -1 << 32} {
		if d, err := disk.New(room); d != nil || err != api.ErrArg {
			t.Errorf("New(%d): %v, %d", room, d, err)
		}
	}
}

func TestDisksAreApart(t *testing.T) {
	one, other := newDisk(t, 10), newDisk(t, 10)
	must(t, one.Append("a", []byte("one")))
	checkAll(t, other, 0)
	must(t, other.Append("a", []byte("other")))
	checkFile(t, one, "a", "one", 0)
	checkFile(t, other, "a", "other", 0)
}

// Promise 5.1: Append, Read, Used.

func TestAppendStandsBehind(t *testing.T) {
	d := newDisk(t, 100)
	must(t, d.Append("log", []byte("ab")))
	checkFile(t, d, "log", "ab", 0)
	must(t, d.Append("log", []byte("\x00\xff")))
	checkFile(t, d, "log", "ab\x00\xff", 0)
	must(t, d.Append("log", nil))
	checkFile(t, d, "log", "ab\x00\xff", 0)
	must(t, d.Append("snap", []byte("cd")))
	checkFile(t, d, "log", "ab\x00\xff", 0)
	checkFile(t, d, "snap", "cd", 0)
	checkAll(t, d, 6, "log", "snap")
}

func TestAppendOfNothingMakesAFile(t *testing.T) {
	for _, b := range [][]byte{nil, {}} {
		d := newDisk(t, 0)
		must(t, d.Append("a", b))
		checkFile(t, d, "a", "", 0)
		checkAll(t, d, 0, "a")
	}
}

func TestAppendOfNames(t *testing.T) {
	d := newDisk(t, api.MaxRoom)
	for i, name := range names {
		checkErr(t, name, d.Append(name, []byte{byte(i)}), api.OK)
	}
	for i, name := range names {
		checkFile(t, d, name, string([]byte{byte(i)}), 0)
	}
	before := told(d)
	for _, name := range wrongNames {
		checkErr(t, name, d.Append(name, []byte{1}), api.ErrArg)
		checkErr(t, name, d.Append(name, nil), api.ErrArg)
		checkErr(t, name+" and no room", d.Append(name, make([]byte, api.MaxRoom+1)), api.ErrArg)
		checkNoFile(t, d, name)
	}
	if told(d) != before {
		t.Error("names that may not be changed something")
	}
}

func TestAppendFull(t *testing.T) {
	d := newDisk(t, 5)
	must(t, d.Append("a", []byte("abc")))
	must(t, d.Sync("a"))
	before := told(d)
	checkErr(t, "three of two", d.Append("a", []byte("xyz")), api.ErrFull)
	checkErr(t, "three of two, elsewhere", d.Append("b", []byte("xyz")), api.ErrFull)
	if told(d) != before {
		t.Errorf("what had no room changed something: %s", told(d))
	}
	checkErr(t, "two of two", d.Append("b", []byte("xy")), api.OK)
	checkErr(t, "nothing of nothing", d.Append("c", nil), api.OK)
	checkAll(t, d, 5, "a", "b", "c")
}

func TestRoomComesBack(t *testing.T) {
	full := func(t *testing.T) *disk.Disk {
		d := newDisk(t, 6)
		must(t, d.Append("a", []byte("abcd")))
		must(t, d.Append("b", []byte("ef")))
		return d
	}
	for what, c := range map[string]struct {
		free func(d *disk.Disk) int
		room int
	}{
		"Cut":              {func(d *disk.Disk) int { return d.Cut("a", 1) }, 3},
		"Cut to 0":         {func(d *disk.Disk) int { return d.Cut("a", 0) }, 4},
		"Cut of nothing":   {func(d *disk.Disk) int { return d.Cut("a", 4) }, 0},
		"Remove":           {func(d *disk.Disk) int { return d.Remove("b") }, 2},
		"Rename":           {func(d *disk.Disk) int { return d.Rename("a", "c") }, 0},
		"Rename to itself": {func(d *disk.Disk) int { return d.Rename("a", "a") }, 0},
		"Rename over b":    {func(d *disk.Disk) int { return d.Rename("a", "b") }, 2},
		"Rename over a":    {func(d *disk.Disk) int { return d.Rename("b", "a") }, 4},
		"Crash":            {func(d *disk.Disk) int { d.Crash(1); return api.OK }, 4},
		"Sync":             {func(d *disk.Disk) int { return d.Sync("a") }, 0},
	} {
		d := full(t)
		checkErr(t, what, c.free(d), api.OK)
		if d.Used() != 6-c.room {
			t.Errorf("%s: %d bytes, not %d", what, d.Used(), 6-c.room)
		}
		checkErr(t, what+", a byte too many", d.Append("new", make([]byte, c.room+1)), api.ErrFull)
		checkErr(t, what+", all its room", d.Append("new", make([]byte, c.room)), api.OK)
		checkErr(t, what+", then full", d.Append("new", []byte{1}), api.ErrFull)
	}
}

func TestReadIsACopy(t *testing.T) {
	d := newDisk(t, 10)
	given := []byte("abc")
	must(t, d.Append("a", given))
	given[0] = 'X'
	checkFile(t, d, "a", "abc", 0)
	one, _ := d.Read("a")
	other, _ := d.Read("a")
	one[1] = 'X'
	_ = append(one[:1], "YY"...)
	checkFile(t, d, "a", "abc", 0)
	if string(other) != "abc" {
		t.Errorf("two answers share memory: %q", other)
	}
	must(t, d.Append("a", []byte("d")))
	if string(other) != "abc" {
		t.Errorf("an answer was changed: %q", other)
	}
}

func TestAppendLeavesItsArgument(t *testing.T) {
	d := newDisk(t, 10)
	given := append(make([]byte, 0, 10), "abc"...)
	must(t, d.Append("a", given))
	must(t, d.Append("a", []byte("def")))
	must(t, d.Cut("a", 1))
	must(t, d.Append("a", []byte("x")))
	if string(given) != "abc" || string(given[:6]) != "abc\x00\x00\x00" {
		t.Errorf("what was handed in was changed: %q", given[:6])
	}
}

// Promise 5.1: Sync, Synced.

func TestSync(t *testing.T) {
	d := newDisk(t, 100)
	must(t, d.Append("a", []byte("abc")))
	must(t, d.Append("b", []byte("de")))
	must(t, d.Sync("a"))
	checkFile(t, d, "a", "abc", 3)
	checkFile(t, d, "b", "de", 0)
	must(t, d.Append("a", []byte("fg")))
	checkFile(t, d, "a", "abcfg", 3)
	must(t, d.Sync("a"))
	must(t, d.Sync("a"))
	checkFile(t, d, "a", "abcfg", 5)
	must(t, d.Append("c", nil))
	must(t, d.Sync("c"))
	checkFile(t, d, "c", "", 0)
}

// Promise 5.1: Cut.

func TestCutAtAllPlaces(t *testing.T) {
	const content = "abcdefgh"
	for synced := range len(content) + 1 {
		for n := -2; n <= len(content)+2; n++ {
			d := newDisk(t, 10)
			must(t, d.Append("a", []byte(content[:synced])))
			must(t, d.Sync("a"))
			must(t, d.Append("a", []byte(content[synced:])))
			err := d.Cut("a", n)
			if n < 0 || n > len(content) {
				checkErr(t, fmt.Sprint("Cut at ", n), err, api.ErrRange)
				checkFile(t, d, "a", content, synced)
				continue
			}
			checkErr(t, fmt.Sprint("Cut at ", n), err, api.OK)
			checkFile(t, d, "a", content[:n], n)
			must(t, d.Append("a", []byte("x")))
			checkFile(t, d, "a", content[:n]+"x", n)
		}
	}
}

func TestCutFarOut(t *testing.T) {
	d := newDisk(t, 10)
	must(t, d.Append("a", []byte("abc")))
	for _, n := range []int{math.MinInt, math.MaxInt, 1 << 32, 1<<32 + 1, -1 << 32} {
		checkErr(t, fmt.Sprint("Cut at ", n), d.Cut("a", n), api.ErrRange)
	}
	checkFile(t, d, "a", "abc", 0)
}

// Promise 5.1: Rename.

func TestRename(t *testing.T) {
	d := newDisk(t, 100)
	must(t, d.Append("next", []byte("abc")))
	must(t, d.Sync("next"))
	must(t, d.Append("next", []byte("de")))
	must(t, d.Append("snap", []byte("what it was")))
	must(t, d.Sync("snap"))
	must(t, d.Append("log", []byte("x")))
	must(t, d.Rename("next", "snap"))
	checkFile(t, d, "snap", "abcde", 3)
	checkFile(t, d, "log", "x", 0)
	checkNoFile(t, d, "next")
	checkAll(t, d, 6, "log", "snap")
	must(t, d.Rename("snap", "new"))
	checkFile(t, d, "new", "abcde", 3)
	checkNoFile(t, d, "snap")
	must(t, d.Append("snap", []byte("z")))
	checkFile(t, d, "snap", "z", 0)
	checkFile(t, d, "new", "abcde", 3)
}

func TestRenameToItself(t *testing.T) {
	d := newDisk(t, 100)
	must(t, d.Append("a", []byte("abc")))
	must(t, d.Sync("a"))
	must(t, d.Append("a", []byte("d")))
	must(t, d.Rename("a", "a"))
	checkFile(t, d, "a", "abcd", 3)
	checkAll(t, d, 4, "a")
}

func TestRenameToAllNames(t *testing.T) {
	d := newDisk(t, 100)
	must(t, d.Append("here", []byte("abc")))
	from := "here"
	for _, to := range names {
		checkErr(t, to, d.Rename(from, to), api.OK)
		checkNoFile(t, d, from)
		checkFile(t, d, to, "abc", 0)
		from = to
	}
	before := told(d)
	for _, to := range wrongNames {
		checkErr(t, to, d.Rename(from, to), api.ErrArg)
		checkErr(t, "no file to "+to, d.Rename("none", to), api.ErrNone)
		checkErr(t, "no name to "+to, d.Rename(to, to), api.ErrNone)
		checkErr(t, "no name to a name", d.Rename(to, "a"), api.ErrNone)
		checkErr(t, "no file to a file", d.Rename("none", from), api.ErrNone)
	}
	if told(d) != before {
		t.Error("renames that may not be changed something")
	}
}

// Promise 5.1: Remove.

func TestRemove(t *testing.T) {
	d := newDisk(t, 100)
	must(t, d.Append("a", []byte("abc")))
	must(t, d.Append("b", []byte("de")))
	must(t, d.Sync("a"))
	must(t, d.Remove("a"))
	checkNoFile(t, d, "a")
	checkAll(t, d, 2, "b")
	checkErr(t, "once more", d.Remove("a"), api.ErrNone)
	checkAll(t, d, 2, "b")
	must(t, d.Append("a", []byte("f")))
	checkFile(t, d, "a", "f", 0)
}

// Promise 5.1: of no file.

func TestNoFile(t *testing.T) {
	d := newDisk(t, 100)
	must(t, d.Append("b", []byte("de")))
	for _, name := range append([]string{"a", "B", "b\x00", "bb"}, wrongNames...) {
		checkNoFile(t, d, name)
		checkErr(t, "Sync", d.Sync(name), api.ErrNone)
		for _, n := range []int{-1, 0, 1, math.MaxInt} {
			checkErr(t, "Cut", d.Cut(name, n), api.ErrNone)
		}
		checkErr(t, "Rename", d.Rename(name, "c"), api.ErrNone)
		checkErr(t, "Rename to a file", d.Rename(name, "b"), api.ErrNone)
		checkErr(t, "Rename to itself", d.Rename(name, name), api.ErrNone)
		checkErr(t, "Remove", d.Remove(name), api.ErrNone)
		checkNoFile(t, d, name)
	}
	checkFile(t, d, "b", "de", 0)
	checkAll(t, d, 2, "b")
}

// Promise 5.1: Names.

func TestNamesRise(t *testing.T) {
	for seed := range 50 {
		d := newDisk(t, 100)
		random := rand.New(rand.NewSource(int64(seed)))
		for _, i := range random.Perm(len(names)) {
			must(t, d.Append(names[i], nil))
		}
		if !slices.Equal(d.Names(), names) {
			t.Fatalf("%q, not %q", d.Names(), names)
		}
	}
}

func TestNamesAreTheCallers(t *testing.T) {
	d := newDisk(t, 100)
	must(t, d.Append("a", nil))
	must(t, d.Append("b", nil))
	l := d.Names()
	l[0] = "X"
	_ = append(l[:1], "Y")
	checkAll(t, d, 0, "a", "b")
}

// Promise 5.2: Crash.

func TestCrashOfTheChapter(t *testing.T) {
	d := newDisk(t, 100)
	must(t, d.Append("log", []byte("abcde")))
	must(t, d.Sync("log"))
	must(t, d.Append("log", []byte("fgh")))
	d.Crash(1)
	checkFile(t, d, "log", "abcdef", 6)
	checkAll(t, d, 6, "log")
}

func TestCrashKeeps(t *testing.T) {
	for keep, left := range map[int]int{
		math.MinInt: 0, -1: 0, 0: 0, 1: 1, 2: 2, 3: 3, 4: 4, 5: 4, 1 << 32: 4, math.MaxInt - 1: 4, math.MaxInt: 4,
	} {
		d := newDisk(t, 100)
		must(t, d.Append("half", []byte("abc")))
		must(t, d.Sync("half"))
		must(t, d.Append("half", []byte("defg")))
		must(t, d.Append("none", []byte("hijk")))
		must(t, d.Append("all", []byte("lm")))
		must(t, d.Sync("all"))
		must(t, d.Append("empty", nil))
		d.Crash(keep)
		checkFile(t, d, "half", "abcdefg"[:3+left], 3+left)
		checkFile(t, d, "none", "hijk"[:left], left)
		checkFile(t, d, "all", "lm", 2)
		checkFile(t, d, "empty", "", 0)
		checkAll(t, d, 5+2*left, "all", "empty", "half", "none")
		before := told(d)
		d.Crash(0)
		if told(d) != before {
			t.Errorf("what a crash left was not synced: %s, not %s", told(d), before)
		}
	}
}

func TestCrashLeavesNamesAsTheyAre(t *testing.T) {
	d := newDisk(t, 100)
	for _, name := range []string{"a", "b", "c", "d"} {
		must(t, d.Append(name, []byte(name)))
		must(t, d.Sync(name))
	}
	must(t, d.Rename("a", "b"))
	must(t, d.Remove("c"))
	must(t, d.Append("new", []byte("xy")))
	must(t, d.Rename("d", "e"))
	d.Crash(0)
	checkFile(t, d, "b", "a", 1)
	checkFile(t, d, "e", "d", 1)
	checkFile(t, d, "new", "", 0)
	checkAll(t, d, 2, "b", "e", "new")
}

func TestAllGoesOnBehindACrash(t *testing.T) {
	d := newDisk(t, 6)
	must(t, d.Append("a", []byte("abcdef")))
	d.Crash(2)
	must(t, d.Append("a", []byte("XY")))
	checkFile(t, d, "a", "abXY", 2)
	d.Crash(1)
	checkFile(t, d, "a", "abX", 3)
	checkErr(t, "more than its room", d.Append("a", []byte("1234")), api.ErrFull)
	must(t, d.Append("a", []byte("123")))
	checkFile(t, d, "a", "abX123", 3)
}

// Promise 5.2: Copy.

func TestCopyIsTheSame(t *testing.T) {
	d := newDisk(t, 10)
	must(t, d.Append("a", []byte("abc")))
	must(t, d.Sync("a"))
	must(t, d.Append("a", []byte("d")))
	must(t, d.Append("b", nil))
	other := d.Copy()
	if other == d {
		t.Fatal("a copy is the disk itself")
	}
	if told(other) != told(d) {
		t.Errorf("%s, not %s", told(other), told(d))
	}
	checkErr(t, "a byte more than its room", other.Append("c", make([]byte, 7)), api.ErrFull)
	checkErr(t, "as much as its room", other.Append("c", make([]byte, 6)), api.OK)
}

func TestCopiesGoTheirOwnWay(t *testing.T) {
	for what, change := range map[string]func(d *disk.Disk) int{
		"Append":         func(d *disk.Disk) int { return d.Append("a", []byte("x")) },
		"Append, anew":   func(d *disk.Disk) int { return d.Append("new", []byte("x")) },
		"Sync":           func(d *disk.Disk) int { return d.Sync("a") },
		"Cut":            func(d *disk.Disk) int { return d.Cut("a", 2) },
		"Cut and Append": func(d *disk.Disk) int { return d.Cut("a", 0) + d.Append("a", []byte("xyz")) },
		"Rename":         func(d *disk.Disk) int { return d.Rename("a", "b") },
		"Remove":         func(d *disk.Disk) int { return d.Remove("a") },
		"Crash":          func(d *disk.Disk) int { d.Crash(0); return api.OK },
	} {
		d := newDisk(t, 100)
		must(t, d.Append("a", []byte("abc")))
		must(t, d.Append("b", []byte("de")))
		must(t, d.Append("a", []byte("f")))
		before := told(d)
		other := d.Copy()
		checkErr(t, what, change(other), api.OK)
		if told(d) != before {
			t.Errorf("%s of a copy changed the disk: %s", what, told(d))
		}
		after, other := told(other), d.Copy()
		checkErr(t, what, change(d), api.OK)
		if told(other) != before {
			t.Errorf("%s changed a copy: %s", what, told(other))
		}
		if told(d) != after {
			t.Errorf("%s does one thing to a disk and another to its copy: %s, %s", what, told(d), after)
		}
	}
}

func TestCopiesAppendBesideEachOther(t *testing.T) {
	d := newDisk(t, 100)
	for range 5 {
		must(t, d.Append("a", []byte("a")))
	}
	other := d.Copy()
	must(t, d.Append("a", []byte("1")))
	must(t, other.Append("a", []byte("2")))
	checkFile(t, d, "a", "aaaaa1", 0)
	checkFile(t, other, "a", "aaaaa2", 0)
}

// Promise 5.2: of nil; and of a disk that New did not make.

func TestNil(t *testing.T) {
	var d *disk.Disk
	for _, name := range append([]string{"a"}, wrongNames...) {
		checkErr(t, "Append", d.Append(name, []byte("a")), api.ErrNone)
		checkErr(t, "Append of nothing", d.Append(name, nil), api.ErrNone)
		checkErr(t, "Sync", d.Sync(name), api.ErrNone)
		checkErr(t, "Cut", d.Cut(name, -1), api.ErrNone)
		checkErr(t, "Rename", d.Rename(name, name), api.ErrNone)
		checkErr(t, "Remove", d.Remove(name), api.ErrNone)
		checkNoFile(t, d, name)
	}
	d.Crash(1)
	checkAll(t, d, 0)
	if other := d.Copy(); other != nil {
		t.Errorf("a copy of nil: %v", other)
	}
}

func TestZeroDisk(t *testing.T) {
	d := new(disk.Disk)
	checkErr(t, "Append", d.Append("a", []byte("a")), api.ErrFull)
	checkErr(t, "Sync", d.Sync("a"), api.ErrNone)
	checkErr(t, "Remove", d.Remove("a"), api.ErrNone)
	d.Crash(1)
	checkAll(t, d, 0)
	checkAll(t, d.Copy(), 0)
	must(t, d.Append("a", nil))
	checkFile(t, d, "a", "", 0)
}

// Promises 5.1 to 5.3, of any calls, beside a plain list of files.

// plainFile is a file of a plain disk.
type plainFile struct {
	name, content string
	synced        int
}

// plain is a disk told by the chapter's words, slowly.
type plain struct {
	room  int
	files []plainFile
}

func (p *plain) at(name string) int {
	return slices.IndexFunc(p.files, func(f plainFile) bool { return f.name == name })
}

func (p *plain) used() int {
	n := 0
	for _, f := range p.files {
		n += len(f.content)
	}
	return n
}

func (p *plain) told() string {
	files := slices.Clone(p.files)
	slices.SortFunc(files, func(a, b plainFile) int { return bytes.Compare([]byte(a.name), []byte(b.name)) })
	var out strings.Builder
	fmt.Fprintf(&out, "%d bytes\n", p.used())
	for _, f := range files {
		fmt.Fprintf(&out, "%q: %x, %d, %d synced\n", f.name, f.content, api.OK, f.synced)
	}
	return out.String()
}

func wrong(name string) bool { return name == "" || len(name) > 20 }

func (p *plain) append(name, b string) int {
	if wrong(name) {
		return api.ErrArg
	}
	if p.used()+len(b) > p.room {
		return api.ErrFull
	}
	if p.at(name) < 0 {
		p.files = append(p.files, plainFile{name: name})
	}
	p.files[p.at(name)].content += b
	return api.OK
}

func (p *plain) sync(name string) int {
	i := p.at(name)
	if i < 0 {
		return api.ErrNone
	}
	p.files[i].synced = len(p.files[i].content)
	return api.OK
}

func (p *plain) cut(name string, n int) int {
	i := p.at(name)
	if i < 0 {
		return api.ErrNone
	}
	if n < 0 || n > len(p.files[i].content) {
		return api.ErrRange
	}
	p.files[i] = plainFile{name, p.files[i].content[:n], n}
	return api.OK
}

func (p *plain) rename(from, to string) int {
	if p.at(from) < 0 {
		return api.ErrNone
	}
	if wrong(to) {
		return api.ErrArg
	}
	if from != to {
		p.remove(to)
		p.files[p.at(from)].name = to
	}
	return api.OK
}

func (p *plain) remove(name string) int {
	i := p.at(name)
	if i < 0 {
		return api.ErrNone
	}
	p.files = slices.Delete(p.files, i, i+1)
	return api.OK
}

func (p *plain) crash(keep int) {
	for i, f := range p.files {
		left := f.synced
		for left < len(f.content) && left-f.synced < keep {
			left++
		}
		p.files[i] = plainFile{f.name, f.content[:left], left}
	}
}

// step does the same call on both, and answers what each of them answered.
func step(d *disk.Disk, p *plain, random *rand.Rand) (string, int, int) {
	some := []string{"a", "b", "log", "snap", "next", "", strings.Repeat("x", 20), strings.Repeat("x", 21)}
	name, other := some[random.Intn(len(some))], some[random.Intn(len(some))]
	n := random.Intn(14) - 2
	switch random.Intn(9) {
	case 0:
		return fmt.Sprintf("Sync(%q)", name), d.Sync(name), p.sync(name)
	case 1:
		return fmt.Sprintf("Cut(%q, %d)", name, n), d.Cut(name, n), p.cut(name, n)
	case 2:
		return fmt.Sprintf("Rename(%q, %q)", name, other), d.Rename(name, other), p.rename(name, other)
	case 3:
		return fmt.Sprintf("Remove(%q)", name), d.Remove(name), p.remove(name)
	case 4:
		d.Crash(n)
		p.crash(n)
		return fmt.Sprintf("Crash(%d)", n), 0, 0
	}
	b := make([]byte, max(n, 0))
	random.Read(b)
	return fmt.Sprintf("Append(%q, %x)", name, b), d.Append(name, b), p.append(name, string(b))
}

func TestAnyCalls(t *testing.T) {
	for seed := range 500 {
		random := rand.New(rand.NewSource(int64(seed)))
		room := random.Intn(60)
		d, p := newDisk(t, room), &plain{room: room}
		var calls []string
		for range 120 {
			if random.Intn(10) == 0 {
				left := d
				d = d.Copy()
				left.Crash(0)
				left.Append("left", []byte("left"))
			}
			call, got, err := step(d, p, random)
			calls = append(calls, call)
			if got != err || told(d) != p.told() {
				t.Fatalf("room %d, %s: %d, not %d; %snot %s", room, strings.Join(calls, ", "), got, err, told(d), p.told())
			}
		}
	}
}

// Promise 5.3 (and T4): what was synced stays, and what is left is a beginning of what there was.

func TestWhatWasSyncedStays(t *testing.T) {
	for seed := range 200 {
		random := rand.New(rand.NewSource(int64(seed)))
		d := newDisk(t, api.MaxRoom)
		var all, synced []byte
		for range 100 {
			b := make([]byte, random.Intn(20))
			random.Read(b)
			must(t, d.Append("log", b))
			must(t, d.Append("beside", b))
			all = append(all, b...)
			switch random.Intn(4) {
			case 0:
				must(t, d.Sync("log"))
				synced = slices.Clone(all)
			case 1:
				d.Crash(random.Intn(30) - 5)
				left, _ := d.Read("log")
				if !bytes.HasPrefix(all, left) || !bytes.HasPrefix(left, synced) {
					t.Fatalf("%x is left of %x, %x of which was synced", left, all, synced)
				}
				all, synced = left, slices.Clone(left)
			}
			checkFile(t, d, "log", string(all), len(synced))
		}
	}
}

// Rule 3: the same calls give the same answers.

func TestSameCallsSameAnswers(t *testing.T) {
	run := func() string {
		random := rand.New(rand.NewSource(1))
		d, p := newDisk(t, 40), &plain{room: 40}
		var out strings.Builder
		for range 300 {
			call, got, _ := step(d, p, random)
			fmt.Fprintf(&out, "%s: %d; %s", call, got, told(d))
		}
		return out.String()
	}
	if run() != run() {
		t.Error("two runs of the same calls differ")
	}
}

// Rule 1: every call ends, though there be many files.

func TestManyFiles(t *testing.T) {
	d := newDisk(t, api.MaxRoom)
	const count = 20000
	for i := range count {
		must(t, d.Append(fmt.Sprintf("file %05d", i), []byte{byte(i)}))
	}
	if l := d.Names(); len(l) != count || !slices.IsSorted(l) || d.Used() != count {
		t.Errorf("%d names, %d bytes", len(l), d.Used())
	}
	d.Crash(0)
	if l := d.Names(); len(l) != count || d.Used() != 0 {
		t.Errorf("behind a crash: %d names, %d bytes", len(l), d.Used())
	}
}
