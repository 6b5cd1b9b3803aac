package seal_test

import (
	"bytes"
	"encoding/binary"
	"fmt"
	"hash/crc32"
	"math"
	"math/rand"
	"slices"
	"strings"
	"testing"

	"sojourn/api"
	"sojourn/disk"
	"sojourn/seal"
)

// framed answers the frame of a record; it makes one of any record.
func framed(record []byte) []byte {
	out := binary.LittleEndian.AppendUint32(nil, crc32.ChecksumIEEE(record))
	out = binary.LittleEndian.AppendUint16(out, uint16(len(record)))
	return append(out, record...)
}

// sealed answers the bytes of a file of that generation, with these records.
func sealed(generation int64, records ...[]byte) []byte {
	out := framed(binary.AppendUvarint(nil, uint64(generation)<<1))
	for _, record := range records {
		out = append(out, framed(record)...)
	}
	return out
}

// list answers the texts as records.
func list(texts ...string) [][]byte {
	var out [][]byte
	for _, text := range texts {
		out = append(out, []byte(text))
	}
	return out
}

// same tells whether two lists of records are the same.
func same(a, b [][]byte) bool {
	return slices.EqualFunc(a, b, bytes.Equal)
}

// begins tells whether the list l begins with the list first.
func begins(l, first [][]byte) bool {
	return len(first) <= len(l) && same(l[:len(first)], first)
}

// newDisk answers a disk of that room.
func newDisk(t testing.TB, room int) *disk.Disk {
	t.Helper()
	d, err := disk.New(room)
	if d == nil || err != api.OK {
		t.Fatalf("New(%d): %v, %d", room, d, err)
	}
	return d
}

// files answers a disk with these files' bytes, all synced; nil: there is no such file.
func files(t testing.TB, snap, log, next []byte) *disk.Disk {
	t.Helper()
	d := newDisk(t, api.MaxRoom)
	for name, b := range map[string][]byte{"snap": snap, "log": log, "next": next} {
		if b != nil {
			must(t, d.Append(name, b))
			must(t, d.Sync(name))
		}
	}
	return d
}

// must fails if a call did not answer OK.
func must(t testing.TB, err int) {
	t.Helper()
	if err != api.OK {
		t.Fatalf("an error: %d", err)
	}
}

// checkErr fails if a call did not answer this error.
func checkErr(t *testing.T, what string, got, err int) {
	t.Helper()
	if got != err {
		t.Errorf("%s: %d, not %d", what, got, err)
	}
}

// checkFile fails if the file has other bytes, or others of them are synced.
func checkFile(t *testing.T, d *disk.Disk, name string, content []byte, synced int) {
	t.Helper()
	b, err := d.Read(name)
	if !bytes.Equal(b, content) || err != api.OK || d.Synced(name) != synced {
		t.Errorf("%q: %x (%d), %d synced, not %x, %d synced", name, b, err, d.Synced(name), content, synced)
	}
}

// checkNames fails if the disk has other files.
func checkNames(t *testing.T, d *disk.Disk, names ...string) {
	t.Helper()
	if !slices.Equal(d.Names(), names) {
		t.Errorf("files %q, not %q", d.Names(), names)
	}
}

// checkLen fails if the log has not so many records since its state.
func checkLen(t *testing.T, l *seal.Log, n int) {
	t.Helper()
	if l.Len() != n {
		t.Errorf("Len %d, not %d", l.Len(), n)
	}
}

// open answers the log on d, and what it has.
func open(t testing.TB, d *disk.Disk) (*seal.Log, [][]byte, [][]byte) {
	t.Helper()
	l, state, records, err := seal.Open(d)
	if l == nil || err != api.OK {
		t.Fatalf("Open: %v, %d", l, err)
	}
	if l.Len() != len(records) {
		t.Fatalf("Len %d of %d records that were found", l.Len(), len(records))
	}
	return l, state, records
}

// openAs answers the log on d, and fails if it has not this state and these records.
func openAs(t *testing.T, d *disk.Disk, state, records [][]byte) *seal.Log {
	t.Helper()
	l, gotState, gotRecords := open(t, d)
	if !same(gotState, state) || !same(gotRecords, records) {
		t.Errorf("Open: %q, %q, not %q, %q", gotState, gotRecords, state, records)
	}
	return l
}

// told answers all that a disk tells of itself.
func told(d *disk.Disk) string {
	var out strings.Builder
	fmt.Fprintf(&out, "%d bytes\n", d.Used())
	for _, name := range d.Names() {
		b, err := d.Read(name)
		fmt.Fprintf(&out, "%q: %x, %d, %d synced\n", name, b, err, d.Synced(name))
	}
	return out.String()
}

// Promise 6.1: Open.

func TestOpenOfNoDisk(t *testing.T) {
	l, state, records, err := seal.Open(nil)
	if l != nil || len(state) != 0 || len(records) != 0 || err != api.ErrArg {
		t.Errorf("%v, %q, %q, %d", l, state, records, err)
	}
}

func TestOpenOfAnEmptyDisk(t *testing.T) {
	for _, room := range []int{0, 1, api.MaxRoom} {
		d := newDisk(t, room)
		openAs(t, d, nil, nil)
		checkNames(t, d)
	}
	d := new(disk.Disk)
	openAs(t, d, nil, nil)
	checkNames(t, d)
}

func TestOpenTellsStateAndRecords(t *testing.T) {
	for _, c := range []struct {
		generation     int64
		state, records [][]byte
	}{
		{0, nil, nil}, {0, list("a"), nil}, {0, nil, list("a")},
		{1, list("a", "b"), list("c", "d", "e")}, {2, list("a", "a"), list("a")},
		{1, list("\x02"), list("\x02", "\x00")}, // they look like generations
		{63, list("a"), list("b")}, {64, list("a"), list("b")}, {1 << 40, list("a"), list("b")},
		{math.MaxInt64, list("a"), list("b")},
		{5, list(strings.Repeat("x", api.MaxFrame)), list(strings.Repeat("y", api.MaxFrame), "z")},
	} {
		snap, log := sealed(c.generation, c.state...), sealed(c.generation, c.records...)
		d := files(t, snap, log, nil)
		openAs(t, d, c.state, c.records)
		checkFile(t, d, "snap", snap, len(snap))
		checkFile(t, d, "log", log, len(log))
		checkNames(t, d, "log", "snap")
		openAs(t, files(t, snap, nil, nil), c.state, nil)
		openAs(t, files(t, snap, []byte{}, nil), c.state, nil)
	}
}

func TestOpenWithoutAState(t *testing.T) {
	d := files(t, nil, sealed(0, list("a", "b")...), nil)
	openAs(t, d, nil, list("a", "b"))
	checkNames(t, d, "log")
	openAs(t, files(t, nil, sealed(0), nil), nil, nil)
}

func TestOpenRemovesNext(t *testing.T) {
	snap, log := sealed(1, list("a")...), sealed(1, list("b")...)
	whole := sealed(2, list("new")...)
	for _, next := range [][]byte{{}, whole[:1], whole[:len(whole)-1], whole, []byte("what it was")} {
		d := files(t, snap, log, next)
		openAs(t, d, list("a"), list("b"))
		checkNames(t, d, "log", "snap")
		checkFile(t, d, "snap", snap, len(snap))
		checkFile(t, d, "log", log, len(log))
		d = files(t, nil, nil, next)
		openAs(t, d, nil, nil)
		checkNames(t, d)
	}
}

func TestOpenCutsATornEnd(t *testing.T) {
	records := list("a", "bcd", "e")
	log := sealed(1, records...)
	for end := range len(log) + 1 {
		whole, at := 0, 0
		for n := range len(records) + 1 {
			if b := sealed(1, records[:n]...); len(b) <= end {
				whole, at = n, len(b)
			}
		}
		d := files(t, sealed(1), nil, nil)
		must(t, d.Append("log", log[:end]))
		l := openAs(t, d, nil, records[:whole])
		checkFile(t, d, "log", log[:at], at)
		must(t, l.Put([]byte("on")))
		checkLen(t, l, whole+1)
		d.Crash(math.MaxInt)
		openAs(t, d, nil, append(slices.Clone(records[:whole]), []byte("on")))
	}
}

func TestOpenSyncsWhatItFinds(t *testing.T) {
	d := newDisk(t, 100)
	l := openAs(t, d, nil, nil)
	must(t, l.Put([]byte("a")))
	checkFile(t, d, "log", sealed(0, list("a")...), 0)
	openAs(t, d, nil, list("a"))
	checkFile(t, d, "log", sealed(0, list("a")...), len(sealed(0, list("a")...)))
	d.Crash(0)
	openAs(t, d, nil, list("a"))
}

func TestOpenOfALogOfAnotherState(t *testing.T) {
	for _, c := range []struct{ snap, log int64 }{
		{1, 0}, {2, 1}, {64, 63}, {128, 0}, {5, 2}, {1 << 40, 1<<40 - 1}, {1, 2}, {0, 1},
	} {
		snap := sealed(c.snap, list("state")...)
		for _, log := range [][]byte{sealed(c.log), sealed(c.log, list("a", "b")...), sealed(c.log, list("a", "b")...)[:20]} {
			d := files(t, snap, log, nil)
			l := openAs(t, d, list("state"), nil)
			checkFile(t, d, "log", nil, 0)
			checkFile(t, d, "snap", snap, len(snap))
			checkNames(t, d, "log", "snap")
			must(t, l.Put([]byte("c")))
			checkFile(t, d, "log", sealed(c.snap, list("c")...), 0)
			openAs(t, d, list("state"), list("c"))
		}
	}
	d := files(t, nil, sealed(1, list("a")...), nil)
	openAs(t, d, nil, nil)
	checkFile(t, d, "log", nil, 0)
	checkNames(t, d, "log")
}

func TestOpenTwice(t *testing.T) {
	d := files(t, sealed(3, list("s")...), append(sealed(3, list("a")...), 1, 2, 3), []byte("next"))
	first := openAs(t, d, list("s"), list("a"))
	before := told(d)
	second := openAs(t, d, list("s"), list("a"))
	if told(d) != before {
		t.Errorf("another Open changed it: %s, not %s", told(d), before)
	}
	must(t, first.Put([]byte("b")))
	must(t, second.Put([]byte("c")))
	openAs(t, d, list("s"), list("a", "b", "c"))
}

// Promise 6.2: Put, Sync, Len.

func TestPutByHand(t *testing.T) {
	d := newDisk(t, 1000)
	l := openAs(t, d, nil, nil)
	must(t, l.Put([]byte("a")))
	want := "\x8d\xef\x02\xd2\x01\x00\x00" + "\x43\xbe\xb7\xe8\x01\x00a" // the generation 0, and the record
	checkFile(t, d, "log", []byte(want), 0)
	must(t, l.Put([]byte("123456789")))
	checkFile(t, d, "log", []byte(want+"\x26\x39\xf4\xcb\x09\x00123456789"), 0)
	checkNames(t, d, "log")
}

func TestPutOfTheChapter(t *testing.T) {
	d := newDisk(t, 1000)
	l := openAs(t, d, nil, nil)
	must(t, l.Put([]byte("a")))
	must(t, l.Sync())
	d.Crash(0)
	openAs(t, d, nil, list("a"))
}

func TestPutOfAllLengths(t *testing.T) {
	d := newDisk(t, api.MaxRoom)
	l := openAs(t, d, nil, nil)
	var all [][]byte
	for length := range api.MaxFrame + 30 {
		record := bytes.Repeat([]byte{byte(length)}, length)
		before := told(d)
		if length < 1 || length > api.MaxFrame {
			checkErr(t, fmt.Sprint(length, " bytes"), l.Put(record), api.ErrArg)
			if told(d) != before {
				t.Fatalf("a record of %d bytes changed the disk", length)
			}
		} else {
			checkErr(t, fmt.Sprint(length, " bytes"), l.Put(record), api.OK)
			all = append(all, record)
		}
		checkLen(t, l, len(all))
	}
	checkErr(t, "nothing", l.Put(nil), api.ErrArg)
	checkErr(t, "far too many", l.Put(make([]byte, 1<<16+1)), api.ErrArg)
	checkFile(t, d, "log", sealed(0, all...), 0)
	openAs(t, d, nil, all)
}

func TestPutFull(t *testing.T) {
	one, two := len(sealed(0, list("a")...)), len(sealed(0, list("a", "bc")...))
	for room := range two + 2 {
		d := newDisk(t, room)
		l := openAs(t, d, nil, nil)
		if room < one { // neither of both frames is put
			checkErr(t, "the first", l.Put([]byte("a")), api.ErrFull)
			checkNames(t, d)
			checkLen(t, l, 0)
			checkErr(t, "too long, and no room", l.Put(make([]byte, api.MaxFrame+1)), api.ErrArg)
			continue
		}
		checkErr(t, "the first", l.Put([]byte("a")), api.OK)
		if room < two {
			checkErr(t, "the second", l.Put([]byte("bc")), api.ErrFull)
			checkFile(t, d, "log", sealed(0, list("a")...), 0)
			checkLen(t, l, 1)
			checkErr(t, "too long, and no room", l.Put(make([]byte, api.MaxFrame+1)), api.ErrArg)
			openAs(t, d, nil, list("a"))
			continue
		}
		checkErr(t, "the second", l.Put([]byte("bc")), api.OK)
		checkLen(t, l, 2)
		openAs(t, d, nil, list("a", "bc"))
	}
}

func TestSync(t *testing.T) {
	d := newDisk(t, 1000)
	l := openAs(t, d, nil, nil)
	checkErr(t, "without a log", l.Sync(), api.OK)
	checkNames(t, d)
	must(t, l.Put([]byte("a")))
	must(t, l.Put([]byte("b")))
	checkErr(t, "of two records", l.Sync(), api.OK)
	both := sealed(0, list("a", "b")...)
	checkFile(t, d, "log", both, len(both))
	must(t, l.Put([]byte("c")))
	checkFile(t, d, "log", sealed(0, list("a", "b", "c")...), len(both))
	checkLen(t, l, 3)
	must(t, l.Save(list("s")))
	checkErr(t, "of an empty log", l.Sync(), api.OK)
	checkFile(t, d, "log", nil, 0)
	checkLen(t, l, 0)
}

func TestSyncIsOfTheLogAlone(t *testing.T) {
	d := newDisk(t, 1000)
	l := openAs(t, d, nil, nil)
	must(t, d.Append("other", []byte("beside")))
	must(t, l.Put([]byte("a")))
	must(t, l.Sync())
	checkFile(t, d, "other", []byte("beside"), 0)
}

func TestLenCountsWhatWasFoundAndPut(t *testing.T) {
	d := newDisk(t, 1000)
	l := openAs(t, d, nil, nil)
	for n := range 5 {
		checkLen(t, l, n)
		must(t, l.Put([]byte{byte(n)}))
	}
	must(t, l.Sync())
	d.Crash(0)
	l, _, _ = open(t, d)
	checkLen(t, l, 5)
	must(t, l.Put([]byte("more")))
	checkLen(t, l, 6)
	must(t, l.Save(list("s", "t")))
	checkLen(t, l, 0)
	must(t, l.Put([]byte("on")))
	checkLen(t, l, 1)
	d.Crash(0)
	l, _, _ = open(t, d)
	checkLen(t, l, 0)
}

func TestTheGenerationIsPutOnce(t *testing.T) {
	log := sealed(0, list("a")...)
	d := files(t, nil, log[:len(log)-1], nil) // a crash left the generation, and a torn record
	l := openAs(t, d, nil, nil)
	checkFile(t, d, "log", sealed(0), len(sealed(0)))
	must(t, l.Put([]byte("b")))
	checkFile(t, d, "log", sealed(0, list("b")...), len(sealed(0)))
	openAs(t, d, nil, list("b"))
}

func TestTheGenerationIsPutAgainBehindACrash(t *testing.T) {
	for generation, state := range [][][]byte{nil, list("state")} {
		d := newDisk(t, 1000)
		l := openAs(t, d, nil, nil)
		if state != nil {
			must(t, l.Save(state))
		}
		must(t, l.Put([]byte("a")))
		must(t, l.Put([]byte("b")))
		d.Crash(0) // "log" is there, and empty
		checkFile(t, d, "log", nil, 0)
		must(t, l.Put([]byte("c")))
		must(t, l.Put([]byte("d")))
		checkFile(t, d, "log", sealed(int64(generation), list("c", "d")...), 0)
		openAs(t, d, state, list("c", "d"))
	}
}

func TestPutBesideOtherFiles(t *testing.T) {
	d := newDisk(t, 1000)
	must(t, d.Append("other", []byte("beside")))
	must(t, d.Append("snap", sealed(3, list("s")...))) // not synced
	l := openAs(t, d, list("s"), nil)
	must(t, l.Put([]byte("a")))
	must(t, l.Put([]byte("b")))
	checkFile(t, d, "log", sealed(3, list("a", "b")...), 0)
	checkFile(t, d, "other", []byte("beside"), 0)
}

// Promise 6.3: generations, and Save.

func TestSaveByHand(t *testing.T) {
	d := newDisk(t, 1000)
	l := openAs(t, d, nil, nil)
	must(t, l.Put([]byte("a")))
	must(t, l.Sync())
	checkErr(t, "Save", l.Save(list("s", "tu")), api.OK)
	snap := sealed(1, list("s", "tu")...)
	if !bytes.HasPrefix(snap, framed([]byte{2})) {
		t.Fatalf("the tests are wrong: %x", snap)
	}
	checkFile(t, d, "snap", snap, len(snap))
	checkFile(t, d, "log", nil, 0)
	checkNames(t, d, "log", "snap")
	must(t, l.Put([]byte("b")))
	checkFile(t, d, "log", sealed(1, list("b")...), 0)
	must(t, l.Save(list("v")))
	snap = sealed(2, list("v")...)
	checkFile(t, d, "snap", snap, len(snap))
	checkFile(t, d, "log", nil, 0)
	openAs(t, d, list("v"), nil)
}

func TestSaveMakesNoLog(t *testing.T) {
	d := newDisk(t, 1000)
	l := openAs(t, d, nil, nil)
	must(t, l.Save(list("s")))
	checkNames(t, d, "snap")
	checkFile(t, d, "snap", sealed(1, list("s")...), len(sealed(1, list("s")...)))
	openAs(t, d, list("s"), nil)
	checkNames(t, d, "snap")
}

func TestSaveOfNothing(t *testing.T) {
	for _, state := range [][][]byte{nil, {}} {
		d := newDisk(t, 1000)
		l := openAs(t, d, nil, nil)
		must(t, l.Put([]byte("a")))
		must(t, l.Save(state))
		checkFile(t, d, "snap", sealed(1), len(sealed(1)))
		checkLen(t, l, 0)
		l = openAs(t, d, nil, nil)
		must(t, l.Put([]byte("b")))
		checkFile(t, d, "log", sealed(1, list("b")...), 0)
		openAs(t, d, nil, list("b"))
	}
}

func TestGenerationsRise(t *testing.T) {
	d := newDisk(t, api.MaxRoom)
	l := openAs(t, d, nil, nil)
	for generation := range int64(200) {
		must(t, l.Put([]byte("a")))
		checkFile(t, d, "log", sealed(generation, list("a")...), 0)
		must(t, l.Save(list("s")))
		snap := sealed(generation+1, list("s")...)
		checkFile(t, d, "snap", snap, len(snap))
		if generation%3 == 0 { // whoever goes on
			l = openAs(t, d, list("s"), nil)
		}
		if generation%7 == 0 { // a state with nothing since
			before := told(d)
			must(t, l.Put([]byte("b")))
			d.Crash(0)
			l = openAs(t, d, list("s"), nil)
			if told(d) != before {
				t.Fatalf("%s, not %s", told(d), before)
			}
		}
	}
}

func TestSaveOfGreatGenerations(t *testing.T) {
	for _, generation := range []int64{62, 63, 64, 1<<31 - 1, 1 << 31, 1 << 40, math.MaxInt64 - 1} {
		d := files(t, sealed(generation, list("s")...), sealed(generation, list("a")...), nil)
		l := openAs(t, d, list("s"), list("a"))
		must(t, l.Save(list("t")))
		snap := sealed(generation+1, list("t")...)
		checkFile(t, d, "snap", snap, len(snap))
		must(t, l.Put([]byte("b")))
		checkFile(t, d, "log", sealed(generation+1, list("b")...), 0)
		openAs(t, d, list("t"), list("b"))
	}
}

func TestSaveOfWhatMayNotBe(t *testing.T) {
	good, most, over := []byte("a"), make([]byte, api.MaxFrame), make([]byte, api.MaxFrame+1)
	d := newDisk(t, 3000)
	l := openAs(t, d, nil, nil)
	must(t, l.Save([][]byte{good, most}))
	must(t, l.Put([]byte("b")))
	before := told(d)
	for _, state := range [][][]byte{
		{nil}, {{}}, {over}, {good, nil}, {nil, good}, {good, {}, good}, {good, most, over}, {over, good, most},
		{most, most, most, over}, // there is no room, either
		{make([]byte, 1<<16+1)},
	} {
		checkErr(t, fmt.Sprint(len(state), " frames"), l.Save(state), api.ErrArg)
		checkLen(t, l, 1)
		if told(d) != before {
			t.Fatalf("it changed the disk: %s, not %s", told(d), before)
		}
	}
	checkErr(t, "what may be", l.Save([][]byte{most, good}), api.OK)
	openAs(t, d, [][]byte{most, good}, nil)
}

func TestSaveFull(t *testing.T) {
	for _, c := range []struct{ state, records [][]byte }{
		{nil, nil}, {list("state"), nil}, {nil, list("a", "b")}, {list("state"), list("a", "b")},
	} {
		for _, next := range [][][]byte{nil, list("new"), list("n", "e", "w")} {
			for short := range 40 {
				saveShort(t, c.state, c.records, next, short)
			}
		}
	}
}

// saveShort saves next on a disk that has room for it but for so many bytes.
func saveShort(t *testing.T, state, records, next [][]byte, short int) {
	t.Helper()
	snap, log, saved := sealed(1, state...), sealed(1, records...), sealed(2, next...)
	room := len(snap) + len(log) + len(saved) - short
	if room < len(snap)+len(log) {
		return
	}
	d := newDisk(t, room)
	must(t, d.Append("snap", snap))
	must(t, d.Sync("snap"))
	must(t, d.Append("log", log))
	must(t, d.Sync("log"))
	l := openAs(t, d, state, records)
	if short == 0 {
		checkErr(t, "just enough room", l.Save(next), api.OK)
		checkFile(t, d, "snap", saved, len(saved))
		checkNames(t, d, "log", "snap")
		checkLen(t, l, 0)
		openAs(t, d, next, nil)
		return
	}
	before := told(d)
	checkErr(t, "too little room", l.Save(next), api.ErrFull)
	if told(d) != before {
		t.Errorf("it changed the disk: %s, not %s", told(d), before)
	}
	checkLen(t, l, len(records))
	openAs(t, d, state, records)
}

func TestSaveFullGoesOn(t *testing.T) {
	d := newDisk(t, 60)
	l := openAs(t, d, nil, nil)
	must(t, l.Put([]byte("a")))
	checkErr(t, "too much", l.Save(list(strings.Repeat("x", 50))), api.ErrFull)
	must(t, l.Put([]byte("b")))
	checkLen(t, l, 2)
	must(t, l.Sync())
	d.Crash(0)
	l = openAs(t, d, nil, list("a", "b"))
	must(t, l.Save(list("ab")))
	openAs(t, d, list("ab"), nil)
}

func TestSaveWithALeftNext(t *testing.T) {
	d := newDisk(t, 100)
	l := openAs(t, d, nil, nil)
	must(t, d.Append("next", []byte("left")))
	must(t, l.Save(list("s")))
	checkNames(t, d, "snap")
	openAs(t, d, list("s"), nil)
	must(t, d.Append("next", []byte("left")))
	checkErr(t, "no room", l.Save(list(strings.Repeat("x", 100))), api.ErrFull)
	checkNames(t, d, "snap")
	openAs(t, d, list("s"), nil)
}

func TestLogsOnOneDisk(t *testing.T) {
	d := newDisk(t, 1000)
	first, second := openAs(t, d, nil, nil), openAs(t, d, nil, nil)
	must(t, first.Put([]byte("a")))
	must(t, second.Put([]byte("b")))
	openAs(t, d, nil, list("a", "b"))
	must(t, first.Save(list("s")))
	must(t, second.Put([]byte("c")))
	must(t, first.Put([]byte("d")))
	openAs(t, d, list("s"), list("c", "d"))
	must(t, second.Save(list("t")))
	must(t, first.Put([]byte("e")))
	openAs(t, d, list("t"), list("e"))
}

func TestNil(t *testing.T) {
	for _, l := range []*seal.Log{nil, new(seal.Log)} {
		for _, record := range list("", "a", strings.Repeat("x", 2000)) {
			checkErr(t, "Put", l.Put(record), api.ErrArg)
		}
		checkErr(t, "Sync", l.Sync(), api.ErrArg)
		for _, state := range [][][]byte{nil, list("a"), list("")} {
			checkErr(t, "Save", l.Save(state), api.ErrArg)
		}
		checkLen(t, l, 0)
	}
}

// Promise 6.4 (and T4): behind a crash at any place.

// openBehindCrashes opens what each crash of a copy of d leaves.
func openBehindCrashes(t *testing.T, d *disk.Disk, check func(state, records [][]byte)) {
	t.Helper()
	for keep := -1; keep <= d.Used()+1; keep++ {
		other := d.Copy()
		other.Crash(keep)
		l, state, records := open(t, other)
		check(state, records)
		after := told(other)
		other.Crash(0)
		if told(other) != after {
			t.Errorf("what was opened was not synced: %s, not %s", told(other), after)
		}
		must(t, l.Put([]byte("on")))
		must(t, l.Sync())
		other.Crash(0)
		openAs(t, other, state, append(slices.Clone(records), []byte("on")))
		must(t, l.Save(list("saved")))
		other.Crash(0)
		openAs(t, other, list("saved"), nil)
	}
}

func TestACrashLeavesABeginning(t *testing.T) {
	for _, state := range [][][]byte{nil, list("state", "of it")} {
		d := newDisk(t, 1000)
		l := openAs(t, d, nil, nil)
		if state != nil {
			must(t, l.Put([]byte("elder")))
			must(t, l.Save(state))
		}
		var all [][]byte
		synced := 0
		for n := range 6 {
			record := bytes.Repeat([]byte{'a' + byte(n)}, n+1)
			must(t, l.Put(record))
			all = append(all, record)
			if n == 2 {
				must(t, l.Sync())
				synced = n + 1
			}
			openBehindCrashes(t, d, func(gotState, gotRecords [][]byte) {
				if !same(gotState, state) || !begins(all, gotRecords) || len(gotRecords) < synced {
					t.Errorf("%q, %q, %d of which were synced: %q, %q", state, all, synced, gotState, gotRecords)
				}
			})
		}
	}
}

// saveSteps are what Save does to a disk, one by one.
func saveSteps(next []byte) []func(d *disk.Disk) int {
	return []func(d *disk.Disk) int{
		func(d *disk.Disk) int { return d.Append("next", next) },
		func(d *disk.Disk) int { return d.Sync("next") },
		func(d *disk.Disk) int { return d.Rename("next", "snap") },
		func(d *disk.Disk) int { d.Cut("log", 0); return api.OK },
	}
}

func TestACrashAtAnyPlaceOfSave(t *testing.T) {
	next := list("new", "state")
	for _, c := range []struct {
		generation    int64
		state         [][]byte
		synced, since [][]byte
	}{
		{0, nil, nil, nil}, {0, nil, list("a"), nil}, {0, nil, nil, list("b", "c")}, {0, nil, list("a"), list("b", "c")},
		{1, list("old"), nil, nil}, {1, list("old"), list("a"), list("b", "c")},
		{63, list("old"), list("a"), list("b", "c")},
	} {
		d := newDisk(t, api.MaxRoom)
		if c.generation > 0 {
			must(t, d.Append("snap", sealed(c.generation, c.state...)))
			must(t, d.Sync("snap"))
		}
		l := openAs(t, d, c.state, nil)
		for _, record := range c.synced {
			must(t, l.Put(record))
		}
		must(t, l.Sync())
		for _, record := range c.since {
			must(t, l.Put(record))
		}
		all := slices.Concat(c.synced, c.since)
		whole := d.Copy()
		for done, step := range saveSteps(sealed(c.generation+1, next...)) {
			must(t, step(d))
			openBehindCrashes(t, d, func(state, records [][]byte) {
				before := same(state, c.state) && begins(all, records) && len(records) >= len(c.synced)
				after := same(state, next) && len(records) == 0
				if done < 2 && !before || done >= 2 && !after {
					t.Errorf("behind step %d of Save: %q, %q", done+1, state, records)
				}
			})
		}
		l, _, _ = open(t, whole)
		must(t, l.Save(next))
		if told(whole) != told(d) {
			t.Errorf("Save does it otherwise: %s, not %s", told(whole), told(d))
		}
	}
}

// Promises 6.1 to 6.4, of any calls, beside a plain log.

// plain is a log told by the chapter's words, of files that only it writes.
type plain struct {
	room           int
	generation     int64
	state, records [][]byte
	synced         int  // bytes of "log"
	hasLog, hasGen bool // whether "log" is there, and whether it begins with its generation
}

func (p *plain) snap() []byte {
	if p.generation == 0 {
		return nil
	}
	return sealed(p.generation, p.state...)
}

func (p *plain) log() []byte {
	if !p.hasGen {
		return nil
	}
	return sealed(p.generation, p.records...)
}

func (p *plain) told() string {
	var out strings.Builder
	fmt.Fprintf(&out, "%d bytes\n", len(p.snap())+len(p.log()))
	if p.hasLog {
		fmt.Fprintf(&out, "%q: %x, 0, %d synced\n", "log", p.log(), p.synced)
	}
	if p.generation > 0 {
		fmt.Fprintf(&out, "%q: %x, 0, %d synced\n", "snap", p.snap(), len(p.snap()))
	}
	return out.String()
}

func mayStand(record []byte) bool { return len(record) >= 1 && len(record) <= 1000 }

func (p *plain) put(record []byte) int {
	if !mayStand(record) {
		return api.ErrArg
	}
	after := *p
	after.hasLog, after.hasGen = true, true
	after.records = append(slices.Clone(p.records), record)
	if len(after.snap())+len(after.log()) > p.room {
		return api.ErrFull
	}
	*p = after
	return api.OK
}

func (p *plain) sync() int {
	p.synced = len(p.log())
	return api.OK
}

func (p *plain) save(state [][]byte) int {
	if !same(slices.DeleteFunc(slices.Clone(state), func(b []byte) bool { return !mayStand(b) }), state) {
		return api.ErrArg
	}
	if len(p.snap())+len(p.log())+len(sealed(p.generation+1, state...)) > p.room {
		return api.ErrFull
	}
	*p = plain{room: p.room, generation: p.generation + 1, state: state, hasLog: p.hasLog}
	return api.OK
}

// crash lets as many whole frames of "log" be there as keep leaves room for.
func (p *plain) crash(keep int) {
	length := len(p.log())
	left := min(length, p.synced+max(keep, 0))
	for len(p.log()) > left && len(p.records) > 0 {
		p.records = p.records[:len(p.records)-1]
	}
	if len(p.log()) > left {
		p.hasGen = false
	}
	p.synced = len(p.log())
}

// someRecord answers a record, now and then one that may not be.
func someRecord(random *rand.Rand) []byte {
	length := 1 + random.Intn(12)
	switch random.Intn(12) {
	case 0:
		length = 0
	case 1:
		length = 995 + random.Intn(10)
	}
	record := make([]byte, length)
	random.Read(record)
	return record
}

// anyCalls makes so many calls on a log and beside it on a plain one.
func anyCalls(t *testing.T, seed, count int) string {
	random := rand.New(rand.NewSource(int64(seed)))
	p := &plain{room: random.Intn(1 << (4 + random.Intn(10)))}
	d := newDisk(t, p.room)
	l := openAs(t, d, nil, nil)
	var calls strings.Builder
	for range count {
		call, got, err := "", 0, 0
		switch random.Intn(8) {
		case 0:
			call, got, err = "Sync", l.Sync(), p.sync()
		case 1:
			var state [][]byte
			for range random.Intn(4) {
				state = append(state, someRecord(random))
			}
			call, got, err = fmt.Sprintf("Save %x", state), l.Save(state), p.save(state)
		case 2:
			keep := random.Intn(60) - 10
			call = fmt.Sprintf("Crash %d", keep)
			d.Crash(keep)
			p.crash(keep)
			l = openAs(t, d, p.state, p.records)
		case 3:
			call = "Open of a copy"
			d = d.Copy()
			p.sync()
			l = openAs(t, d, p.state, p.records)
		default:
			record := someRecord(random)
			call, got, err = fmt.Sprintf("Put %x", record), l.Put(record), p.put(record)
		}
		fmt.Fprintf(&calls, "%s: %d, %s", call, got, told(d))
		if got != err || told(d) != p.told() || l.Len() != len(p.records) || t.Failed() {
			t.Fatalf("seed %d, room %d: %.4000s: %d (Len %d), not %d (Len %d); %snot %s", seed, p.room, calls.String(), got, l.Len(), err, len(p.records), told(d), p.told())
		}
	}
	return calls.String()
}

func TestAnyCalls(t *testing.T) {
	for seed := range 400 {
		anyCalls(t, seed, 100)
	}
}

// Rule 3: the same calls give the same answers.

func TestSameCallsSameAnswers(t *testing.T) {
	for seed := range 10 {
		if anyCalls(t, seed, 50) != anyCalls(t, seed, 50) {
			t.Error("two runs of the same calls differ")
		}
	}
}

func TestOpenOfALogWithoutAGeneration(t *testing.T) {
	for _, first := range [][]byte{[]byte("none"), {1}, {0, 0}, {0x80, 0}, {0xff}} {
		d := files(t, nil, append(framed(first), framed([]byte("a"))...), nil)
		openAs(t, d, nil, nil)
		checkFile(t, d, "log", nil, 0)
	}
}

// Rule 1: no call panics, though others wrote on the disk.

func TestOpenOfWhatOthersWrote(t *testing.T) {
	strange := [][]byte{
		nil, {}, {0}, []byte("what is this"), make([]byte, 50),
		framed([]byte("no generation")), framed([]byte{1}), framed([]byte{2, 0}), framed([]byte{0x80, 0}), framed(nil),
		bytes.Repeat([]byte{0xff}, 100), sealed(0), sealed(1, list("a")...), sealed(math.MaxInt64, list("a")...),
	}
	for _, snap := range strange {
		for _, log := range strange {
			d := files(t, snap, log, snap)
			l, _, _ := open(t, d)
			checkErr(t, "Put", l.Put([]byte("a")), api.OK)
			checkErr(t, "Sync", l.Sync(), api.OK)
			checkErr(t, "Save", l.Save(list("s")), api.OK)
			checkErr(t, "Put", l.Put([]byte("b")), api.OK)
			checkLen(t, l, 1)
			openAs(t, d, list("s"), list("b"))
		}
	}
}

// Rule 2: what is handed in is not changed and not kept; what is answered is the caller's own.

func TestArgumentsAndAnswersAreTheCallers(t *testing.T) {
	d := newDisk(t, 1000)
	l := openAs(t, d, nil, nil)
	state, record := list("state", "of it"), []byte("record")
	must(t, l.Save(state))
	must(t, l.Put(record))
	if !same(state, list("state", "of it")) || string(record) != "record" {
		t.Errorf("they were changed: %q, %q", state, record)
	}
	state[0][0], state[1], record[0] = 'X', []byte("X"), 'X'
	_, gotState, gotRecords := open(t, d)
	for _, got := range [][][]byte{gotState, gotRecords} {
		for i := range got {
			got[i][0] = 'Y'
			_ = append(got[i], 'Z')
		}
		_ = append(got, []byte("more"))
	}
	if !same(gotState, list("Ytate", "Yf it")) || !same(gotRecords, list("Yecord")) {
		t.Errorf("answers share memory: %q, %q", gotState, gotRecords)
	}
	openAs(t, d, list("state", "of it"), list("record"))
}

// Rule 1: every call ends, though there be much.

func TestMuch(t *testing.T) {
	d := newDisk(t, api.MaxRoom)
	l := openAs(t, d, nil, nil)
	count := 0
	for l.Put([]byte{byte(count)}) == api.OK {
		count++
	}
	if most := (api.MaxRoom - 7) / 7; count != most || l.Len() != most {
		t.Errorf("%d records, Len %d, not %d", count, l.Len(), most)
	}
	_, _, records := open(t, d)
	for i, record := range records {
		if len(record) != 1 || record[0] != byte(i) {
			t.Fatalf("record %d: %x", i, record)
		}
	}
	if len(records) != count {
		t.Errorf("%d of %d records were found", len(records), count)
	}
}
