package frame_test

import (
	"bytes"
	"encoding/binary"
	"encoding/hex"
	"hash/crc32"
	"math"
	"math/rand"
	"slices"
	"testing"

	"sojourn/api"
	"sojourn/frame"
)

// framed answers the frame of a record with this sum and length, whether they are right or not.
func framed(sum uint32, length int, record []byte) []byte {
	out := binary.LittleEndian.AppendUint32(nil, sum)
	out = binary.LittleEndian.AppendUint16(out, uint16(length))
	return append(out, record...)
}

// right answers the frame of a record with the sum and length that it has; it makes one of no record, and of one too long, too.
func right(record []byte) []byte {
	return framed(crc32.ChecksumIEEE(record), len(record), record)
}

// rights answers the frames of all records, one behind the other.
func rights(records [][]byte) []byte {
	var out []byte
	for _, record := range records {
		out = append(out, right(record)...)
	}
	return out
}

// filled answers length bytes, none like its neighbours.
func filled(length int) []byte {
	out := make([]byte, length)
	for i := range out {
		out[i] = byte(7*i + i/256 + 1)
	}
	return out
}

// same tells whether two lists of records are the same.
func same(a, b [][]byte) bool {
	return slices.EqualFunc(a, b, bytes.Equal)
}

// checkOne fails if One does not answer this record and place.
func checkOne(t *testing.T, b []byte, at int, record []byte, behind int) {
	t.Helper()
	if got, place := frame.One(b, at); !bytes.Equal(got, record) || place != behind {
		t.Errorf("One(%x, %d): %x, %d, not %x, %d", b, at, got, place, record, behind)
	}
}

// checkNone fails if One finds a frame, or answers anything but nothing and -1.
func checkNone(t *testing.T, b []byte, at int) {
	t.Helper()
	checkOne(t, b, at, nil, -1)
}

// checkRead fails if Read does not answer these records and this place.
func checkRead(t *testing.T, b []byte, records [][]byte, behind int) {
	t.Helper()
	if got, place := frame.Read(b); !same(got, records) || place != behind {
		t.Errorf("Read(%x): %x, %d, not %x, %d", b, got, place, records, behind)
	}
}

// Promise 4.1: Put and One.

func TestPutByHand(t *testing.T) {
	for record, digits := range map[string]string{
		"123456789": "2639f4cb" + "0900" + "313233343536373839",
		"a":         "43beb7e8" + "0100" + "61",
		"\x00":      "8def02d2" + "0100" + "00",
	} {
		b, err := frame.Put([]byte(record))
		if hex.EncodeToString(b) != digits || err != api.OK {
			t.Errorf("Put(%q): %x, %d, not %s", record, b, err, digits)
		}
		checkOne(t, b, 0, []byte(record), len(b))
	}
}

func TestPutOfAllLengths(t *testing.T) {
	for length := range 3 * api.MaxFrame {
		record := filled(length)
		b, err := frame.Put(record)
		if length < 1 || length > api.MaxFrame {
			if err != api.ErrArg || len(b) != 0 {
				t.Errorf("Put of %d bytes: %x, %d", length, b, err)
			}
			continue
		}
		if err != api.OK || !bytes.Equal(b, right(record)) {
			t.Errorf("Put of %d bytes: %x, %d", length, b, err)
		}
		checkOne(t, b, 0, record, 6+length)
	}
}

func TestPutOfWhatHasNoRoom(t *testing.T) {
	for _, length := range []int{1<<16 - 1, 1 << 16, 1<<16 + 1, 1<<16 + api.MaxFrame, 1 << 17} {
		if b, err := frame.Put(make([]byte, length)); err != api.ErrArg || len(b) != 0 {
			t.Errorf("Put of %d bytes: %x, %d", length, b, err)
		}
	}
	if b, err := frame.Put(nil); err != api.ErrArg || len(b) != 0 {
		t.Errorf("Put(nil): %x, %d", b, err)
	}
}

func TestOneAtAllPlaces(t *testing.T) {
	records := [][]byte{{1}, filled(2), filled(300), filled(api.MaxFrame), {0}}
	b := rights(records)
	begins := map[int][]byte{}
	at := 0
	for _, record := range records {
		begins[at] = record
		at += 6 + len(record)
	}
	for at := -5; at < len(b)+5; at++ {
		if record, ok := begins[at]; ok {
			checkOne(t, b, at, record, at+6+len(record))
		} else {
			checkNone(t, b, at)
		}
	}
}

func TestOneOutOfItsBytes(t *testing.T) {
	good := right([]byte("ab"))
	for _, b := range [][]byte{nil, {}, {0}, good} {
		for _, at := range []int{len(b), len(b) + 1, -1, -6, -len(b), math.MaxInt, math.MaxInt - 5, math.MaxInt - 6, math.MaxInt - 8, math.MinInt, math.MinInt + 8, 1 << 32, -1 << 32} {
			if at != 0 {
				checkNone(t, b, at)
			}
		}
	}
}

func TestOneOfHalfAFrame(t *testing.T) {
	for _, length := range []int{1, 2, 200, 255, 256, 257, api.MaxFrame} {
		good := right(filled(length))
		for n := range good {
			checkNone(t, good[:n], 0) // the rest of it stands behind in memory, but is not handed in
			checkNone(t, good[:n:n], 0)
			checkNone(t, append(bytes.Repeat([]byte{9}, 11), good[:n]...), 11)
		}
	}
}

func TestOneOfAWrongSum(t *testing.T) {
	record := filled(20)
	good := right(record)
	for bit := range 8 * len(good) {
		b := slices.Clone(good)
		b[bit/8] ^= 1 << (bit % 8)
		checkNone(t, b, 0)
		checkNone(t, append(b, filled(70000)...), 0)
	}
	sum := crc32.ChecksumIEEE(record)
	for _, wrong := range []uint32{0, ^uint32(0), ^sum, sum + 1, sum - 1, sum<<8 | sum>>24} {
		checkNone(t, framed(wrong, len(record), record), 0)
	}
	turned := binary.BigEndian.AppendUint32(nil, sum)
	turned = binary.LittleEndian.AppendUint16(turned, 20)
	checkNone(t, append(turned, record...), 0)
}

func TestOneOfAWrongLength(t *testing.T) {
	record := filled(20)
	sum := crc32.ChecksumIEEE(record)
	for length := range 1 << 16 {
		if length != len(record) {
			checkNone(t, framed(sum, length, record), 0)
		}
	}
	turned := binary.BigEndian.AppendUint16(binary.LittleEndian.AppendUint32(nil, sum), 20)
	checkNone(t, append(turned, record...), 0)
}

func TestOneOfWhatMayNotBePut(t *testing.T) {
	checkNone(t, right(nil), 0)
	checkNone(t, make([]byte, 6), 0)
	checkNone(t, make([]byte, 1000), 0)
	for _, length := range []int{api.MaxFrame + 1, api.MaxFrame + 2, 2000, 1<<15 + 1, 1<<16 - 1} {
		b := right(filled(length))
		checkNone(t, b, 0)
		checkRead(t, b, nil, 0)
	}
	// 2^16 bytes more than one that may be: of the length two bytes are kept.
	long := filled(1<<16 + 10)
	checkNone(t, right(long), 0)
}

func TestOneLooksAtItsOwnFrameAlone(t *testing.T) {
	good := right([]byte("ab"))
	b := slices.Concat(filled(5), good, filled(9))
	checkOne(t, b, 5, []byte("ab"), 13)
	checkRead(t, b, nil, 0)
	checkRead(t, b[5:], [][]byte{[]byte("ab")}, 8)
}

// Promise 4.2: Read.

func TestReadOfWholeFrames(t *testing.T) {
	var records [][]byte
	for _, length := range []int{1, 2, 255, 256, 257, 999, api.MaxFrame, 1} {
		checkRead(t, rights(records), records, len(rights(records)))
		records = append(records, filled(length))
	}
	checkRead(t, rights(records), records, len(rights(records)))
}

func TestReadOfNothing(t *testing.T) {
	checkRead(t, nil, nil, 0)
	checkRead(t, []byte{}, nil, 0)
	checkRead(t, []byte{1}, nil, 0)
	checkRead(t, make([]byte, 600), nil, 0)
	checkRead(t, bytes.Repeat([]byte{255}, 600), nil, 0)
}

func TestReadOfSameRecords(t *testing.T) {
	var records [][]byte
	for range 5000 {
		records = append(records, []byte{7})
	}
	checkRead(t, rights(records), records, 7*len(records))
}

func TestReadEndsAtWhatIsNoFrame(t *testing.T) {
	first, second, third := []byte("one"), []byte("second"), []byte("the third")
	begin := rights([][]byte{first, second})
	for name, between := range map[string][]byte{
		"a byte":               {0},
		"no record":            right(nil),
		"zeros":                make([]byte, 12),
		"a record too long":    right(filled(api.MaxFrame + 1)),
		"a wrong sum":          framed(1, 1, []byte{1}),
		"a length beyond":      framed(crc32.ChecksumIEEE(third), 500, third),
		"a length too short":   framed(crc32.ChecksumIEEE(third), 3, third),
		"half a frame":         right(third)[:8],
		"a frame's last bytes": right(third)[1:],
	} {
		b := slices.Concat(begin, between, right(third))
		records, behind := frame.Read(b)
		if !same(records, [][]byte{first, second}) || behind != len(begin) {
			t.Errorf("%s: %x, %d", name, records, behind)
		}
	}
}

// Promise 4.3, and T4: a torn end is cut off, and nothing else.

func TestATornEndIsCutOff(t *testing.T) {
	records := [][]byte{{1}, filled(30), {2}, filled(300), filled(api.MaxFrame), {3, 4}}
	b := rights(records)
	whole, end := 0, 0
	for n := range len(b) + 1 {
		if whole < len(records) && n == end+6+len(records[whole]) {
			end = n
			whole++
		}
		checkRead(t, b[:n], records[:whole], end)
	}
	if whole != len(records) {
		t.Errorf("%d whole frames of %d", whole, len(records))
	}
}

func TestWhatIsCutGoesOn(t *testing.T) {
	b := rights([][]byte{[]byte("one"), []byte("second")})
	for n := range len(b) {
		records, end := frame.Read(b[:n])
		more, _ := frame.Put([]byte("new"))
		again, behind := frame.Read(append(slices.Clone(b[:end]), more...))
		if !same(again, append(records, []byte("new"))) || behind != end+len(more) {
			t.Errorf("cut at %d, then at %d: %q, %d", n, end, again, behind)
		}
	}
}

func TestATurnedByteEndsIt(t *testing.T) {
	records := [][]byte{{1}, filled(30), {2}, filled(300), {3, 4}}
	b := rights(records)
	begin := 0
	for i, record := range records {
		behind := begin + 6 + len(record)
		for at := begin; at < behind; at++ {
			b[at] ^= 16
			checkRead(t, b, records[:i], begin)
			b[at] ^= 16
		}
		begin = behind
	}
}

// randomRecords answers up to 20 records of random bytes.
func randomRecords(random *rand.Rand) [][]byte {
	var records [][]byte
	for range random.Intn(21) {
		record := make([]byte, 1+random.Intn(api.MaxFrame)>>random.Intn(10))
		random.Read(record)
		records = append(records, record)
	}
	return records
}

func TestWhatWasPutIsRead(t *testing.T) {
	random := rand.New(rand.NewSource(43))
	for range 300 {
		records := randomRecords(random)
		var b []byte
		for _, record := range records {
			was := bytes.Clone(record)
			more, err := frame.Put(record)
			if err != api.OK || !bytes.Equal(record, was) {
				t.Fatalf("Put(%x): %d, %x", was, err, record)
			}
			b = append(b, more...)
		}
		torn := make([]byte, random.Intn(40))
		random.Read(torn)
		was := slices.Concat(b, torn)
		all := bytes.Clone(was)
		checkRead(t, all, records, len(b))
		if !bytes.Equal(all, was) {
			t.Fatalf("%x became %x", was, all)
		}
	}
}

// Answers are the caller's own.

func TestAnswersAreTheCallersOwn(t *testing.T) {
	record := []byte("record")
	first, _ := frame.Put(record)
	second, _ := frame.Put(record)
	b := slices.Concat(first, second)
	clear(first)
	if !bytes.Equal(second, right(record)) || string(record) != "record" {
		t.Errorf("%x, %q", second, record)
	}
	records, _ := frame.Read(b)
	one, _ := frame.One(b, 0)
	clear(one)
	records[0] = append(records[0], "more"...)
	clear(records[0])
	if string(records[1]) != "record" {
		t.Errorf("%q", records[1])
	}
	checkRead(t, b, [][]byte{record, record}, len(b))
	kept, _ := frame.Read(b)
	clear(b)
	if !same(kept, [][]byte{record, record}) {
		t.Errorf("%q", kept)
	}
}

func TestBytesOfALargerArray(t *testing.T) {
	all := slices.Concat(right([]byte("ab")), right([]byte("cd")), right([]byte("ef")))
	checkRead(t, all[8:16], [][]byte{[]byte("cd")}, 8)
	checkRead(t, all[:8], [][]byte{[]byte("ab")}, 8)
	if !bytes.Equal(all, rights([][]byte{[]byte("ab"), []byte("cd"), []byte("ef")})) {
		t.Errorf("%x", all)
	}
}

func FuzzRead(f *testing.F) {
	random := rand.New(rand.NewSource(44))
	for range 10 {
		f.Add(rights(randomRecords(random)), random.Intn(20))
	}
	f.Add(make([]byte, 20), 3)
	f.Fuzz(func(t *testing.T, b []byte, at int) {
		was := bytes.Clone(b)
		records, end := frame.Read(b)
		if end < 0 || end > len(b) || !bytes.Equal(rights(records), b[:end]) {
			t.Errorf("Read(%x): %x, %d", b, records, end)
		}
		checkNone(t, b, end)
		if record, behind := frame.One(b, at); behind < 0 {
			checkNone(t, b, at)
		} else if again, err := frame.Put(record); err != api.OK || !bytes.Equal(again, b[at:behind]) {
			t.Errorf("One(%x, %d): %x, %d", b, at, record, behind)
		}
		if !bytes.Equal(b, was) {
			t.Errorf("%x became %x", was, b)
		}
	})
}
