package net_test

import (
	"bytes"
	"fmt"
	"math"
	"math/rand"
	"slices"
	"strings"
	"testing"

	"sojourn/api"
	"sojourn/net"
)

// most are edges of how many messages may be on their way.
var most = []int{0, 1, 2, 3, api.MaxFlight - 1, api.MaxFlight}

// far are numbers that are no node of any net, and no place on it.
var far = []int{math.MinInt, math.MinInt + 1, -1 << 32, 1 - 1<<32, -16, -2, -1, api.MaxFlight, 1 << 16, 1 << 31, 1 << 32, 1<<32 + 1, math.MaxInt - 1, math.MaxInt}

// newNet answers a net of that size.
func newNet(t testing.TB, nodes, most int) *net.Net {
	t.Helper()
	n, err := net.New(nodes, most)
	if n == nil || err != api.OK {
		t.Fatalf("New(%d, %d): %v, %d", nodes, most, n, err)
	}
	return n
}

// send sends a message.
func send(t testing.TB, n *net.Net, from, to int, text string) {
	t.Helper()
	if err := n.Send(from, to, []byte(text)); err != api.OK {
		t.Fatalf("Send(%d, %d, %q): %d", from, to, text, err)
	}
}

// ok fails if a call was not done.
func ok(t testing.TB, call string, err int) {
	t.Helper()
	if err != api.OK {
		t.Fatalf("%s: %d", call, err)
	}
}

// checkErr fails if another error was told.
func checkErr(t *testing.T, call string, got, want int) {
	t.Helper()
	if got != want {
		t.Errorf("%s: %d, not %d", call, got, want)
	}
}

// checkTake fails if another message is taken.
func checkTake(t *testing.T, n *net.Net, k, from, to int, text string) {
	t.Helper()
	f, w, b, err := n.Take(k)
	if f != from || w != to || string(b) != text || err != api.OK {
		t.Errorf("Take(%d): %d, %d, %q, %d, not %d, %d, %q", k, f, w, b, err, from, to, text)
	}
}

// checkNotTaken fails if Take tells something, or another error.
func checkNotTaken(t *testing.T, n *net.Net, k, want int) {
	t.Helper()
	f, w, b, err := n.Take(k)
	if f != 0 || w != 0 || len(b) != 0 || err != want {
		t.Errorf("Take(%d): %d, %d, %q, %d, not nothing and %d", k, f, w, b, err, want)
	}
}

// checkLine fails if the messages that are on their way are for other nodes.
func checkLine(t *testing.T, n *net.Net, to ...int) {
	t.Helper()
	if n.Len() != len(to) {
		t.Errorf("Len: %d, not %d", n.Len(), len(to))
	}
	for k, node := range to {
		if n.To(k) != node {
			t.Errorf("To(%d): %d, not %d", k, n.To(k), node)
		}
	}
	for _, k := range append([]int{len(to), len(to) + 1}, far...) {
		if k >= 0 && k < len(to) {
			continue
		}
		if n.To(k) != -1 {
			t.Errorf("To(%d) of %d: %d, not -1", k, len(to), n.To(k))
		}
	}
}

// checkTexts fails if other messages are on their way; all of them are taken, from the first one on.
func checkTexts(t *testing.T, n *net.Net, texts ...string) {
	t.Helper()
	var got []string
	for n.Len() > 0 {
		_, _, b, err := n.Take(0)
		ok(t, "Take(0)", err)
		got = append(got, string(b))
	}
	if !slices.Equal(got, texts) {
		t.Errorf("%q were on their way, not %q", got, texts)
	}
}

// letters answers a net of 5 nodes on which messages from 0 are on their way, a letter each; the first one is for 1, those behind it for 2, 3, 4, 0, 1 ..
func letters(t testing.TB, texts string) *net.Net {
	t.Helper()
	n := newNet(t, 5, api.MaxFlight)
	for k, letter := range texts {
		send(t, n, 0, (k+1)%5, string(letter))
	}
	return n
}

// told answers all that a net tells without a change.
func told(n *net.Net) string {
	var out strings.Builder
	for k := -1; k <= n.Len(); k++ {
		fmt.Fprint(&out, n.To(k), " ")
	}
	for node := -1; node <= 16; node++ {
		fmt.Fprint(&out, n.Is(node), " ")
	}
	return out.String()
}

// Promise 8.1: New.

func TestNewOfSizes(t *testing.T) {
	for nodes := 1; nodes <= 16; nodes++ {
		for _, most := range most {
			n := newNet(t, nodes, most)
			checkLine(t, n)
			for node := range nodes {
				if !n.Is(node) {
					t.Errorf("New(%d, %d): %d is down", nodes, most, node)
				}
			}
			if n.Is(nodes) || n.Is(-1) {
				t.Errorf("New(%d, %d): one node too many", nodes, most)
			}
		}
	}
}

func TestNewOfNoSize(t *testing.T) {
	checkNone := func(nodes, most int) {
		if n, err := net.New(nodes, most); n != nil || err != api.ErrArg {
			t.Errorf("New(%d, %d): %v, %d", nodes, most, n, err)
		}
	}
	for _, nodes := range append([]int{0, 17, 18, 32}, far...) {
		for _, most := range most {
			checkNone(nodes, most)
		}
		checkNone(nodes, -1)
	}
	for _, most := range append([]int{api.MaxFlight + 1}, far...) {
		if most != api.MaxFlight {
			checkNone(1, most)
			checkNone(16, most)
		}
	}
}

func TestNetsAreApart(t *testing.T) {
	one, other := newNet(t, 2, 2), newNet(t, 2, 2)
	send(t, one, 0, 1, "a")
	ok(t, "Up", one.Up(0, false))
	checkLine(t, other)
	if !other.Is(0) {
		t.Error("a node of another net went down")
	}
	send(t, other, 1, 0, "b")
	checkTake(t, other, 0, 1, 0, "b")
	checkTake(t, one, 0, 0, 1, "a")
}

// Promise 8.1: Send.

func TestSendOfNodes(t *testing.T) {
	for _, nodes := range []int{1, 2, 5, 15, 16} {
		n := newNet(t, nodes, api.MaxFlight)
		for from := range nodes {
			for to := range nodes {
				send(t, n, from, to, fmt.Sprint(from, to))
			}
		}
		for from := range nodes {
			for to := range nodes {
				checkTake(t, n, 0, from, to, fmt.Sprint(from, to))
			}
		}
		checkLine(t, n)
	}
}

func TestSendOfNoNodes(t *testing.T) {
	for _, nodes := range []int{1, 5, 16} {
		for _, size := range []int{0, 1, 9} { // ErrArg goes ahead of ErrFull
			n := newNet(t, nodes, size)
			for _, node := range append([]int{nodes, nodes + 1, 17}, far...) {
				checkErr(t, fmt.Sprintf("Send(%d, 0)", node), n.Send(node, 0, []byte("a")), api.ErrArg)
				checkErr(t, fmt.Sprintf("Send(0, %d)", node), n.Send(0, node, []byte("a")), api.ErrArg)
				checkErr(t, fmt.Sprintf("Send(%d, %d)", node, node), n.Send(node, node, nil), api.ErrArg)
			}
			checkLine(t, n)
		}
	}
}

func TestSendIsTheLastOne(t *testing.T) {
	n := newNet(t, 5, 9)
	for i, to := range []int{3, 0, 4, 4, 1, 2} {
		send(t, n, 4-to, to, strings.Repeat("x", i))
		if n.Len() != i+1 || n.To(i) != to {
			t.Errorf("Len %d, To(%d) %d, not %d, %d", n.Len(), i, n.To(i), i+1, to)
		}
	}
	checkLine(t, n, 3, 0, 4, 4, 1, 2)
	checkTexts(t, n, "", "x", "xx", "xxx", "xxxx", "xxxxx")
}

func TestSendFull(t *testing.T) {
	for _, size := range most {
		n := newNet(t, 3, size)
		for i := range size {
			send(t, n, 0, i%3, fmt.Sprint(i))
		}
		for to := range 3 {
			checkErr(t, "Send to the full net", n.Send(0, to, []byte("lost")), api.ErrFull)
		}
		if n.Len() != size {
			t.Fatalf("Len: %d, not %d", n.Len(), size)
		}
		if size == 0 {
			continue
		}
		ok(t, "Drop", n.Drop(0))
		send(t, n, 0, 1, "again")
		checkErr(t, "Send to the full net", n.Send(0, 1, []byte("lost")), api.ErrFull)
		for i := 1; i < size; i++ {
			checkTake(t, n, 0, 0, i%3, fmt.Sprint(i))
		}
		checkTake(t, n, 0, 0, 1, "again")
		checkLine(t, n)
	}
}

func TestRoomComesBack(t *testing.T) {
	n := newNet(t, 2, 1)
	for i := range 100 {
		send(t, n, 0, 1, "a")
		checkErr(t, "Send to the full net", n.Send(0, 1, nil), api.ErrFull)
		switch i % 3 {
		case 0:
			checkTake(t, n, 0, 0, 1, "a")
		case 1:
			ok(t, "Drop", n.Drop(0))
		case 2:
			ok(t, "Up", n.Up(1, false))
			checkNotTaken(t, n, 0, api.ErrState)
			ok(t, "Up", n.Up(1, true))
		}
	}
	checkLine(t, n)
}

func TestSendOfAnyBytes(t *testing.T) {
	n := newNet(t, 1, 9)
	all := make([]byte, 256)
	for i := range all {
		all[i] = byte(i)
	}
	for _, b := range [][]byte{nil, {}, {0}, {0xff, 0xfe}, []byte("é\x80"), all, bytes.Repeat(all, 1000)} {
		send(t, n, 0, 0, string(b))
		checkTake(t, n, 0, 0, 0, string(b))
	}
}

func TestSendKeepsNothingOfItsArgument(t *testing.T) {
	n := newNet(t, 2, 9)
	b := make([]byte, 3, 9)
	copy(b, "abc")
	ok(t, "Send", n.Send(0, 1, b))
	ok(t, "Double", n.Double(0))
	if string(b[:cap(b)]) != "abc\x00\x00\x00\x00\x00\x00" {
		t.Errorf("Send changed what it was handed: %q", b[:cap(b)])
	}
	copy(b, "xyz")
	checkTexts(t, n, "abc", "abc")
}

// Promise 8.1: Take.

func TestTakeAtAllPlaces(t *testing.T) {
	const texts = "abcdefg"
	for k := range texts {
		n := letters(t, texts)
		checkTake(t, n, k, 0, (k+1)%5, texts[k:k+1])
		line := []int{1, 2, 3, 4, 0, 1, 2}
		checkLine(t, n, slices.Delete(line, k, k+1)...)
		checkTexts(t, n, strings.Split(texts[:k]+texts[k+1:], "")...)
	}
}

func TestNoSuchPlace(t *testing.T) {
	for size := range 4 {
		n := letters(t, "abcd"[:size])
		ok(t, "Up", n.Up(1, false)) // ErrNone goes ahead of ErrState
		before := told(n)
		for _, k := range append([]int{size, size + 1}, far...) {
			checkNotTaken(t, n, k, api.ErrNone)
			checkErr(t, fmt.Sprintf("Double(%d)", k), n.Double(k), api.ErrNone)
			checkErr(t, fmt.Sprintf("Drop(%d)", k), n.Drop(k), api.ErrNone)
			if n.To(k) != -1 {
				t.Errorf("To(%d): %d", k, n.To(k))
			}
		}
		if told(n) != before {
			t.Errorf("%s became %s", before, told(n))
		}
	}
}

func TestTakeForOneThatIsDown(t *testing.T) {
	n := letters(t, "abcdefg")
	ok(t, "Up", n.Up(2, false))
	checkNotTaken(t, n, 1, api.ErrState)
	checkLine(t, n, 1, 3, 4, 0, 1, 2)
	checkNotTaken(t, n, 5, api.ErrState)
	checkLine(t, n, 1, 3, 4, 0, 1)
	checkTexts(t, n, "a", "c", "d", "e", "f")
}

func TestTakeFromOneThatIsDown(t *testing.T) {
	n := newNet(t, 2, 9)
	send(t, n, 0, 1, "before")
	ok(t, "Up", n.Up(0, false))
	send(t, n, 0, 1, "behind")
	checkTexts(t, n, "before", "behind")
}

func TestSendToOneThatIsDown(t *testing.T) {
	n := newNet(t, 2, 9)
	ok(t, "Up", n.Up(1, false))
	for _, text := range []string{"a", "b", "c"} {
		send(t, n, 0, 1, text)
	}
	checkLine(t, n, 1, 1, 1)
	checkNotTaken(t, n, 0, api.ErrState)
	ok(t, "Up", n.Up(1, true)) // what was on its way meanwhile comes; what was lost does not
	checkLine(t, n, 1, 1)
	checkTexts(t, n, "b", "c")
}

func TestAnswersAreTheCallers(t *testing.T) {
	n := newNet(t, 2, 9)
	send(t, n, 0, 1, "abc")
	ok(t, "Double", n.Double(0))
	ok(t, "Double", n.Double(1))
	_, _, first, _ := n.Take(0)
	_, _, second, _ := n.Take(0)
	copy(first, "xyz")
	first = append(first, "more"...)
	if string(second) != "abc" {
		t.Errorf("an answer changed another one: %q", second)
	}
	copy(second, "uvw")
	checkTake(t, n, 0, 0, 1, "abc")
	send(t, n, 0, 1, "def")
	checkTake(t, n, 0, 0, 1, "def")
	if string(first) != "xyzmore" || string(second) != "uvw" {
		t.Errorf("a call changed an answer: %q, %q", first, second)
	}
}

// Promise 8.1: Double.

func TestDoubleOfTheChapter(t *testing.T) {
	n := newNet(t, 2, 9)
	send(t, n, 0, 1, "a")
	ok(t, "Double", n.Double(0))
	checkLine(t, n, 1, 1)
	checkTake(t, n, 0, 0, 1, "a")
	checkTake(t, n, 0, 0, 1, "a")
	checkLine(t, n)
}

func TestDoubleAtAllPlaces(t *testing.T) {
	const texts = "abcdefg"
	for k := range texts {
		n := letters(t, texts)
		ok(t, "Double", n.Double(k))
		checkLine(t, n, 1, 2, 3, 4, 0, 1, 2, (k+1)%5)
		checkTake(t, n, 7, 0, (k+1)%5, texts[k:k+1])
		ok(t, "Double", n.Double(k))
		checkTexts(t, n, strings.Split(texts+texts[k:k+1], "")...)
	}
}

func TestDoubleFull(t *testing.T) {
	for _, size := range most[1:] {
		n := newNet(t, 2, size)
		send(t, n, 1, 0, "a")
		for i := 1; i < size; i++ {
			ok(t, "Double", n.Double(i-1))
		}
		for _, k := range []int{0, size / 2, size - 1} {
			checkErr(t, fmt.Sprintf("Double(%d) of the full net", k), n.Double(k), api.ErrFull)
		}
		checkErr(t, "Double of none of the full net", n.Double(size), api.ErrNone)
		if n.Len() != size {
			t.Errorf("Len: %d, not %d", n.Len(), size)
		}
		checkTake(t, n, size-1, 1, 0, "a")
		if size > 1 {
			ok(t, "Double", n.Double(0))
			checkErr(t, "Double of the full net", n.Double(0), api.ErrFull)
		}
	}
}

func TestDoubleForOneThatIsDown(t *testing.T) {
	n := letters(t, "ab")
	ok(t, "Up", n.Up(1, false))
	ok(t, "Double", n.Double(0))
	checkLine(t, n, 1, 2, 1)
	checkNotTaken(t, n, 0, api.ErrState)
	ok(t, "Up", n.Up(1, true))
	checkTexts(t, n, "b", "a")
}

// Promise 8.1: Drop.

func TestDropAtAllPlaces(t *testing.T) {
	const texts = "abcdefg"
	for k := range texts {
		n := letters(t, texts)
		ok(t, "Drop", n.Drop(k))
		line := []int{1, 2, 3, 4, 0, 1, 2}
		checkLine(t, n, slices.Delete(line, k, k+1)...)
		checkTexts(t, n, strings.Split(texts[:k]+texts[k+1:], "")...)
	}
}

func TestDropForOneThatIsDown(t *testing.T) {
	n := letters(t, "ab")
	ok(t, "Up", n.Up(1, false))
	ok(t, "Drop", n.Drop(0))
	checkTexts(t, n, "b")
}

func TestDropOfOneOfTwo(t *testing.T) {
	for k := range 2 {
		n := letters(t, "a")
		ok(t, "Double", n.Double(0))
		ok(t, "Drop", n.Drop(k))
		checkTexts(t, n, "a")
	}
}

// Promise 8.1: Up, Is.

func TestUp(t *testing.T) {
	n := newNet(t, 16, 9)
	for node := range 16 {
		for _, up := range []bool{false, false, true, true, false} {
			checkErr(t, "Up", n.Up(node, up), api.OK)
			if n.Is(node) != up {
				t.Errorf("Is(%d): %v, not %v", node, n.Is(node), up)
			}
			for other := range 16 {
				if other != node && n.Is(other) != (other > node) {
					t.Errorf("Up(%d, %v) let %d be up: %v", node, up, other, n.Is(other))
				}
			}
		}
	}
}

func TestUpOfNoNode(t *testing.T) {
	for _, nodes := range []int{1, 5, 16} {
		n := newNet(t, nodes, 9)
		before := told(n)
		for _, node := range append([]int{nodes, nodes + 1, 17}, far...) {
			for _, up := range []bool{true, false} {
				checkErr(t, fmt.Sprintf("Up(%d, %v)", node, up), n.Up(node, up), api.ErrNone)
			}
			if n.Is(node) {
				t.Errorf("Is(%d)", node)
			}
		}
		if told(n) != before {
			t.Errorf("%s became %s", before, told(n))
		}
	}
}

func TestUpLeavesWhatIsOnItsWay(t *testing.T) {
	n := letters(t, "abcdefg")
	for node := range 5 {
		for _, up := range []bool{true, false, false, true} {
			ok(t, "Up", n.Up(node, up))
			checkLine(t, n, 1, 2, 3, 4, 0, 1, 2)
		}
	}
	checkTexts(t, n, "a", "b", "c", "d", "e", "f", "g")
}

// Promise 8.1: of nil; and rule 1: no call panics.

func TestNil(t *testing.T) {
	var none *net.Net
	for _, k := range append([]int{0, 1, 4, 16}, far...) {
		checkErr(t, "Send of nil", none.Send(k, k, []byte("a")), api.ErrNone)
		checkNotTaken(t, none, k, api.ErrNone)
		checkErr(t, "Double of nil", none.Double(k), api.ErrNone)
		checkErr(t, "Drop of nil", none.Drop(k), api.ErrNone)
		checkErr(t, "Up of nil", none.Up(k, true), api.ErrNone)
		checkErr(t, "Up of nil", none.Up(k, false), api.ErrNone)
		if none.To(k) != -1 || none.Is(k) || none.Len() != 0 {
			t.Errorf("of nil: To %d, Is %v, Len %d", none.To(k), none.Is(k), none.Len())
		}
	}
}

func TestZeroNet(t *testing.T) {
	var n net.Net
	for _, k := range append([]int{0, 1, 4, 16}, far...) {
		checkErr(t, "Send", n.Send(k, k, []byte("a")), api.ErrArg)
		checkNotTaken(t, &n, k, api.ErrNone)
		checkErr(t, "Double", n.Double(k), api.ErrNone)
		checkErr(t, "Drop", n.Drop(k), api.ErrNone)
		checkErr(t, "Up", n.Up(k, true), api.ErrNone)
		if n.To(k) != -1 || n.Is(k) || n.Len() != 0 {
			t.Errorf("To %d, Is %v, Len %d", n.To(k), n.Is(k), n.Len())
		}
	}
}

func TestCopiesDoNoHarm(t *testing.T) {
	n := letters(t, "abcdefg")
	other := *n
	for i := range 50 {
		for _, one := range []*net.Net{n, &other} {
			one.Take(i % 7)
			one.Up(i%5, i%3 > 0)
			one.Send(i%5, i%4, []byte("x"))
			one.Double(i % 3)
			one.Drop(i % 4)
			one.To(i % 9)
		}
	}
	for _, one := range []*net.Net{n, &other} {
		for one.Len() > 0 {
			one.Take(one.Len() - 1)
		}
		checkLine(t, one)
	}
}

// Promise 8.2: nothing is made of nothing.

// ledger counts what becomes of messages, each of which has a text of its own.
type ledger struct {
	n          *net.Net
	sent       map[string][2]int // by text: from whom, for whom
	came       map[string]int    // by text: how often it was taken
	made, gone int
}

// step makes a call.
func (l *ledger) step(t *testing.T, random *rand.Rand, double bool) {
	k := random.Intn(l.n.Len() + 1)
	from, to := random.Intn(6), random.Intn(6)
	switch random.Intn(8) {
	case 0, 1, 2:
		text := fmt.Sprint(len(l.sent))
		if l.n.Send(from, to, []byte(text)) == api.OK {
			l.sent[text] = [2]int{from, to}
			l.made++
		}
	case 3:
		if double && l.n.Double(k) == api.OK {
			l.made++
		}
	case 4:
		if l.n.Drop(k) == api.OK {
			l.gone++
		}
	case 5:
		ok(t, "Up", l.n.Up(to, random.Intn(3) > 0))
	default:
		l.take(t, k)
	}
}

// take takes a message, and fails if it is none that was sent.
func (l *ledger) take(t *testing.T, k int) {
	from, to, b, err := l.n.Take(k)
	if err != api.ErrNone {
		l.gone++
	}
	if err != api.OK {
		return
	}
	l.came[string(b)]++
	if who, ok := l.sent[string(b)]; !ok || who != [2]int{from, to} {
		t.Fatalf("%d, %d, %q came: sent: %v, %v", from, to, b, ok, who)
	}
}

func TestNothingIsMadeOfNothing(t *testing.T) {
	for seed := range int64(20) {
		random := rand.New(rand.NewSource(seed))
		l := ledger{newNet(t, 6, 1+random.Intn(40)), map[string][2]int{}, map[string]int{}, 0, 0}
		for range 2000 {
			l.step(t, random, seed%2 > 0)
			if l.n.Len() != l.made-l.gone {
				t.Fatalf("seed %d: %d on their way, of %d, of which %d are gone", seed, l.n.Len(), l.made, l.gone)
			}
		}
		for text, times := range l.came {
			if seed%2 == 0 && times != 1 {
				t.Errorf("seed %d: %q came %d times", seed, text, times)
			}
		}
	}
}

// letter is a message by the chapter's words.
type letter struct {
	from, to int
	text     string
}

// plain is a net by the chapter's words: a list, made anew at each change.
type plain struct {
	nodes, most int
	down        map[int]bool
	line        []letter
}

func (p *plain) is(node int) bool { return node >= 0 && node < p.nodes && !p.down[node] }

func (p *plain) without(k int) []letter {
	var line []letter
	for i, l := range p.line {
		if i != k {
			line = append(line, l)
		}
	}
	return line
}

func (p *plain) send(from, to int, text string) int {
	if min(from, to) < 0 || max(from, to) >= p.nodes {
		return api.ErrArg
	}
	if len(p.line) == p.most {
		return api.ErrFull
	}
	p.line = append(p.without(-1), letter{from, to, text})
	return api.OK
}

func (p *plain) take(k int) (int, int, string, int) {
	if k < 0 || k >= len(p.line) {
		return 0, 0, "", api.ErrNone
	}
	l := p.line[k]
	p.line = p.without(k)
	if p.down[l.to] {
		return 0, 0, "", api.ErrState
	}
	return l.from, l.to, l.text, api.OK
}

func (p *plain) double(k int) int {
	if k < 0 || k >= len(p.line) {
		return api.ErrNone
	}
	return p.send(p.line[k].from, p.line[k].to, p.line[k].text)
}

func (p *plain) drop(k int) int {
	if k < 0 || k >= len(p.line) {
		return api.ErrNone
	}
	p.line = p.without(k)
	return api.OK
}

func (p *plain) up(node int, up bool) int {
	if node < 0 || node >= p.nodes {
		return api.ErrNone
	}
	p.down[node] = !up
	return api.OK
}

func (p *plain) told() string {
	var out strings.Builder
	for k := -1; k <= len(p.line); k++ {
		to := -1
		if k >= 0 && k < len(p.line) {
			to = p.line[k].to
		}
		fmt.Fprint(&out, to, " ")
	}
	for node := -1; node <= 16; node++ {
		fmt.Fprint(&out, p.is(node), " ")
	}
	return out.String()
}

// some answers a number from -1 to n, or, now and then, one that is far out.
func some(n int, random *rand.Rand) int {
	if random.Intn(25) == 0 {
		return far[random.Intn(len(far))]
	}
	return random.Intn(n+2) - 1
}

// step makes a call on both, and answers what was called, and what each answered.
func step(n *net.Net, p *plain, random *rand.Rand) (string, string, string) {
	k := some(len(p.line), random)
	switch random.Intn(9) {
	case 0:
		return fmt.Sprintf("Double(%d)", k), fmt.Sprint(n.Double(k)), fmt.Sprint(p.double(k))
	case 1:
		return fmt.Sprintf("Drop(%d)", k), fmt.Sprint(n.Drop(k)), fmt.Sprint(p.drop(k))
	case 2, 3:
		node, up := some(p.nodes, random), random.Intn(3) > 0
		return fmt.Sprintf("Up(%d, %v)", node, up), fmt.Sprint(n.Up(node, up)), fmt.Sprint(p.up(node, up))
	case 4, 5:
		from, to, b, err := n.Take(k)
		f, w, text, e := p.take(k)
		return fmt.Sprintf("Take(%d)", k), fmt.Sprintf("%d %d %q %d", from, to, b, err), fmt.Sprintf("%d %d %q %d", f, w, text, e)
	}
	from, to, text := some(p.nodes, random), some(p.nodes, random), fmt.Sprint(random.Intn(1000))
	return fmt.Sprintf("Send(%d, %d, %q)", from, to, text), fmt.Sprint(n.Send(from, to, []byte(text))), fmt.Sprint(p.send(from, to, text))
}

// anyCalls makes calls beside plain, and answers all that was told.
func anyCalls(t *testing.T, seed int64, count int) string {
	t.Helper()
	random := rand.New(rand.NewSource(seed))
	nodes, most := 1+random.Intn(16), random.Intn(20)
	n, p := newNet(t, nodes, most), &plain{nodes: nodes, most: most, down: map[int]bool{}}
	var out strings.Builder
	for i := range count {
		call, got, want := step(n, p, random)
		if got != want {
			t.Fatalf("seed %d, call %d, %s: %s, not %s", seed, i, call, got, want)
		}
		if n.Len() != len(p.line) || told(n) != p.told() {
			t.Fatalf("seed %d, call %d, %s: %s, not %s", seed, i, call, told(n), p.told())
		}
		out.WriteString(call + got + told(n))
	}
	return out.String()
}

func TestAnyCalls(t *testing.T) {
	for seed := range int64(80) {
		anyCalls(t, seed, 300)
	}
}

func TestSameCallsSameAnswers(t *testing.T) {
	for seed := range int64(5) {
		if anyCalls(t, seed, 200) != anyCalls(t, seed, 200) {
			t.Errorf("seed %d: other answers", seed)
		}
	}
}

func TestMuch(t *testing.T) {
	n := newNet(t, 16, api.MaxFlight)
	for round := range 20 {
		for i := range api.MaxFlight {
			send(t, n, round%16, i%16, "abc")
		}
		for i := range api.MaxFlight {
			if _, to, _, err := n.Take(0); to != i%16 || err != api.OK {
				t.Fatalf("round %d, Take: %d, %d", round, to, err)
			}
		}
	}
	checkLine(t, n)
}

// TestMuchOfOne: what is doubled was given once; so there must be room for it, however often.
func TestMuchOfOne(t *testing.T) {
	n := newNet(t, 2, api.MaxFlight)
	big := strings.Repeat("abcd", 1<<22)
	send(t, n, 0, 1, big)
	for i := 1; i < api.MaxFlight; i++ {
		ok(t, "Double", n.Double(i-1))
	}
	checkTake(t, n, api.MaxFlight/2, 0, 1, big)
	ok(t, "Drop", n.Drop(0))
	if n.Len() != api.MaxFlight-2 {
		t.Errorf("Len: %d, not %d", n.Len(), api.MaxFlight-2)
	}
}
