package shipper_test

import (
	"fmt"
	"math"
	"testing"

	"wharfinger/api"
	"wharfinger/shipper"
)

// crash is what is handed in to Crash.
type crash struct{ stay, torn int }

// crashes are with every number of lines that stay and every tear, of a journal
// of so many lines; and some far off.
func crashes(lines int) []crash {
	var l []crash
	far := []int{math.MinInt, -1 << 32, -1, most, 1 << 32, math.MaxInt}
	for stay := range lines + 2 {
		for torn := range 30 {
			l = append(l, crash{stay, torn})
		}
		for _, torn := range append([]int{api.MaxLine, api.MaxLine + 1}, far...) {
			l = append(l, crash{stay, torn}, crash{torn, stay})
		}
	}
	for _, stay := range far {
		for _, torn := range far {
			l = append(l, crash{stay, torn})
		}
	}
	return l
}

// holdDown holds that a node is down, and knows nothing.
func holdDown(t *testing.T, what any, n *shipper.Node) {
	t.Helper()
	if !n.Down() {
		t.Errorf("%v: it is up", what)
	}
	holdBook(t, what, n)
	for _, id := range []int{-1, 0, 1, 2, 3, 4, 5, 6, 7, 998, 999, 1000} {
		if _, _, ok := n.Parcels().Has(id); ok {
			t.Errorf("%v: it knows of order %d", what, id)
		}
	}
}

// holdUp holds that a node is up, and what went.
func holdUp(t *testing.T, what any, n *shipper.Node, went ...sent) {
	t.Helper()
	if n.Down() {
		t.Errorf("%v: it is down", what)
	}
	holdBook(t, what, n, went...)
}

// story is messages, and how many of the parcels below went behind each; told
// says whether it is told.
var story = []struct {
	m    api.Msg
	told bool
	went int
}{
	{ship(7, 2, 5), true, 1},
	{ship(7, 2, 5), true, 1},
	{ship(5, 8, 1), false, 1},
	{ship(999, 7, most), true, 2},
	{ship(7, 3, 6), true, 2},
	{ship(1, 0, 1), true, 3},
	{ship(1, 0, 0), false, 3},
	{ship(5, 2, 4), true, 4},
	{ship(999, 7, most), true, 4},
}

var storySent = []sent{{7, 2, 5}, {999, 7, most}, {1, 0, 1}, {5, 2, 4}}

// holdStory takes the ith message of the story.
func holdStory(t *testing.T, what any, n *shipper.Node, i int) {
	t.Helper()
	if story[i].told {
		holdTold(t, what, n, story[i].m)
	} else {
		holdNothing(t, what, n, story[i].m)
	}
}

// wentBy is what went behind the ith message.
func wentBy(i int) []sent { return storySent[:story[i].went] }

// told is a node behind the first messages of the story, up to the ith.
func told(t *testing.T, i int) *shipper.Node {
	t.Helper()
	n := shipper.New(50)
	for k := range i + 1 {
		holdStory(t, k, n, k)
	}
	return n
}

// P21.3, P21.4: behind each message each crash takes the node down and makes it
// forget; what was told is so behind the start, all of it.
func TestCrashBehindEach(t *testing.T) {
	for i := range story {
		for _, c := range crashes(i + 1) {
			what := fmt.Sprintf("message %d, crash %v", i, c)
			n := told(t, i)
			holdUp(t, what, n, wentBy(i)...)
			n.Crash(c.stay, c.torn)
			holdDown(t, what, n)
			n.Start()
			holdUp(t, what, n, wentBy(i)...)
			holdStory(t, what, n, i)
			holdUp(t, what, n, wentBy(i)...)
		}
	}
}

// P21.3, P21.4: the story goes on behind a crash and a start, and behind a
// second one, behind each of its messages.
func TestGoesOn(t *testing.T) {
	for _, c := range crashes(3) {
		n := shipper.New(50)
		for i := range story {
			what := fmt.Sprintf("message %d, crash %v", i, c)
			holdStory(t, what, n, i)
			for range 2 {
				n.Crash(c.stay, c.torn)
				n.Start()
				holdUp(t, what, n, wentBy(i)...)
			}
		}
	}
}

// P21.3: once more while it is down, and started twice.
func TestCrashTwice(t *testing.T) {
	for i := range story {
		for _, c := range crashes(2) {
			what := fmt.Sprintf("message %d, crash %v", i, c)
			n := told(t, i)
			n.Crash(i, 3)
			n.Crash(c.stay, c.torn)
			holdDown(t, what, n)
			n.Crash(c.torn, c.stay)
			holdDown(t, what, n)
			for range 3 {
				n.Start()
				holdUp(t, what, n, wentBy(i)...)
			}
		}
	}
}

// P21.3: Start while it is up does nothing.
func TestStartUp(t *testing.T) {
	n := shipper.New(50)
	n.Start()
	holdUp(t, "new", n)
	for i := range story {
		holdStory(t, i, n, i)
		for range 2 {
			n.Start()
			holdUp(t, i, n, wentBy(i)...)
		}
	}
}

// P21.3: a node by which nothing went yet goes down and up too.
func TestCrashNew(t *testing.T) {
	for _, c := range crashes(1) {
		n := shipper.New(1)
		n.Crash(c.stay, c.torn)
		holdDown(t, c, n)
		holdNothing(t, c, n, ship(1, 1, 1))
		holdDown(t, c, n)
		n.Start()
		holdUp(t, c, n)
		holdTold(t, c, n, ship(1, 1, 1))
		holdUp(t, c, n, sent{1, 1, 1})
	}
}

// P21.2, P21.3: while it is down nothing is handled, of what went and of what
// did not; nothing of it is known behind the start, and no line was written.
func TestHandleDown(t *testing.T) {
	n := withSome(t, 2)
	for round := range 3 {
		n.Crash(round, round)
		for _, id := range []int{1, 2, 7, 998, 999} {
			holdNothing(t, "down", n, ship(id, 2, 5))
			for _, m := range strange(id) {
				holdNothing(t, "down", n, m)
			}
		}
		holdDown(t, round, n)
		n.Start()
		holdUp(t, round, n, some...)
	}
	holdRoom(t, "behind it", n, 10, 2)
}

// P21.3: neither a crash nor a start writes lines or loses any, however often.
func TestRoomBehindCrashes(t *testing.T) {
	n := withSome(t, 3)
	for i := range 20 {
		n.Crash(i%7, i)
		n.Start()
	}
	holdUp(t, "crashes", n, some...)
	holdRoom(t, "crashes", n, 10, 3)
	again(n)
	holdNothing(t, "crashes", n, ship(20, 1, 1))
	holdUp(t, "crashes", n, some[0], some[1], some[2], sent{10, 1, 1}, sent{11, 1, 1}, sent{12, 1, 1})
}

// P21.3: a crash behind what found no room.
func TestCrashFull(t *testing.T) {
	for _, m := range []api.Msg{ship(2, 2, 5), ship(7, 2, 5), ship(998, 0, 1), ship(2, 8, 1), ship(7, 2, 0)} {
		for _, c := range crashes(4) {
			n := withSome(t, 0)
			n.Handle(m)
			n.Crash(c.stay, c.torn)
			holdDown(t, c, n)
			n.Start()
			holdUp(t, c, n, some...)
			holdNothing(t, c, n, ship(2, 2, 5))
		}
	}
}
