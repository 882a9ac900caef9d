package service_test

import (
	"fmt"
	"math"
	"testing"

	"wharfinger/api"
	"wharfinger/service"
)

// crash is what is handed in to Crash.
type crash struct{ stay, torn int }

// crashes are with every number of lines that stay and every tear, of a journal
// of so many lines; and some far off.
func crashes(lines int) []crash {
	var l []crash
	far := []int{math.MinInt, -1 << 32, -1, most, 1 << 32, math.MaxInt}
	for stay := range lines + 2 {
		for torn := range 30 {
			l = append(l, crash{stay, torn})
		}
		for _, torn := range append([]int{api.MaxLine, api.MaxLine + 1}, far...) {
			l = append(l, crash{stay, torn}, crash{torn, stay})
		}
	}
	for _, stay := range far {
		for _, torn := range far {
			l = append(l, crash{stay, torn})
		}
	}
	return l
}

// holdDown holds that a node is down, and knows nothing.
func holdDown(t *testing.T, what any, n *service.Node, left int) {
	t.Helper()
	if !n.Down() {
		t.Errorf("%v: it is up", what)
	}
	holdLeft(t, what, n, left)
	for _, id := range []int{-1, 0, 1, 2, 3, 4, 5, 6, 7, 998, 999, 1000} {
		holdState(t, what, n, id, service.None)
	}
}

// holdUp holds that a node is up, and how the orders 1, 2 .. stand.
func holdUp(t *testing.T, what any, n *service.Node, left int, states ...int) {
	t.Helper()
	if n.Down() {
		t.Errorf("%v: it is down", what)
	}
	holdLeft(t, what, n, left)
	for i, state := range states {
		holdState(t, what, n, i+1, state)
	}
	for _, id := range []int{0, len(states) + 1, 999, 1000} {
		holdState(t, what, n, id, service.None)
	}
}

// story is messages to a Credit of 10, and what is behind each: what it was
// answered, what is left, and the states of orders 1 to 5.
var story = []struct {
	m      api.Msg
	kind   int
	left   int
	states [5]int
}{
	{do(api.Credit, 1, 3), api.MDone, 7, [5]int{service.Did}},
	{do(api.Credit, 2, 8), api.MFail, 7, [5]int{service.Did, service.Cant}},
	{do(api.Credit, 3, 7), api.MDone, 0, [5]int{service.Did, service.Cant, service.Did}},
	{do(api.Credit, 1, 3), api.MDone, 0, [5]int{service.Did, service.Cant, service.Did}},
	{undo(api.Credit, 1), api.MUndone, 3, [5]int{service.Undid, service.Cant, service.Did}},
	{undo(api.Credit, 4), api.MUndone, 3, [5]int{service.Undid, service.Cant, service.Did, service.Undid}},
	{undo(api.Credit, 2), api.MUndone, 3, [5]int{service.Undid, service.Cant, service.Did, service.Undid}},
	{do(api.Credit, 1, 3), api.MFail, 3, [5]int{service.Undid, service.Cant, service.Did, service.Undid}},
	{do(api.Credit, 5, 3), api.MDone, 0, [5]int{service.Undid, service.Cant, service.Did, service.Undid, service.Did}},
	{undo(api.Credit, 3), api.MUndone, 7, [5]int{service.Undid, service.Cant, service.Undid, service.Undid, service.Did}},
	{do(api.Credit, 3, 7), api.MFail, 7, [5]int{service.Undid, service.Cant, service.Undid, service.Undid, service.Did}},
	{undo(api.Credit, 5), api.MUndone, 10, [5]int{service.Undid, service.Cant, service.Undid, service.Undid, service.Undid}},
}

// told is a node behind so much of the story.
func told(t *testing.T, upTo int) *service.Node {
	t.Helper()
	n := service.New(api.Credit, 10, 50)
	for _, s := range story[:upTo] {
		holdAnswer(t, upTo, n, s.m, s.kind)
	}
	return n
}

// P19.3, P19.4: behind each message each crash takes the node down and makes it
// forget; what was told is so behind the start, all of it.
func TestCrashBehindEach(t *testing.T) {
	for i, s := range story {
		for _, c := range crashes(i + 1) {
			what := fmt.Sprintf("message %d, crash %v", i, c)
			n := told(t, i+1)
			holdUp(t, what, n, s.left, s.states[:]...)
			n.Crash(c.stay, c.torn)
			holdDown(t, what, n, 10)
			n.Start()
			holdUp(t, what, n, s.left, s.states[:]...)
			holdAnswer(t, what, n, s.m, s.kind)
			holdUp(t, what, n, s.left, s.states[:]...)
		}
	}
}

// P19.3, P19.4: the story goes on behind a crash and a start, behind each of its
// messages.
func TestGoesOn(t *testing.T) {
	for _, c := range crashes(3) {
		n := service.New(api.Credit, 10, 50)
		for i, s := range story {
			what := fmt.Sprintf("message %d, crash %v", i, c)
			holdAnswer(t, what, n, s.m, s.kind)
			for range 2 {
				n.Crash(c.stay, c.torn)
				n.Start()
				holdUp(t, what, n, s.left, s.states[:]...)
			}
		}
	}
}

// P19.3: once more while it is down, and started twice.
func TestCrashTwice(t *testing.T) {
	for i, s := range story {
		for _, c := range crashes(2) {
			what := fmt.Sprintf("message %d, crash %v", i, c)
			n := told(t, i+1)
			n.Crash(i, 3)
			n.Crash(c.stay, c.torn)
			holdDown(t, what, n, 10)
			n.Crash(c.torn, c.stay)
			holdDown(t, what, n, 10)
			for range 3 {
				n.Start()
				holdUp(t, what, n, s.left, s.states[:]...)
			}
		}
	}
}

// P19.3: Start while it is up does nothing.
func TestStartUp(t *testing.T) {
	n := service.New(api.Credit, 10, 50)
	n.Start()
	holdNew(t, "new", n, 10)
	for i, s := range story {
		holdAnswer(t, i, n, s.m, s.kind)
		for range 2 {
			n.Start()
			holdUp(t, i, n, s.left, s.states[:]...)
		}
	}
}

// P19.3: a node that knows nothing yet goes down and up too.
func TestCrashNew(t *testing.T) {
	for _, node := range services {
		for _, c := range crashes(1) {
			n := service.New(node, 10, 1)
			n.Crash(c.stay, c.torn)
			holdDown(t, c, n, 10)
			holdAnswer(t, c, n, do(node, 1, 1), 0)
			n.Start()
			holdUp(t, c, n, 10)
			holdAnswer(t, c, n, do(node, 1, 1), api.MDone)
		}
	}
}

// P19.2, P19.3: while it is down nothing is handled; nothing of it is known
// behind the start, and no line was written.
func TestHandleDown(t *testing.T) {
	for _, node := range services {
		n := inStates(t, node, 2)
		for round := range 3 {
			n.Crash(round, round)
			for _, s := range full(node) {
				holdAnswer(t, "down", n, s.m, 0)
			}
			for _, m := range strange(node, 1) {
				holdAnswer(t, "down", n, m, 0)
			}
			holdDown(t, round, n, 10)
			n.Start()
			holdStates(t, round, n)
		}
		holdRoom(t, "behind it", n, node, 10, 2)
	}
}

// P19.3: neither a crash nor a start writes lines or loses any, however often.
func TestRoomBehindCrashes(t *testing.T) {
	for _, node := range services {
		n := inStates(t, node, 3)
		for i := range 20 {
			n.Crash(i%7, i)
			n.Start()
		}
		holdStates(t, "crashes", n)
		holdRoom(t, "crashes", n, node, 10, 3)
		again(n)
		holdAnswer(t, "crashes", n, undo(node, 20), 0)
		for id := 10; id < 13; id++ {
			holdState(t, "crashes", n, id, service.Undid)
		}
	}
}

// P19.3: a crash behind what found no room.
func TestCrashFull(t *testing.T) {
	for _, node := range services {
		for _, s := range full(node) {
			for _, c := range crashes(6) {
				n := inStates(t, node, 0)
				holdAnswer(t, c, n, s.m, s.kind)
				n.Crash(c.stay, c.torn)
				holdDown(t, c, n, 10)
				n.Start()
				holdStates(t, fmt.Sprintf("%+v, crash %v", s.m, c), n)
				holdAnswer(t, c, n, s.m, s.kind)
			}
		}
	}
}

// P19.3: book and states are what the entries say, one behind the other: what an
// order had is had by others behind it, of a book that was never great enough
// for all.
func TestOneBehindTheOther(t *testing.T) {
	n := service.New(api.Fraud, 5, plenty)
	for id := 1; id < api.MaxId; id++ {
		holdAnswer(t, id, n, do(api.Fraud, id, 5), api.MDone)
		holdAnswer(t, id, n, do(api.Fraud, id+1, 6), api.MFail)
		id++
		holdAnswer(t, id, n, undo(api.Fraud, id-1), api.MUndone)
	}
	holdAnswer(t, "the last one", n, do(api.Fraud, 999, 2), api.MDone)
	for range 2 {
		again(n)
		holdLeft(t, "all", n, 3)
		for id := 1; id < api.MaxId; id++ {
			want := service.Cant
			if id%2 == 1 {
				want = service.Undid
			}
			holdState(t, "all", n, id, want)
		}
		holdState(t, "all", n, 999, service.Did)
	}
}

// P19.4: who is Undid, or Cant, is never Did again, whatever comes, whatever
// crashes, and however much is left.
func TestNeverAgain(t *testing.T) {
	for _, node := range services {
		n := inStates(t, node, 5)
		holdAnswer(t, "order 1", n, undo(node, 1), api.MUndone)
		for i := range 30 {
			for id := 1; id <= 4; id++ {
				want := service.Undid
				if id == 2 {
					want = service.Cant
				}
				for _, a := range []int{0, 1, 2, 3, 8, 10, 11} {
					holdAnswer(t, i, n, do(node, id, a), api.MFail)
					holdState(t, i, n, id, want)
				}
				holdAnswer(t, i, n, undo(node, id), api.MUndone)
				holdState(t, i, n, id, want)
				for _, m := range strange(node, id) {
					n.Handle(m)
				}
				holdState(t, i, n, id, want)
			}
			holdLeft(t, i, n, 10)
			n.Crash(i%4, i)
			n.Start()
		}
	}
}
