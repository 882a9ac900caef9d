package keeper_test

import (
	"fmt"
	"math"
	"testing"

	"wharfinger/api"
	"wharfinger/keeper"
)

// crash is what is handed in to Crash.
type crash struct{ stay, torn int }

// crashes are with every number of lines that stay and every tear, of a journal
// of so many lines; and some far off.
func crashes(lines int) []crash {
	var l []crash
	far := []int{math.MinInt, -1 << 32, -1, most, 1 << 32, math.MaxInt}
	for stay := range lines + 2 {
		for torn := range 30 {
			l = append(l, crash{stay, torn})
		}
		for _, torn := range append([]int{api.MaxLine, api.MaxLine + 1}, far...) {
			l = append(l, crash{stay, torn}, crash{torn, stay})
		}
	}
	for _, stay := range far {
		for _, torn := range far {
			l = append(l, crash{stay, torn})
		}
	}
	return l
}

// tale is a message, or (kind 0) an operator, and what is behind it: what it was
// answered, the states of the orders 1 to 7, and the book's rows.
type tale struct {
	kind, id, a, b int
	yes            bool
	answer         int
	states         [7]int
	there, free    row
}

// story is one of a keeper of 10 and 5.
var story = []tale{
	{kind: api.MPrepare, id: 1, b: 3, answer: api.MYes, states: [7]int{1}, there: row{10, 5}, free: row{7, 5}},
	{kind: api.MPrepare, id: 2, b: 7, answer: api.MYes, states: [7]int{1, 1}, there: row{10, 5}, free: row{0, 5}},
	{kind: api.MPrepare, id: 3, b: 1, answer: api.MNo, states: [7]int{1, 1, 3}, there: row{10, 5}, free: row{0, 5}},
	{kind: api.MPrepare, id: 4, a: 1, b: 5, answer: api.MYes, states: [7]int{1, 1, 3, 1}, there: row{10, 5}, free: row{}},
	{kind: api.MAsk, id: 5, answer: api.MAborts, states: [7]int{1, 1, 3, 1, 3}, there: row{10, 5}, free: row{}},
	{kind: api.MCommit, id: 1, answer: api.MAck, states: [7]int{2, 1, 3, 1, 3}, there: row{7, 5}, free: row{}},
	{kind: api.MCommit, id: 6, states: [7]int{2, 1, 3, 1, 3}, there: row{7, 5}, free: row{}},
	{kind: api.MAborts, id: 2, answer: api.MAck, states: [7]int{2, 3, 3, 1, 3}, there: row{7, 5}, free: row{7}},
	{id: 4, yes: true, states: [7]int{2, 3, 3, 4, 3}, there: row{7}, free: row{7}},
	{kind: api.MAbort, id: 4, answer: api.MDamage, states: [7]int{2, 3, 3, 4, 3}, there: row{7}, free: row{7}},
	{kind: api.MPrepare, id: 7, b: 6, answer: api.MYes, states: [7]int{2, 3, 3, 4, 3, 0, 1}, there: row{7}, free: row{1}},
	{id: 7, states: [7]int{2, 3, 3, 4, 3, 0, 5}, there: row{7}, free: row{7}},
	{kind: api.MCommits, id: 7, answer: api.MDamage, states: [7]int{2, 3, 3, 4, 3, 0, 5}, there: row{7}, free: row{7}},
	{kind: api.MPrepare, id: 6, b: 7, answer: api.MYes, states: [7]int{2, 3, 3, 4, 3, 1, 5}, there: row{7}, free: row{}},
	{kind: api.MCommits, id: 6, answer: api.MAck, states: [7]int{2, 3, 3, 4, 3, 2, 5}},
}

// begin is the keeper of the story.
func begin(node int) *keeper.Node { return keeper.New(node, []int{10, 5}, 50) }

// holdTold holds that s happens with n, and what is behind it.
func holdTold(t *testing.T, what any, n *keeper.Node, node int, s tale) {
	t.Helper()
	if s.kind == 0 {
		holdForce(t, what, n, s.id, s.yes, api.OK)
	} else {
		holdAnswer(t, what, n, api.Msg{Kind: s.kind, From: other(node), To: node, Id: s.id, A: s.a, B: s.b}, s.answer)
	}
	holdUp(t, what, n, node, s)
}

// holdUp holds that a node is up, and all is as behind s.
func holdUp(t *testing.T, what any, n *keeper.Node, node int, s tale) {
	t.Helper()
	if n.Down() {
		t.Errorf("%v: it is down", what)
	}
	var ids []int
	for i, state := range s.states {
		holdState(t, what, n, i+1, state)
		if state == api.VPrepared {
			holdRing(t, what, n, i+1, asks(node, i+1))
		} else {
			holdRing(t, what, n, i+1, nil)
		}
		if state != api.VNone {
			ids = append(ids, i+1)
		}
	}
	holdIds(t, what, n, ids...)
	holdBook(t, what, n, row{10, 5}, s.there, s.free)
}

// holdDown holds that a node is down, and knows nothing.
func holdDown(t *testing.T, what any, n *keeper.Node, first row) {
	t.Helper()
	if !n.Down() {
		t.Errorf("%v: it is up", what)
	}
	holdIds(t, what, n)
	holdBook(t, what, n, first, first, first)
	for _, id := range []int{-1, 0, 1, 2, 3, 4, 5, 6, 7, 8, 998, 999, 1000} {
		holdState(t, what, n, id, api.VNone)
		holdRing(t, what, n, id, nil)
	}
}

// told is a node behind so much of the story.
func told(t *testing.T, node, upTo int) *keeper.Node {
	t.Helper()
	n := begin(node)
	for i, s := range story[:upTo] {
		holdTold(t, i, n, node, s)
	}
	return n
}

// P20.4, P20.5: behind each step each crash takes the node down and makes it
// forget; what was told is so behind the start, all of it.
func TestCrashBehindEach(t *testing.T) {
	for _, node := range keepers {
		for i, s := range story {
			n := told(t, node, i+1)
			for _, c := range crashes(i + 1) {
				what := fmt.Sprintf("node %d, step %d, crash %v", node, i, c)
				n.Crash(c.stay, c.torn)
				holdDown(t, what, n, row{10, 5})
				n.Start()
				holdUp(t, what, n, node, s)
			}
			for _, c := range []crash{{0, 0}, {0, 5}, {1, 0}, {1, 5}, {99, 99}, {-1, -1}} {
				what := fmt.Sprintf("node %d, step %d, first crash %v", node, i, c)
				n := told(t, node, i+1)
				n.Crash(c.stay, c.torn)
				holdDown(t, what, n, row{10, 5})
				n.Start()
				holdUp(t, what, n, node, s)
			}
		}
	}
}

// P20.4, P20.5: the story goes on behind a crash and a start, and a second one,
// behind each of its steps.
func TestGoesOn(t *testing.T) {
	for _, node := range keepers {
		for _, c := range crashes(3) {
			n := begin(node)
			for i, s := range story {
				what := fmt.Sprintf("node %d, step %d, crash %v", node, i, c)
				holdTold(t, what, n, node, s)
				for range 2 {
					n.Crash(c.stay, c.torn)
					n.Start()
					holdUp(t, what, n, node, s)
				}
			}
		}
	}
}

// P20.4: once more while it is down, and started twice.
func TestCrashTwice(t *testing.T) {
	for _, node := range keepers {
		for i, s := range story {
			for _, c := range crashes(1) {
				what := fmt.Sprintf("node %d, step %d, crash %v", node, i, c)
				n := told(t, node, i+1)
				n.Crash(i, 3)
				n.Crash(c.stay, c.torn)
				holdDown(t, what, n, row{10, 5})
				n.Crash(c.torn, c.stay)
				holdDown(t, what, n, row{10, 5})
				for range 3 {
					n.Start()
					holdUp(t, what, n, node, s)
				}
			}
		}
	}
}

// P20.4: Start while it is up does nothing.
func TestStartUp(t *testing.T) {
	for _, node := range keepers {
		n := begin(node)
		n.Start()
		holdNew(t, "new", n, row{10, 5})
		for i, s := range story {
			holdTold(t, i, n, node, s)
			for range 2 {
				n.Start()
				holdUp(t, i, n, node, s)
			}
		}
	}
}

// P20.4: a node that knows nothing yet goes down and up too.
func TestCrashNew(t *testing.T) {
	for _, node := range keepers {
		for _, c := range crashes(1) {
			n := keeper.New(node, []int{10, 5}, 1)
			n.Crash(c.stay, c.torn)
			holdDown(t, c, n, row{10, 5})
			holdAnswer(t, c, n, prepare(node, 1, 0, 1), 0)
			n.Start()
			holdUp(t, c, n, node, tale{there: row{10, 5}, free: row{10, 5}})
			holdAnswer(t, c, n, prepare(node, 1, 0, 1), api.MYes)
		}
	}
}

// P20.2, P20.3, P20.4: while it is down nothing is handled, rung or forced;
// nothing of it is known behind the start, and no line was written.
func TestWhileDown(t *testing.T) {
	for _, node := range keepers {
		n := inStates(t, node, 2)
		for round := range 3 {
			n.Crash(round, round)
			for _, s := range full(node) {
				holdAnswer(t, "down", n, s.m, 0)
			}
			for _, m := range strange(node, 1) {
				holdAnswer(t, "down", n, m, 0)
			}
			for id := range stated {
				holdForce(t, "down", n, id, round == 1, api.ErrDown)
				holdForce(t, "down", n, id, round != 1, api.ErrDown)
				holdRing(t, "down", n, id, nil)
			}
			holdDown(t, round, n, row{0, 10, 10})
			n.Start()
			holdStates(t, round, n)
		}
		holdRoom(t, "behind it", n, node, 10, 2)
	}
}

// P20.4: neither a crash nor a start writes lines or loses any, however often.
func TestRoomBehindCrashes(t *testing.T) {
	for _, node := range keepers {
		n := inStates(t, node, 3)
		for i := range 20 {
			n.Crash(i%7, i)
			n.Start()
		}
		holdStates(t, "crashes", n)
		holdRoom(t, "crashes", n, node, 10, 3)
		again(n)
		holdAnswer(t, "crashes", n, msg(node, api.MAsk, 20), 0)
		for id := 10; id < 13; id++ {
			holdState(t, "crashes", n, id, api.VAborted)
		}
	}
}

// P20.4: a crash behind what found no room.
func TestCrashFull(t *testing.T) {
	for _, node := range keepers {
		for _, s := range full(node) {
			n := inStates(t, node, 0)
			for _, c := range []crash{{0, 0}, {0, 3}, {1, 0}, {1, 3}, {12, 80}, {-1, -1}, {math.MaxInt, math.MaxInt}} {
				holdAnswer(t, c, n, s.m, s.kind)
				holdNoForce(t, c, n, 1, api.ErrFull)
				n.Crash(c.stay, c.torn)
				holdDown(t, c, n, row{0, 10, 10})
				n.Start()
				holdStates(t, fmt.Sprintf("%+v, crash %v", s.m, c), n)
				holdAnswer(t, c, n, s.m, s.kind)
			}
		}
	}
}

// P20.4: book and states are what the entries say, one behind the other: what an
// order had is had by others behind it, of a book that was never great enough
// for all.
func TestOneBehindTheOther(t *testing.T) {
	for _, node := range keepers {
		n := keeper.New(node, []int{7, 5}, plenty)
		want := make([]int, 1001)
		for id := 1; id < api.MaxId; id += 2 {
			holdAnswer(t, id, n, prepare(node, id, 1, 5), api.MYes)
			holdAnswer(t, id, n, prepare(node, id+1, 1, 1), api.MNo)
			want[id], want[id+1] = api.VAborted, api.VAborted
			if id%4 == 1 {
				holdForce(t, id, n, id, false, api.OK)
				want[id] = api.VForcedNo
			} else {
				holdAnswer(t, id, n, msg(node, api.MAbort, id), api.MAck)
			}
		}
		holdAnswer(t, "the last one", n, prepare(node, 999, 1, 2), api.MYes)
		holdForce(t, "the last one", n, 999, true, api.OK)
		want[999] = api.VForcedYes
		for range 2 {
			again(n)
			for id, state := range want {
				holdState(t, "all", n, id, state)
			}
			holdBook(t, "all", n, row{7, 5}, row{7, 3}, row{7, 3})
		}
	}
}

// P20.5: what it is Final stays, whatever comes, whatever crashes, and however
// much is free; and so does the book.
func TestFinalStays(t *testing.T) {
	for _, node := range keepers {
		n := inStates(t, node, 5)
		for i := range 30 {
			for id := 2; id <= 8; id++ {
				if id == 6 {
					continue
				}
				for _, kind := range known {
					for _, b := range []int{0, 1, 2, 3, 8, 10, 11} {
						m := from([]int{api.Chief, other(node)}[i%2], prepare(node, id, b%4, b))
						m.Kind = kind
						holdAnswer(t, i, n, m, ways[kind][stated[id]].kind)
						holdState(t, i, n, id, stated[id])
					}
				}
				holdNoForce(t, i, n, id, api.OK)
				holdRing(t, i, n, id, nil)
				for _, m := range strange(node, id) {
					holdAnswer(t, i, n, m, 0)
				}
			}
			holdStates(t, i, n)
			n.Crash(i%4, i)
			n.Start()
			holdStates(t, i, n)
		}
	}
}
