package service_test

import (
	"fmt"
	"math"
	"slices"
	"testing"

	"wharfinger/api"
	"wharfinger/service"
)

const (
	most   = api.MaxAmount
	plenty = 4096 // room of a journal that is never full here
)

var services = []int{api.Coupon, api.Credit, api.Fraud}

// noIds are no ids; some of them end in the bits of one.
var noIds = []int{0, -1, -2, -7, -999, 1000, 1001, 1007, most, 1 << 32, 1<<32 + 7, -1 << 32, -1<<32 + 7, math.MinInt, math.MinInt + 7, math.MaxInt}

// noCounts are numbers of which nothing can be held, however much there is.
var noCounts = []int{0, -1, -2, -most, most + 1, 2 * most, 1 << 32, 1<<32 + 1, -1 << 32, -1<<32 + 1, math.MinInt, math.MinInt + 1, math.MaxInt}

// do is an MDo, of step 2.
func do(node, id, a int) api.Msg {
	return api.Msg{Kind: api.MDo, From: api.Chief, To: node, Id: id, Step: 2, A: a}
}

// undo is an MUndo, of step 1.
func undo(node, id int) api.Msg {
	return api.Msg{Kind: api.MUndo, From: api.Chief, To: node, Id: id, Step: 1}
}

// back is the answer of a kind to m.
func back(m api.Msg, kind int) []api.Msg {
	if kind == 0 {
		return nil
	}
	return []api.Msg{{Kind: kind, From: m.To, To: 0, Id: m.Id, Step: m.Step}}
}

// holdAnswer hands m in: just one answer of that kind comes back, or none (0).
func holdAnswer(t *testing.T, what any, n *service.Node, m api.Msg, kind int) {
	t.Helper()
	if got, want := n.Handle(m), back(m, kind); !slices.Equal(got, want) {
		t.Errorf("%v: to %+v: %+v; want %+v", what, m, got, want)
	}
}

// holdState holds how the order stands.
func holdState(t *testing.T, what any, n *service.Node, id, want int) {
	t.Helper()
	if got := n.State(id); got != want {
		t.Errorf("%v: State(%d) is %d; want %d", what, id, got, want)
	}
}

// holdLeft holds how much is left.
func holdLeft(t *testing.T, what any, n *service.Node, want int) {
	t.Helper()
	if got := n.Left(); got != want {
		t.Errorf("%v: %d left; want %d", what, got, want)
	}
}

// holdNew holds that all is as New made it.
func holdNew(t *testing.T, what any, n *service.Node, left int) {
	t.Helper()
	holdLeft(t, what, n, left)
	for id := -1; id <= api.MaxId+1; id++ {
		holdState(t, what, n, id, service.None)
	}
}

// again crashes the node and starts it.
func again(n *service.Node) {
	n.Crash(0, 0)
	n.Start()
}

// inStates is a node of 10 with room for so many lines beside the 5 that it has
// written: order 1 is Did (3 of it), 2 Cant, 3 Undid, 4 Undid that was never
// done. Of 10 7 are left.
func inStates(t *testing.T, node, beside int) *service.Node {
	t.Helper()
	n := service.New(node, 10, 5+beside)
	holdAnswer(t, "order 1", n, do(node, 1, 3), api.MDone)
	holdAnswer(t, "order 2", n, do(node, 2, 8), api.MFail)
	holdAnswer(t, "order 3", n, do(node, 3, 2), api.MDone)
	holdAnswer(t, "order 3", n, undo(node, 3), api.MUndone)
	holdAnswer(t, "order 4", n, undo(node, 4), api.MUndone)
	return n
}

// holdStates holds that a node is as inStates made it.
func holdStates(t *testing.T, what any, n *service.Node) {
	t.Helper()
	holdLeft(t, what, n, 7)
	for id, state := range []int{service.None, service.Did, service.Cant, service.Undid, service.Undid, service.None, service.None} {
		holdState(t, what, n, id, state)
	}
	holdState(t, what, n, api.MaxId, service.None)
}

// holdRoom holds that there is room for so many lines and not one more: orders
// of which it knows nothing are undone. They must be None, and so must be those
// behind them.
func holdRoom(t *testing.T, what any, n *service.Node, node, first, want int) {
	t.Helper()
	for i := range want {
		holdAnswer(t, what, n, undo(node, first+i), api.MUndone)
	}
	for range 2 {
		holdAnswer(t, what, n, undo(node, first+want), 0)
	}
}

// P19.1: a new service is of each order None, all is left, and it is up.
func TestNew(t *testing.T) {
	for _, node := range services {
		for hold, want := range map[int]int{
			0: 0, 1: 1, 2: 2, 10: 10, most - 1: most - 1, most: most,
			-1: 0, -10: 0, -most: 0, -1 << 32: 0, -1<<32 + 5: 0, math.MinInt: 0, math.MinInt + 5: 0,
			most + 1: most, 2 * most: most, 1 << 32: most, 1<<32 + 5: most, math.MaxInt: most,
		} {
			what := fmt.Sprintf("New(%d, %d)", node, hold)
			n := service.New(node, hold, plenty)
			if n == nil {
				t.Fatalf("%s is nil", what)
			}
			holdNew(t, what, n, want)
			if n.Down() {
				t.Errorf("%s is down", what)
			}
			if want > 0 {
				holdAnswer(t, what, n, do(node, 7, want), api.MDone)
				holdLeft(t, what, n, 0)
			}
			holdAnswer(t, what, n, do(node, 8, 1+want), api.MFail)
			again(n)
			holdLeft(t, what, n, 0)
			n.Crash(0, 0)
			holdNew(t, what, n, want)
		}
	}
}

// P19.1: what is no service has no node.
func TestNewOfNoService(t *testing.T) {
	for _, node := range []int{api.Chief, api.Stock, api.Purse, api.Shipper, api.Nodes, -1, -4, -5, -6, 8, 4 + 1<<32, 5 - 1<<32, math.MinInt, math.MinInt + 4, math.MaxInt} {
		for _, c := range [][2]int{{10, 50}, {0, 0}, {-1, -1}, {most, 4096}} {
			if service.New(node, c[0], c[1]) != nil {
				t.Errorf("New(%d, %d, %d) is a node", node, c[0], c[1])
			}
		}
	}
}

// P19.1: the journal has so much room, 1 at least.
func TestRoom(t *testing.T) {
	for room, want := range map[int]int{1: 1, 2: 2, 3: 3, 4: 4, 50: 50, 0: 1, -1: 1, -50: 1, -1<<32 + 5: 1, math.MinInt: 1, math.MinInt + 5: 1} {
		for _, node := range services {
			n := service.New(node, 10, room)
			holdRoom(t, room, n, node, 1, want)
			again(n)
			holdAnswer(t, room, n, undo(node, 999), 0)
		}
	}
}

// P19.1: with as much room as may be, and above, all orders are done and undone:
// two lines for each, and none is forgotten.
func TestMostRoom(t *testing.T) {
	for _, room := range []int{1998, 4095, 4096, 4097, 1 << 32, math.MaxInt} {
		n := service.New(api.Fraud, most, room)
		for id := 1; id <= api.MaxId; id++ {
			holdAnswer(t, room, n, do(api.Fraud, id, 1000000), api.MDone)
		}
		holdLeft(t, room, n, 1000000)
		for id := api.MaxId; id >= 1; id-- {
			holdAnswer(t, room, n, undo(api.Fraud, id), api.MUndone)
		}
		holdLeft(t, room, n, most)
		again(n)
		for id := 1; id <= api.MaxId; id++ {
			holdState(t, room, n, id, service.Undid)
		}
		holdLeft(t, room, n, most)
	}
}

// P19.2: the chapter's example.
func TestExample(t *testing.T) {
	for _, node := range services {
		n := service.New(node, 10, 50)
		holdAnswer(t, "MUndo", n, undo(node, 7), api.MUndone)
		holdAnswer(t, "MDo", n, do(node, 7, 4), api.MFail)
		holdState(t, "behind both", n, 7, service.Undid)
		holdLeft(t, "behind both", n, 10)
	}
}

// P19.2: some orders, one message behind the other.
func TestHandle(t *testing.T) {
	for _, node := range services {
		n := service.New(node, 10, 50)
		for i, s := range []struct {
			m           api.Msg
			kind        int
			state, left int
		}{
			{do(node, 7, 4), api.MDone, service.Did, 6},
			{do(node, 8, 7), api.MFail, service.Cant, 6},
			{do(node, 1, 6), api.MDone, service.Did, 0},
			{do(node, 999, 1), api.MFail, service.Cant, 0},
			{undo(node, 7), api.MUndone, service.Undid, 4},
			{do(node, 998, 3), api.MDone, service.Did, 1},
			{undo(node, 8), api.MUndone, service.Cant, 1},
			{undo(node, 9), api.MUndone, service.Undid, 1},
			{do(node, 9, 1), api.MFail, service.Undid, 1},
			{undo(node, 1), api.MUndone, service.Undid, 7},
			{do(node, 2, 7), api.MDone, service.Did, 0},
			{do(node, 8, 1), api.MFail, service.Cant, 0},
			{undo(node, 998), api.MUndone, service.Undid, 3},
			{undo(node, 2), api.MUndone, service.Undid, 10},
			{do(node, 999, 1), api.MFail, service.Cant, 10},
			{do(node, 7, 4), api.MFail, service.Undid, 10},
		} {
			holdAnswer(t, i, n, s.m, s.kind)
			holdState(t, i, n, s.m.Id, s.state)
			holdLeft(t, i, n, s.left)
		}
	}
}

// P19.2: the same message once more, and one with other numbers, in each state:
// the same answer, nothing changes, and no line is written.
func TestOnceMore(t *testing.T) {
	for _, node := range services {
		n := inStates(t, node, 3)
		for range 5 {
			for _, a := range append([]int{1, 3, 7, 8, 99, most}, noCounts...) {
				holdAnswer(t, a, n, do(node, 1, a), api.MDone)
				for id := 2; id <= 4; id++ {
					holdAnswer(t, a, n, do(node, id, a), api.MFail)
				}
			}
			for id := 2; id <= 4; id++ {
				holdAnswer(t, "once more", n, undo(node, id), api.MUndone)
			}
			holdStates(t, "once more", n)
		}
		holdRoom(t, "once more", n, node, 10, 3)
		holdAnswer(t, "full", n, undo(node, 1), 0)
	}
}

// P19.2: one that is Did is undone, its line the last one there is room for;
// what it had can be had by another one, if there is room for that.
func TestUndoDid(t *testing.T) {
	for _, node := range services {
		n := inStates(t, node, 2)
		holdAnswer(t, "order 1", n, undo(node, 1), api.MUndone)
		holdState(t, "order 1", n, 1, service.Undid)
		holdLeft(t, "order 1", n, 10)
		holdAnswer(t, "order 5", n, do(node, 5, 10), api.MDone)
		holdLeft(t, "order 5", n, 0)
		holdAnswer(t, "order 5", n, undo(node, 5), 0)
		holdState(t, "order 5", n, 5, service.Did)
		holdLeft(t, "order 5", n, 0)
	}
}

// P19.2: just as much as is left can be held, one more can't; nor can what is
// no amount above 0, however much there is.
func TestHowMuch(t *testing.T) {
	for _, hold := range []int{0, 1, 2, 10, most - 1, most} {
		counts := append([]int{1, 2, 9, 10, 11, hold - 1, hold, hold + 1, most - 1, most}, noCounts...)
		for _, a := range counts {
			what := fmt.Sprintf("%d of %d", a, hold)
			n := service.New(api.Coupon, hold, 2)
			kind, state, left := api.MFail, service.Cant, hold
			if 1 <= a && a <= hold {
				kind, state, left = api.MDone, service.Did, hold-a
			}
			holdAnswer(t, what, n, do(api.Coupon, 7, a), kind)
			holdState(t, what, n, 7, state)
			holdLeft(t, what, n, left)
			again(n)
			holdState(t, what+", behind a crash", n, 7, state)
			holdLeft(t, what+", behind a crash", n, left)
			holdRoom(t, what, n, api.Coupon, 8, 1)
		}
	}
}

// P19.2: just as much as is left, behind others; then one more.
func TestLastOfIt(t *testing.T) {
	for a := 5; a <= 9; a++ {
		n := service.New(api.Credit, 10, 50)
		holdAnswer(t, a, n, do(api.Credit, 1, 3), api.MDone)
		want := api.MFail
		if a <= 7 {
			want = api.MDone
		}
		holdAnswer(t, a, n, do(api.Credit, 2, a), want)
		for id, left := 3, n.Left(); left > 0; id, left = id+1, left-1 {
			holdAnswer(t, a, n, do(api.Credit, id, 1), api.MDone)
		}
		holdLeft(t, a, n, 0)
		holdAnswer(t, a, n, do(api.Credit, 999, 1), api.MFail)
		holdAnswer(t, a, n, undo(api.Credit, 1), api.MUndone)
		holdAnswer(t, a, n, do(api.Credit, 998, 4), api.MFail)
		holdAnswer(t, a, n, do(api.Credit, 997, 3), api.MDone)
		holdLeft(t, a, n, 0)
	}
}

// P19.2: an answer has m's Id and Step, whatever they are, and nothing of its
// A and B; these say nothing where they have no meaning.
func TestAnswer(t *testing.T) {
	for _, step := range []int{0, 1, 2, 3, -1, 99, 1<<32 + 1, math.MinInt, math.MaxInt} {
		for _, b := range []int{0, 1, -1, 7, most, math.MinInt, math.MaxInt} {
			for _, id := range []int{1, 2, 500, 998, 999} {
				what := fmt.Sprintf("step %d, B %d, id %d", step, b, id)
				n := service.New(api.Credit, 10, 50)
				m := api.Msg{Kind: api.MDo, From: api.Chief, To: api.Credit, Id: id, Step: step, A: 4, B: b}
				holdAnswer(t, what, n, m, api.MDone)
				m.Kind, m.A = api.MUndo, b
				holdAnswer(t, what, n, m, api.MUndone)
				holdState(t, what, n, id, service.Undid)
				holdLeft(t, what, n, 10)
				m.Kind = api.MDo
				holdAnswer(t, what, n, m, api.MFail)
			}
		}
	}
}

// P19.2: the first id and the last one, and all between, each stand alone.
func TestEachId(t *testing.T) {
	n := service.New(api.Fraud, 998, plenty)
	for i := range api.MaxId {
		id := 377 * (i + 1) % 1000 // neither rising nor falling
		holdState(t, "ahead of it", n, id, service.None)
		want, state := api.MDone, service.Did
		if i == 998 {
			want, state = api.MFail, service.Cant
		}
		holdAnswer(t, i, n, do(api.Fraud, id, 1), want)
		holdState(t, i, n, id, state)
	}
	holdLeft(t, "all", n, 0)
	gone := map[int]bool{}
	for i := range 500 {
		id := 739 * (i + 1) % 1000
		holdAnswer(t, i, n, undo(api.Fraud, id), api.MUndone)
		gone[id] = true
	}
	for i := range api.MaxId {
		id, want := 377*(i+1)%1000, service.Did
		switch {
		case i == 998:
			want = service.Cant
		case gone[id]:
			want = service.Undid
		}
		holdState(t, "half", n, id, want)
	}
}

// full is each message in each state where there is no room, and its answer:
// nothing is told but of what stands there already.
func full(node int) []struct {
	m    api.Msg
	kind int
} {
	return []struct {
		m    api.Msg
		kind int
	}{
		{do(node, 1, 3), api.MDone}, {do(node, 1, 99), api.MDone}, {undo(node, 1), 0},
		{do(node, 2, 8), api.MFail}, {do(node, 2, 1), api.MFail}, {undo(node, 2), api.MUndone},
		{do(node, 3, 2), api.MFail}, {do(node, 3, 99), api.MFail}, {undo(node, 3), api.MUndone},
		{do(node, 4, 1), api.MFail}, {do(node, 4, 0), api.MFail}, {undo(node, 4), api.MUndone},
		{do(node, 5, 1), 0}, {do(node, 5, 7), 0}, {do(node, 5, 8), 0}, {do(node, 5, 0), 0}, {do(node, 5, -1), 0}, {undo(node, 5), 0},
		{do(node, 999, 1), 0}, {do(node, 999, most+1), 0}, {undo(node, 999), 0},
	}
}

// P19.2: behind the last line that there is room for nothing changes, also not
// behind a crash.
func TestFull(t *testing.T) {
	for _, node := range services {
		n := inStates(t, node, 0)
		for round := range 3 {
			for _, s := range full(node) {
				what := fmt.Sprintf("round %d, %+v", round, s.m)
				holdAnswer(t, what, n, s.m, s.kind)
				holdStates(t, what, n)
			}
			again(n)
			holdStates(t, "behind a crash", n)
		}
		for _, s := range full(node) {
			n := inStates(t, node, 0)
			holdAnswer(t, "alone", n, s.m, s.kind)
			again(n)
			holdStates(t, s.m, n)
		}
	}
}

// P19.2: room of 1, whatever is written there.
func TestRoomOfOne(t *testing.T) {
	for _, node := range services {
		for _, c := range []struct {
			m                           api.Msg
			kind, state, left, do, undo int
		}{
			{do(node, 7, 4), api.MDone, service.Did, 6, api.MDone, 0},
			{do(node, 7, 11), api.MFail, service.Cant, 10, api.MFail, api.MUndone},
			{do(node, 7, 0), api.MFail, service.Cant, 10, api.MFail, api.MUndone},
			{undo(node, 7), api.MUndone, service.Undid, 10, api.MFail, api.MUndone},
		} {
			n := service.New(node, 10, 1)
			holdAnswer(t, "the first", n, c.m, c.kind)
			for range 3 {
				holdAnswer(t, c.m, n, do(node, 8, 1), 0)
				holdAnswer(t, c.m, n, do(node, 8, 99), 0)
				holdAnswer(t, c.m, n, undo(node, 8), 0)
				holdAnswer(t, c.m, n, do(node, 7, 1), c.do)
				holdAnswer(t, c.m, n, undo(node, 7), c.undo)
				holdState(t, c.m, n, 7, c.state)
				holdState(t, c.m, n, 8, service.None)
				holdLeft(t, c.m, n, c.left)
				again(n)
			}
		}
	}
}

// strange is messages that nothing comes of, about an order.
func strange(node, id int) []api.Msg {
	var l []api.Msg
	for _, m := range []api.Msg{do(node, id, 1), undo(node, id)} {
		for _, other := range []int{-1, 0, 1, 2, 3, 4, 5, 6, 7, node + 1<<32, node - 1<<32, -node, math.MinInt, math.MaxInt} {
			if other != node {
				m := m
				m.To = other
				l = append(l, m)
			}
			if other != api.Chief {
				m := m
				m.From = other
				l = append(l, m)
			}
		}
		for _, no := range noIds {
			m := m
			m.Id = no
			l = append(l, m)
		}
		for _, kind := range []int{0, -1, -4, 2, 3, 5, 6, 7, 8, 9, 10, 11, 12, 13, 14, 15, 16, 17, 18, 19, 20, 1<<32 + 1, 1<<32 + 4, 1 - 1<<32, math.MinInt, math.MaxInt} {
			m := m
			m.Kind = kind
			l = append(l, m)
		}
	}
	return append(l, api.Msg{}, api.Msg{To: node}, api.Msg{Kind: api.MDo}, api.Msg{Id: id})
}

// P19.2: messages to another node, from another one than Chief, of no id, of
// another kind: nothing is told, nothing changes, no line is written.
func TestStrange(t *testing.T) {
	for _, node := range services {
		n := inStates(t, node, 1)
		for id := 1; id <= 5; id++ {
			for _, m := range strange(node, id) {
				holdAnswer(t, "strange", n, m, 0)
			}
			holdStates(t, "strange", n)
		}
		again(n)
		holdStates(t, "strange, behind a crash", n)
		holdRoom(t, "strange", n, node, 998, 1)
	}
}

// P19.1: of what is no id the state is None.
func TestStateOfNoId(t *testing.T) {
	n := service.New(api.Coupon, most, plenty)
	for id := 1; id <= api.MaxId; id++ {
		n.Handle(do(api.Coupon, id, 1))
	}
	for _, id := range noIds {
		holdState(t, "all are Did", n, id, service.None)
		holdAnswer(t, "all are Did", n, do(api.Coupon, id, 1), 0)
		holdAnswer(t, "all are Did", n, undo(api.Coupon, id), 0)
		holdState(t, "all are Did", n, id, service.None)
	}
	holdLeft(t, "all are Did", n, most-999)
	n.Crash(0, 0)
	for _, id := range noIds {
		holdState(t, "down", n, id, service.None)
	}
}

// P19.3: a nil node tells zero values.
func TestNil(t *testing.T) {
	var n *service.Node
	for range 2 {
		for _, node := range append([]int{api.Chief}, services...) {
			for _, m := range append(strange(node, 7), do(node, 7, 1), undo(node, 7)) {
				if l := n.Handle(m); len(l) != 0 {
					t.Errorf("nil: %+v", l)
				}
			}
		}
		holdNew(t, "nil", n, 0)
		if n.Down() {
			t.Error("nil is down")
		}
		n.Crash(1, 1)
		if n.Down() {
			t.Error("nil is down behind a crash")
		}
		n.Start()
	}
}

// R3: a node that New did not make does not panic either.
func TestNotMade(t *testing.T) {
	n := new(service.Node)
	for range 2 {
		for _, node := range []int{0, 1, 2, 3, 4, 5, 6} {
			n.Handle(do(node, 7, 1))
			n.Handle(do(node, 8, 0))
			n.Handle(undo(node, 7))
		}
		n.State(7)
		n.Left()
		n.Down()
		n.Start()
		n.Crash(0, 0)
	}
}

// R2: what was told is the caller's own, and nodes keep to themselves.
func TestOwnMemory(t *testing.T) {
	n, other := service.New(api.Coupon, 10, 50), service.New(api.Coupon, 10, 50)
	first := n.Handle(do(api.Coupon, 7, 4))
	holdNew(t, "the other one", other, 10)
	second := n.Handle(do(api.Coupon, 8, 3))
	if !slices.Equal(first, back(do(api.Coupon, 7, 4), api.MDone)) {
		t.Errorf("the first answer is %+v", first)
	}
	for _, l := range [][]api.Msg{first, second} {
		l = l[:cap(l)]
		for i := range l {
			l[i] = api.Msg{Kind: -1, From: -1, To: -1, Id: -1, Step: -1, A: -1, B: -1}
		}
	}
	holdAnswer(t, "told again", n, do(api.Coupon, 7, 4), api.MDone)
	holdAnswer(t, "told again", n, do(api.Coupon, 8, 3), api.MDone)
	holdLeft(t, "told again", n, 3)
	n.Crash(0, 0)
	if other.Down() {
		t.Error("the other one is down")
	}
	holdAnswer(t, "the other one", other, do(api.Coupon, 7, 9), api.MDone)
	n.Start()
	holdLeft(t, "told again", n, 3)
	holdLeft(t, "the other one", other, 1)
}
