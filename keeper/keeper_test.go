package keeper_test

import (
	"fmt"
	"math"
	"slices"
	"testing"

	"wharfinger/api"
	"wharfinger/keeper"
)

const (
	most   = api.MaxAmount
	plenty = 4096 // room of a journal that is never full here
)

var keepers = []int{api.Stock, api.Purse}

// known are the kinds of messages that a keeper answers.
var known = []int{api.MPrepare, api.MCommit, api.MCommits, api.MAbort, api.MAborts, api.MAsk}

// noIds are no ids; some of them end in the bits of one.
var noIds = []int{0, -1, -2, -7, -999, 1000, 1001, 1007, most, 1 << 32, 1<<32 + 7, -1 << 32, -1<<32 + 7, math.MinInt, math.MinInt + 7, math.MaxInt}

// noCounts are numbers of which nothing can be taken, however much there is.
var noCounts = []int{0, -1, -2, -most, most + 1, 2 * most, 1 << 32, 1<<32 + 1, -1 << 32, -1<<32 + 1, math.MinInt, math.MinInt + 1, math.MaxInt}

// noItems are neither items nor clients.
var noItems = []int{-1, -2, -8, 8, 9, 999, most, 1 << 32, 1<<32 + 1, -1 << 32, -1<<32 + 1, math.MinInt, math.MinInt + 1, math.MaxInt}

// other is the keeper that node is not.
func other(node int) int { return map[int]int{api.Stock: api.Purse, api.Purse: api.Stock}[node] }

// msg is a message from Chief, without numbers.
func msg(node, kind, id int) api.Msg {
	return api.Msg{Kind: kind, From: api.Chief, To: node, Id: id}
}

// from is m from another node than it was.
func from(node int, m api.Msg) api.Msg {
	m.From = node
	return m
}

// prepare is an MPrepare: b of item or client a.
func prepare(node, id, a, b int) api.Msg {
	return api.Msg{Kind: api.MPrepare, From: api.Chief, To: node, Id: id, A: a, B: b}
}

// back is the answer of a kind to m: to the chief, if it is of a decision, else
// to who sent m.
func back(m api.Msg, kind int) []api.Msg {
	switch kind {
	case 0:
		return nil
	case api.MAck, api.MDamage:
		return []api.Msg{{Kind: kind, From: m.To, To: api.Chief, Id: m.Id}}
	}
	return []api.Msg{{Kind: kind, From: m.To, To: m.From, Id: m.Id}}
}

// asks is what a bell tells.
func asks(node, id int) []api.Msg {
	return []api.Msg{{Kind: api.MAsk, From: node, To: api.Chief, Id: id}, {Kind: api.MAsk, From: node, To: other(node), Id: id}}
}

// holdAnswer hands m in: just one answer of that kind comes back, or none (0).
func holdAnswer(t *testing.T, what any, n *keeper.Node, m api.Msg, kind int) {
	t.Helper()
	if got, want := n.Handle(m), back(m, kind); !slices.Equal(got, want) {
		t.Errorf("%v: to %+v: %+v; want %+v", what, m, got, want)
	}
}

// holdRing holds what the bell for id tells.
func holdRing(t *testing.T, what any, n *keeper.Node, id int, want []api.Msg) {
	t.Helper()
	if got := n.Ring(id); !slices.Equal(got, want) {
		t.Errorf("%v: Ring(%d): %+v; want %+v", what, id, got, want)
	}
}

// holdForce holds what Force tells.
func holdForce(t *testing.T, what any, n *keeper.Node, id int, yes bool, want api.Errno) {
	t.Helper()
	if got := n.Force(id, yes); got != want {
		t.Errorf("%v: Force(%d, %t) is %d; want %d", what, id, yes, got, want)
	}
}

// holdState holds how the order stands.
func holdState(t *testing.T, what any, n *keeper.Node, id, want int) {
	t.Helper()
	if got := n.State(id); got != want {
		t.Errorf("%v: State(%d) is %d; want %d", what, id, got, want)
	}
}

// holdIds holds of which orders the node knows.
func holdIds(t *testing.T, what any, n *keeper.Node, want ...int) {
	t.Helper()
	if got := slices.Collect(n.Ids()); !slices.Equal(got, want) {
		t.Errorf("%v: Ids are %v; want %v", what, got, want)
	}
}

// row is a number for each item, or client.
type row [api.MaxItems]int

// there is how much there is, kept for an order or not.
func there(n *keeper.Node) row {
	var r row
	for i := range r {
		r[i] = n.Goods().OnHand(i) + n.Money().Money(i) // the one of them is nil, and tells 0
	}
	return r
}

// free is how much is there that is kept for no order.
func free(n *keeper.Node) row {
	var r row
	for i := range r {
		r[i] = n.Goods().Free(i) + n.Money().Money(i) - n.Money().Allowed(i)
	}
	return r
}

// holdBook holds the rows of the book, and the till: all that is there no more.
func holdBook(t *testing.T, what any, n *keeper.Node, first, wantThere, wantFree row) {
	t.Helper()
	if got := there(n); got != wantThere {
		t.Errorf("%v: there are %v; want %v", what, got, wantThere)
	}
	if got := free(n); got != wantFree {
		t.Errorf("%v: free are %v; want %v", what, got, wantFree)
	}
	till := 0
	for i := range first {
		till += first[i] - wantThere[i]
	}
	if n.Money() != nil && n.Money().Till() != till {
		t.Errorf("%v: the till has %d; want %d", what, n.Money().Till(), till)
	}
}

// holdNew holds that all is as New made it.
func holdNew(t *testing.T, what any, n *keeper.Node, first row) {
	t.Helper()
	holdIds(t, what, n)
	holdBook(t, what, n, first, first, first)
	for id := -1; id <= api.MaxId+1; id++ {
		holdState(t, what, n, id, api.VNone)
		if _, _, ok := n.Goods().Has(id); ok {
			t.Errorf("%v: %d has reserved", what, id)
		}
		if _, ok := n.Money().Paid(id); ok {
			t.Errorf("%v: %d has paid", what, id)
		}
	}
}

// again crashes the node and starts it.
func again(n *keeper.Node) {
	n.Crash(0, 0)
	n.Start()
}

// stated is how the orders 0 to 9 stand behind inStates: of 7 and 8 it was
// never ready.
var stated = []int{
	1: api.VPrepared, 2: api.VCommitted, 3: api.VAborted, 4: api.VForcedYes, 5: api.VForcedNo,
	7: api.VAborted, 8: api.VAborted, 9: api.VNone,
}

// inStates is a node with 10 of 1 and 10 of 2, and with room for so many lines
// beside the 11 that it has written: orders are as in stated.
func inStates(t *testing.T, node, beside int) *keeper.Node {
	t.Helper()
	n := keeper.New(node, []int{0, 10, 10}, 11+beside)
	holdAnswer(t, "order 1", n, prepare(node, 1, 1, 3), api.MYes)
	holdAnswer(t, "order 2", n, prepare(node, 2, 1, 2), api.MYes)
	holdAnswer(t, "order 2", n, msg(node, api.MCommit, 2), api.MAck)
	holdAnswer(t, "order 3", n, prepare(node, 3, 2, 4), api.MYes)
	holdAnswer(t, "order 3", n, msg(node, api.MAbort, 3), api.MAck)
	holdAnswer(t, "order 4", n, prepare(node, 4, 2, 1), api.MYes)
	holdForce(t, "order 4", n, 4, true, api.OK)
	holdAnswer(t, "order 5", n, prepare(node, 5, 2, 5), api.MYes)
	holdForce(t, "order 5", n, 5, false, api.OK)
	holdAnswer(t, "order 7", n, prepare(node, 7, 1, 6), api.MNo)
	holdAnswer(t, "order 8", n, msg(node, api.MAsk, 8), api.MAborts)
	return n
}

// holdStates holds that a node is as inStates made it.
func holdStates(t *testing.T, what any, n *keeper.Node) {
	t.Helper()
	for id, state := range stated {
		holdState(t, what, n, id, state)
	}
	holdState(t, what, n, api.MaxId, api.VNone)
	holdIds(t, what, n, 1, 2, 3, 4, 5, 7, 8)
	holdBook(t, what, n, row{0, 10, 10}, row{0, 8, 9}, row{0, 5, 9})
	for id := range stated {
		item, qty, ok := n.Goods().Has(id)
		if has := id == 1 && n.Goods() != nil; ok != has || has && (item != 1 || qty != 3) {
			t.Errorf("%v: %d has reserved %d of %d, %t", what, id, qty, item, ok)
		}
		paid, ok := n.Money().Paid(id)
		if want := map[int]int{2: 2, 4: 1}[id]; n.Money() != nil && (paid != want || ok != (want > 0)) {
			t.Errorf("%v: %d has paid %d, %t", what, id, paid, ok)
		}
	}
}

// holdRoom holds that there is room for so many lines and not one more: orders
// of which it knows nothing are asked for. They must be VNone, and so must be
// those behind them.
func holdRoom(t *testing.T, what any, n *keeper.Node, node, first, want int) {
	t.Helper()
	for i := range want {
		holdAnswer(t, what, n, msg(node, api.MAsk, first+i), api.MAborts)
	}
	for range 2 {
		holdAnswer(t, what, n, msg(node, api.MAsk, first+want), 0)
	}
}

// P20.1: a new keeper knows of no order, has what it was given, and is up; its
// book is of its own kind, the other one is nil.
func TestNew(t *testing.T) {
	for _, node := range keepers {
		for _, c := range []struct {
			l    []int
			want row
		}{
			{nil, row{}},
			{[]int{}, row{}},
			{[]int{5}, row{5}},
			{[]int{0, 10}, row{0, 10}},
			{[]int{1, 2, 3, 4, 5, 6, 7}, row{1, 2, 3, 4, 5, 6, 7}},
			{[]int{1, 2, 3, 4, 5, 6, 7, 8}, row{1, 2, 3, 4, 5, 6, 7, 8}},
			{[]int{1, 2, 3, 4, 5, 6, 7, 8, 9}, row{1, 2, 3, 4, 5, 6, 7, 8}},
			{slices.Repeat([]int{3}, 1000), row{3, 3, 3, 3, 3, 3, 3, 3}},
			{[]int{most - 1, most, most + 1, 2 * most, 1 << 32, 1<<32 + 5, math.MaxInt, -1}, row{most - 1, most, most, most, most, most, most}},
			{[]int{-1, -5, -most, -1 << 32, -1<<32 + 5, math.MinInt, math.MinInt + 5, 1}, row{7: 1}},
		} {
			what := fmt.Sprintf("New(%d, %d numbers)", node, len(c.l))
			n := keeper.New(node, c.l, plenty)
			if n == nil {
				t.Fatalf("%s is nil", what)
			}
			holdNew(t, what, n, c.want)
			if n.Down() {
				t.Errorf("%s is down", what)
			}
			if (n.Goods() != nil) != (node == api.Stock) || (n.Money() != nil) != (node == api.Purse) {
				t.Errorf("%s: a book of another kind", what)
			}
			n.Crash(0, 0)
			holdNew(t, what+", down", n, c.want)
			if (n.Goods() != nil) != (node == api.Stock) || (n.Money() != nil) != (node == api.Purse) {
				t.Errorf("%s, down: a book of another kind", what)
			}
			n.Start()
			holdNew(t, what+", started", n, c.want)
		}
	}
}

// P20.1: what is no keeper has no node.
func TestNewOfNoKeeper(t *testing.T) {
	for _, node := range []int{api.Chief, api.Shipper, api.Coupon, api.Credit, api.Fraud, api.Nodes, -1, -2, -3, 8, 1 + 1<<32, 2 + 1<<32, 1 - 1<<32, math.MinInt, math.MinInt + 1, math.MaxInt} {
		for _, l := range [][]int{nil, {}, {5}, {1, 2, 3, 4, 5, 6, 7, 8, 9}} {
			for _, room := range []int{-1, 0, 1, 50, 4096} {
				if keeper.New(node, l, room) != nil {
					t.Errorf("New(%d, %v, %d) is a node", node, l, room)
				}
			}
		}
	}
}

// R2: what is handed in is neither changed nor kept, and what lies behind its
// length is not read.
func TestNewList(t *testing.T) {
	for _, node := range keepers {
		whole := []int{5, -1, most + 1, 8, 9, 10}
		n := keeper.New(node, whole[:3], 50)
		if want := []int{5, -1, most + 1, 8, 9, 10}; !slices.Equal(whole, want) {
			t.Errorf("%d: the list is %v", node, whole)
		}
		for i := range whole {
			whole[i] = 77
		}
		holdNew(t, "the list is another one", n, row{5, 0, most})
		n.Crash(0, 0)
		holdNew(t, "down", n, row{5, 0, most})
		n.Start()
		holdNew(t, "started", n, row{5, 0, most})
		holdAnswer(t, "6 of 5", n, prepare(node, 1, 0, 6), api.MNo)
		holdAnswer(t, "5 of 5", n, prepare(node, 2, 0, 5), api.MYes)
		if slices.ContainsFunc(whole, func(x int) bool { return x != 77 }) {
			t.Errorf("%d: the list is %v", node, whole)
		}
	}
}

// P20.1: the journal has so much room, 1 at least.
func TestRoom(t *testing.T) {
	for room, want := range map[int]int{1: 1, 2: 2, 3: 3, 4: 4, 50: 50, 0: 1, -1: 1, -50: 1, -1<<32 + 5: 1, math.MinInt: 1, math.MinInt + 5: 1} {
		for _, node := range keepers {
			n := keeper.New(node, []int{10}, room)
			holdRoom(t, room, n, node, 1, want)
			again(n)
			holdAnswer(t, room, n, msg(node, api.MAsk, 999), 0)
		}
	}
}

// P20.1: with as much room as may be, and above, all orders come to be ready and
// are decided: two lines for each, and none is forgotten.
func TestMostRoom(t *testing.T) {
	for _, room := range []int{1998, 4095, 4096, 4097, 1 << 32, math.MaxInt} {
		for _, node := range keepers {
			n := keeper.New(node, []int{most, 3000}, room)
			for id := 1; id <= api.MaxId; id++ {
				holdAnswer(t, room, n, prepare(node, id, 1, 3), api.MYes)
			}
			holdBook(t, room, n, row{most, 3000}, row{most, 3000}, row{most, 3})
			for id := api.MaxId; id >= 1; id-- {
				kind := []int{api.MCommit, api.MAborts, api.MAbort}[id%3]
				holdAnswer(t, room, n, from(other(node), msg(node, kind, id)), api.MAck)
			}
			again(n)
			for id := 1; id <= api.MaxId; id++ {
				holdState(t, room, n, id, []int{api.VCommitted, api.VAborted, api.VAborted}[id%3])
			}
			holdBook(t, room, n, row{most, 3000}, row{most, 3000 - 999}, row{most, 3000 - 999})
		}
	}
}

// P20.2: the chapter's example.
func TestExample(t *testing.T) {
	for _, node := range keepers {
		for _, sender := range []int{api.Chief, other(node)} {
			n := keeper.New(node, []int{10}, 50)
			holdAnswer(t, "MPrepare", n, from(sender, prepare(node, 7, 0, 4)), api.MYes)
			holdBook(t, "MPrepare", n, row{10}, row{10}, row{6})
			holdAnswer(t, "MAbort", n, from(sender, msg(node, api.MAbort, 7)), api.MAck)
			holdBook(t, "MAbort", n, row{10}, row{10}, row{10})
			holdAnswer(t, "MPrepare", n, from(sender, prepare(node, 7, 0, 4)), api.MNo)
			holdState(t, "behind all", n, 7, api.VAborted)
			holdBook(t, "behind all", n, row{10}, row{10}, row{10})
		}
	}
}

// P20.2: one order alone, by each way that it may go.
func TestOneOrder(t *testing.T) {
	for _, node := range keepers {
		for _, kind := range []int{api.MCommit, api.MCommits} {
			n := keeper.New(node, []int{0, 0, 9}, 50)
			holdAnswer(t, kind, n, prepare(node, 5, 2, 4), api.MYes)
			holdState(t, kind, n, 5, api.VPrepared)
			holdBook(t, kind, n, row{2: 9}, row{2: 9}, row{2: 5})
			holdAnswer(t, kind, n, msg(node, kind, 5), api.MAck)
			holdState(t, kind, n, 5, api.VCommitted)
			holdBook(t, kind, n, row{2: 9}, row{2: 5}, row{2: 5})
			holdIds(t, kind, n, 5)
		}
		for _, kind := range []int{api.MAbort, api.MAborts} {
			for _, first := range []bool{true, false} {
				n := keeper.New(node, []int{0, 0, 9}, 50)
				if first {
					holdAnswer(t, kind, n, prepare(node, 5, 2, 4), api.MYes)
				}
				holdAnswer(t, kind, n, msg(node, kind, 5), api.MAck)
				holdState(t, kind, n, 5, api.VAborted)
				holdBook(t, kind, n, row{2: 9}, row{2: 9}, row{2: 9})
				holdIds(t, kind, n, 5)
			}
		}
	}
}

// P20.2: some orders, one message behind the other, and what the book tells
// behind each.
func TestHandle(t *testing.T) {
	for _, node := range keepers {
		n := keeper.New(node, []int{10, 4}, 50)
		peer := other(node)
		for i, s := range []struct {
			m           api.Msg
			kind, state int
			there, free row
		}{
			{prepare(node, 7, 0, 4), api.MYes, api.VPrepared, row{10, 4}, row{6, 4}},
			{prepare(node, 999, 0, 6), api.MYes, api.VPrepared, row{10, 4}, row{0, 4}},
			{prepare(node, 1, 0, 1), api.MNo, api.VAborted, row{10, 4}, row{0, 4}},
			{prepare(node, 2, 1, 3), api.MYes, api.VPrepared, row{10, 4}, row{0, 1}},
			{msg(node, api.MCommit, 3), 0, api.VNone, row{10, 4}, row{0, 1}},
			{msg(node, api.MCommit, 7), api.MAck, api.VCommitted, row{6, 4}, row{0, 1}},
			{from(peer, msg(node, api.MAsk, 999)), 0, api.VPrepared, row{6, 4}, row{0, 1}},
			{from(peer, msg(node, api.MAsk, 7)), api.MCommits, api.VCommitted, row{6, 4}, row{0, 1}},
			{from(peer, msg(node, api.MAborts, 999)), api.MAck, api.VAborted, row{6, 4}, row{6, 1}},
			{from(peer, msg(node, api.MAsk, 998)), api.MAborts, api.VAborted, row{6, 4}, row{6, 1}},
			{prepare(node, 998, 0, 1), api.MNo, api.VAborted, row{6, 4}, row{6, 1}},
			{prepare(node, 3, 0, 5), api.MYes, api.VPrepared, row{6, 4}, row{1, 1}},
			{from(peer, msg(node, api.MCommits, 2)), api.MAck, api.VCommitted, row{6, 1}, row{1, 1}},
			{msg(node, api.MAbort, 4), api.MAck, api.VAborted, row{6, 1}, row{1, 1}},
			{prepare(node, 4, 0, 1), api.MNo, api.VAborted, row{6, 1}, row{1, 1}},
			{msg(node, api.MAbort, 2), 0, api.VCommitted, row{6, 1}, row{1, 1}},
			{msg(node, api.MCommit, 999), 0, api.VAborted, row{6, 1}, row{1, 1}},
			{prepare(node, 5, 1, 1), api.MYes, api.VPrepared, row{6, 1}, row{1, 0}},
			{msg(node, api.MCommit, 3), api.MAck, api.VCommitted, row{1, 1}, row{1, 0}},
			{msg(node, api.MAbort, 5), api.MAck, api.VAborted, row{1, 1}, row{1, 1}},
			{prepare(node, 7, 0, 4), 0, api.VCommitted, row{1, 1}, row{1, 1}},
		} {
			holdAnswer(t, i, n, s.m, s.kind)
			holdState(t, i, n, s.m.Id, s.state)
			holdBook(t, i, n, row{10, 4}, s.there, s.free)
		}
		holdIds(t, "behind all", n, 1, 2, 3, 4, 5, 7, 998, 999)
	}
}

// goes is a state, and the kind of an answer.
type goes struct{ state, kind int }

// ways is what each kind makes of each state: VNone first, VForcedNo last. Of
// VNone, MPrepare makes what stands here if it can.
var ways = map[int][6]goes{
	api.MPrepare: {{1, api.MYes}, {1, api.MYes}, {2, 0}, {3, api.MNo}, {4, api.MYes}, {5, api.MNo}},
	api.MCommit:  {{0, 0}, {2, api.MAck}, {2, api.MAck}, {3, 0}, {4, api.MAck}, {5, api.MDamage}},
	api.MCommits: {{0, 0}, {2, api.MAck}, {2, api.MAck}, {3, 0}, {4, api.MAck}, {5, api.MDamage}},
	api.MAbort:   {{3, api.MAck}, {3, api.MAck}, {2, 0}, {3, api.MAck}, {4, api.MDamage}, {5, api.MAck}},
	api.MAborts:  {{3, api.MAck}, {3, api.MAck}, {2, 0}, {3, api.MAck}, {4, api.MDamage}, {5, api.MAck}},
	api.MAsk:     {{3, api.MAborts}, {1, 0}, {2, api.MCommits}, {3, api.MAborts}, {4, 0}, {5, 0}},
}

// P20.2: every kind of message in every state, from the chief and from the
// other keeper; and the same one once more, which writes no line.
func TestEachInEach(t *testing.T) {
	for _, node := range keepers {
		for _, sender := range []int{api.Chief, other(node)} {
			for _, kind := range known {
				for id := 1; id < len(stated); id++ {
					what := fmt.Sprintf("node %d, from %d, kind %d, order %d", node, sender, kind, id)
					n := inStates(t, node, 2)
					m := api.Msg{Kind: kind, From: sender, To: node, Id: id, A: 2, B: 9}
					want := ways[kind][stated[id]]
					holdAnswer(t, what, n, m, want.kind)
					holdState(t, what, n, id, want.state)
					holdEachBook(t, what, n, id, want.state)
					behind := ways[kind][want.state]
					for range 3 {
						holdAnswer(t, what+", once more", n, m, behind.kind)
						holdState(t, what+", once more", n, id, want.state)
						holdEachBook(t, what+", once more", n, id, want.state)
					}
					again(n)
					holdState(t, what+", behind a crash", n, id, want.state)
					holdEachBook(t, what+", behind a crash", n, id, want.state)
					room := 2
					if want.state != stated[id] {
						room = 1
					}
					holdRoom(t, what, n, node, 900, room)
				}
			}
		}
	}
}

// holdEachBook holds the book of inStates behind one message about an order, of
// which the order came to be in that state.
func holdEachBook(t *testing.T, what any, n *keeper.Node, id, state int) {
	t.Helper()
	wantThere, wantFree := row{0, 8, 9}, row{0, 5, 9}
	switch {
	case id == 1 && state == api.VCommitted:
		wantThere = row{0, 5, 9}
	case id == 1 && state == api.VAborted:
		wantFree = row{0, 8, 9}
	case stated[id] == api.VNone && state == api.VPrepared:
		wantFree = row{0, 5, 0}
	}
	holdBook(t, what, n, row{0, 10, 10}, wantThere, wantFree)
}

// P20.2: an answer has m's Id, the node's own number, and no other numbers,
// whatever m's are; what has no meaning in m says nothing.
func TestAnswer(t *testing.T) {
	for _, node := range keepers {
		for _, sender := range []int{api.Chief, other(node)} {
			for _, x := range []int{0, 1, 2, -1, 99, 1<<32 + 1, math.MinInt, math.MaxInt} {
				for _, id := range []int{1, 2, 500, 998, 999} {
					what := fmt.Sprintf("node %d, from %d, %d, id %d", node, sender, x, id)
					n := keeper.New(node, []int{10}, 50)
					m := api.Msg{Kind: api.MPrepare, From: sender, To: node, Id: id, Step: x, B: 4}
					holdAnswer(t, what, n, m, api.MYes)
					m.A, m.B = x, x
					holdAnswer(t, what, n, m, api.MYes)
					holdBook(t, what, n, row{10}, row{10}, row{6})
					m.Kind = api.MCommits
					holdAnswer(t, what, n, m, api.MAck)
					m.Kind = api.MAsk
					holdAnswer(t, what, n, m, api.MCommits)
					m.Kind, m.Id = api.MAborts, 7
					holdAnswer(t, what, n, m, api.MAck)
					m.Kind = api.MPrepare
					holdAnswer(t, what, n, m, api.MNo)
					m.Kind = api.MAsk
					holdAnswer(t, what, n, m, api.MAborts)
					holdBook(t, what, n, row{10}, row{6}, row{6})
				}
			}
		}
	}
}

// P20.2: what became of a decision is told to the chief, also where the other
// keeper told it; all else to who asked. Written out, node by node.
func TestToWhom(t *testing.T) {
	for _, c := range []struct {
		node, sender int
		prepare, ask int // to whom the answers to these go
	}{
		{api.Stock, api.Chief, api.Chief, api.Chief},
		{api.Stock, api.Purse, api.Purse, api.Purse},
		{api.Purse, api.Chief, api.Chief, api.Chief},
		{api.Purse, api.Stock, api.Stock, api.Stock},
	} {
		n := inStates(t, c.node, 9)
		for i, s := range []struct {
			m    api.Msg
			want api.Msg
		}{
			{prepare(c.node, 9, 1, 1), api.Msg{Kind: api.MYes, From: c.node, To: c.prepare, Id: 9}},
			{prepare(c.node, 3, 1, 1), api.Msg{Kind: api.MNo, From: c.node, To: c.prepare, Id: 3}},
			{msg(c.node, api.MAsk, 2), api.Msg{Kind: api.MCommits, From: c.node, To: c.ask, Id: 2}},
			{msg(c.node, api.MAsk, 10), api.Msg{Kind: api.MAborts, From: c.node, To: c.ask, Id: 10}},
			{msg(c.node, api.MCommits, 1), api.Msg{Kind: api.MAck, From: c.node, Id: 1}},
			{msg(c.node, api.MCommit, 9), api.Msg{Kind: api.MAck, From: c.node, Id: 9}},
			{msg(c.node, api.MAborts, 11), api.Msg{Kind: api.MAck, From: c.node, Id: 11}},
			{msg(c.node, api.MAborts, 4), api.Msg{Kind: api.MDamage, From: c.node, Id: 4}},
			{msg(c.node, api.MAbort, 4), api.Msg{Kind: api.MDamage, From: c.node, Id: 4}},
			{msg(c.node, api.MCommits, 4), api.Msg{Kind: api.MAck, From: c.node, Id: 4}},
			{msg(c.node, api.MCommits, 5), api.Msg{Kind: api.MDamage, From: c.node, Id: 5}},
			{msg(c.node, api.MCommit, 5), api.Msg{Kind: api.MDamage, From: c.node, Id: 5}},
			{msg(c.node, api.MAborts, 5), api.Msg{Kind: api.MAck, From: c.node, Id: 5}},
		} {
			if got := n.Handle(from(c.sender, s.m)); !slices.Equal(got, []api.Msg{s.want}) {
				t.Errorf("%+v, %d: %+v; want %+v", c, i, got, s.want)
			}
		}
	}
}
