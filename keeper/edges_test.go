package keeper_test

import (
	"fmt"
	"math"
	"slices"
	"testing"

	"wharfinger/api"
	"wharfinger/keeper"
)

// P20.2: just as much as is there can be taken, one more can't; nor can what is
// no amount above 0, however much there is.
func TestHowMuch(t *testing.T) {
	for _, node := range keepers {
		for _, first := range []int{0, 1, 2, 10, most - 1, most} {
			counts := append([]int{1, 2, 9, 10, 11, first - 1, first, first + 1, most - 1, most}, noCounts...)
			for _, b := range counts {
				what := fmt.Sprintf("node %d, %d of %d", node, b, first)
				n := keeper.New(node, []int{5, 0, 0, first}, 2)
				kind, state, left := api.MNo, api.VAborted, first
				if 1 <= b && b <= first {
					kind, state, left = api.MYes, api.VPrepared, first-b
				}
				holdAnswer(t, what, n, prepare(node, 7, 3, b), kind)
				for range 2 {
					holdState(t, what, n, 7, state)
					holdBook(t, what, n, row{5, 3: first}, row{5, 3: first}, row{5, 3: left})
					again(n)
				}
				holdRoom(t, what, n, node, 8, 1)
			}
		}
	}
}

// P20.2: just as much as is free, behind others that are ready, committed and
// aborted; then one more.
func TestLastOfIt(t *testing.T) {
	for _, node := range keepers {
		for b := 3; b <= 7; b++ {
			n := keeper.New(node, []int{0, 10}, 50)
			holdAnswer(t, b, n, prepare(node, 1, 1, 3), api.MYes)
			holdAnswer(t, b, n, prepare(node, 2, 1, 2), api.MYes)
			holdAnswer(t, b, n, prepare(node, 3, 1, 5), api.MYes)
			holdAnswer(t, b, n, prepare(node, 4, 1, 1), api.MNo)
			holdAnswer(t, b, n, msg(node, api.MCommit, 2), api.MAck)
			holdAnswer(t, b, n, prepare(node, 5, 1, 1), api.MNo)
			holdAnswer(t, b, n, msg(node, api.MAbort, 3), api.MAck)
			want := api.MNo
			if b <= 5 {
				want = api.MYes
			}
			holdAnswer(t, b, n, prepare(node, 6, 1, b), want)
			for id, left := 7, free(n)[1]; left > 0; id, left = id+1, left-1 {
				holdAnswer(t, b, n, prepare(node, id, 1, 1), api.MYes)
			}
			holdBook(t, b, n, row{0, 10}, row{0, 8}, row{})
			holdAnswer(t, b, n, prepare(node, 999, 1, 1), api.MNo)
			holdForce(t, b, n, 1, false, api.OK)
			holdAnswer(t, b, n, prepare(node, 998, 1, 4), api.MNo)
			holdAnswer(t, b, n, prepare(node, 997, 1, 3), api.MYes)
			holdBook(t, b, n, row{0, 10}, row{0, 8}, row{})
		}
	}
}

// P20.2: of each item or client what it has, and none of another's; of what is
// none nothing can be taken.
func TestEachItem(t *testing.T) {
	first := row{10, 11, 12, 13, 14, 15, 16, 17}
	for _, node := range keepers {
		n := keeper.New(node, first[:], plenty)
		wantThere, wantFree := first, first
		for item := range first {
			holdAnswer(t, item, n, prepare(node, 100+item, item, first[item]+1), api.MNo)
			holdAnswer(t, item, n, prepare(node, 200+item, item, first[item]), api.MYes)
			wantFree[item] = 0
			holdBook(t, item, n, first, wantThere, wantFree)
			holdAnswer(t, item, n, prepare(node, 300+item, item, 1), api.MNo)
		}
		for item := range first {
			holdAnswer(t, item, n, msg(node, api.MCommit, 200+item), api.MAck)
			wantThere[item] = 0
			holdBook(t, item, n, first, wantThere, wantFree)
		}
		for i, item := range noItems {
			n := keeper.New(node, first[:], 2)
			for range 2 {
				holdAnswer(t, item, n, prepare(node, 400+i, item, 1), api.MNo)
				holdState(t, item, n, 400+i, api.VAborted)
				holdBook(t, item, n, first, first, first)
				again(n)
			}
			holdRoom(t, item, n, node, 500, 1)
		}
	}
}

// P20.2: of a list of nothing nothing can be taken; of more than eight numbers
// the first eight are taken.
func TestLists(t *testing.T) {
	for _, node := range keepers {
		for _, l := range [][]int{nil, {}, {3, 3, 3, 3, 3, 3, 3, 3}, {3, 3, 3, 3, 3, 3, 3, 3, 3, 3}} {
			n := keeper.New(node, l, 50)
			for item := range 10 {
				want := api.MNo
				if item < min(len(l), 8) {
					want = api.MYes
				}
				holdAnswer(t, len(l), n, prepare(node, 10+item, item, 3), want)
				holdAnswer(t, len(l), n, prepare(node, 30+item, item, 1), api.MNo)
			}
		}
	}
}

// P20.2: the till has room for an amount and no more, so that Purse can't say
// yes to what would not find room there; Stock has no till.
func TestTill(t *testing.T) {
	for _, decided := range []int{0, api.MCommit} {
		money := keeper.New(api.Purse, []int{most, most, 5}, 50)
		goods := keeper.New(api.Stock, []int{most, most, 5}, 50)
		for _, n := range []*keeper.Node{money, goods} {
			node, kind := api.Purse, api.MNo
			if n == goods {
				node, kind = api.Stock, api.MYes
			}
			holdAnswer(t, node, n, prepare(node, 1, 0, most-3), api.MYes)
			if decided != 0 {
				holdAnswer(t, node, n, msg(node, decided, 1), api.MAck)
			}
			holdAnswer(t, node, n, prepare(node, 2, 1, 4), kind)
			holdAnswer(t, node, n, prepare(node, 3, 1, 3), api.MYes)
			holdAnswer(t, node, n, prepare(node, 4, 2, 1), kind)
			holdAnswer(t, node, n, msg(node, api.MAbort, 3), api.MAck)
			holdAnswer(t, node, n, prepare(node, 5, 2, 1), api.MYes)
			again(n)
			holdState(t, node, n, 3, api.VAborted)
			holdState(t, node, n, 5, api.VPrepared)
			holdAnswer(t, node, n, msg(node, api.MCommit, 1), api.MAck)
			holdAnswer(t, node, n, msg(node, api.MCommit, 5), api.MAck)
		}
		if got := money.Money().Till(); got != most-2 {
			t.Errorf("the till has %d", got)
		}
	}
}

// P20.2: the first id and the last one, and all between, each stand alone.
func TestEachId(t *testing.T) {
	for _, node := range keepers {
		n := keeper.New(node, []int{998}, plenty)
		for i := range api.MaxId {
			id := 377 * (i + 1) % 1000 // neither rising nor falling
			holdState(t, "ahead of it", n, id, api.VNone)
			kind, state := api.MYes, api.VPrepared
			if i == 998 {
				kind, state = api.MNo, api.VAborted
			}
			holdAnswer(t, i, n, prepare(node, id, 0, 1), kind)
			holdState(t, i, n, id, state)
		}
		want := make([]int, 1001)
		for i := range api.MaxId {
			id := 739 * (i + 1) % 1000
			want[id] = api.VPrepared
			switch {
			case n.State(id) == api.VAborted:
				want[id] = api.VAborted
			case i%5 == 0:
				holdAnswer(t, i, n, msg(node, api.MCommit, id), api.MAck)
				want[id] = api.VCommitted
			case i%5 == 1:
				holdAnswer(t, i, n, msg(node, api.MAbort, id), api.MAck)
				want[id] = api.VAborted
			case i%5 == 2:
				holdForce(t, i, n, id, true, api.OK)
				want[id] = api.VForcedYes
			case i%5 == 3:
				holdForce(t, i, n, id, false, api.OK)
				want[id] = api.VForcedNo
			}
		}
		for range 2 {
			for id, state := range want {
				holdState(t, "all", n, id, state)
			}
			again(n)
		}
		var all []int
		for id := 1; id <= api.MaxId; id++ {
			all = append(all, id)
		}
		holdIds(t, "all", n, all...)
	}
}

// full is each message in each state where there is no room, and its answer:
// nothing is told but of what stands there already.
func full(node int) []struct {
	m    api.Msg
	kind int
} {
	var l []struct {
		m    api.Msg
		kind int
	}
	for _, kind := range known {
		for id := 1; id < len(stated); id++ {
			for _, b := range []int{1, 5, 6, 0, -1, most + 1} {
				for _, sender := range []int{api.Chief, other(node)} {
					m := from(sender, prepare(node, id, 1, b))
					m.Kind = kind
					way := ways[kind][stated[id]]
					if way.state != stated[id] {
						way.kind = 0
					}
					l = append(l, struct {
						m    api.Msg
						kind int
					}{m, way.kind})
				}
			}
		}
	}
	return l
}

// P20.2, P20.3: behind the last line that there is room for nothing changes,
// also not behind a crash; nothing is told but of what stands there already.
func TestFull(t *testing.T) {
	for _, node := range keepers {
		n := inStates(t, node, 0)
		for round := range 3 {
			for _, s := range full(node) {
				what := fmt.Sprintf("round %d, %+v", round, s.m)
				holdAnswer(t, what, n, s.m, s.kind)
				holdStates(t, what, n)
			}
			for id := range stated {
				holdNoForce(t, "full", n, id, api.ErrFull)
				holdWaits(t, "full", n, node, id)
				holdStates(t, id, n)
			}
			again(n)
			holdStates(t, "behind a crash", n)
		}
		for _, s := range full(node) {
			n := inStates(t, node, 0)
			holdAnswer(t, "alone", n, s.m, s.kind)
			again(n)
			holdStates(t, s.m, n)
		}
	}
}

// P20.2: what is written as the last line is written: each change there is, with
// room for it and no more.
func TestLastLine(t *testing.T) {
	for _, node := range keepers {
		for _, kind := range known {
			for id := 1; id < len(stated); id++ {
				way := ways[kind][stated[id]]
				if way.state == stated[id] {
					continue
				}
				what := fmt.Sprintf("kind %d, order %d", kind, id)
				n := inStates(t, node, 1)
				holdAnswer(t, what, n, api.Msg{Kind: kind, To: node, Id: id, A: 2, B: 9}, way.kind)
				for range 2 {
					holdState(t, what, n, id, way.state)
					holdEachBook(t, what, n, id, way.state)
					holdRoom(t, what, n, node, 900, 0)
					again(n)
				}
			}
		}
	}
}

// P20.2, P20.3: room of 1, whatever is written there.
func TestRoomOfOne(t *testing.T) {
	for _, node := range keepers {
		for _, c := range []struct {
			m           api.Msg
			kind, state int
			free        int
		}{
			{prepare(node, 7, 0, 4), api.MYes, api.VPrepared, 6},
			{prepare(node, 7, 0, 11), api.MNo, api.VAborted, 10},
			{prepare(node, 7, 0, 0), api.MNo, api.VAborted, 10},
			{msg(node, api.MAbort, 7), api.MAck, api.VAborted, 10},
			{msg(node, api.MAsk, 7), api.MAborts, api.VAborted, 10},
		} {
			n := keeper.New(node, []int{10}, 1)
			holdAnswer(t, "the first", n, c.m, c.kind)
			for range 3 {
				for _, kind := range known {
					m := prepare(node, 8, 0, 1)
					m.Kind = kind
					holdAnswer(t, c.m, n, m, 0)
					way := ways[kind][c.state]
					if way.state != c.state {
						way.kind = 0
					}
					m.Id = 7
					holdAnswer(t, c.m, n, m, way.kind)
				}
				for _, yes := range []bool{true, false} {
					want := api.ErrState
					if c.state == api.VPrepared {
						want = api.ErrFull
					}
					holdForce(t, c.m, n, 7, yes, want)
					holdForce(t, c.m, n, 8, yes, api.ErrState)
				}
				holdState(t, c.m, n, 7, c.state)
				holdState(t, c.m, n, 8, api.VNone)
				holdIds(t, c.m, n, 7)
				holdBook(t, c.m, n, row{10}, row{10}, row{c.free})
				again(n)
			}
		}
	}
}

// strange is messages that nothing comes of, about an order.
func strange(node, id int) []api.Msg {
	var l []api.Msg
	for _, kind := range known {
		m := prepare(node, id, 1, 1)
		m.Kind = kind
		for _, x := range []int{-1, 0, 1, 2, 3, 4, 5, 6, 7, node + 1<<32, node - 1<<32, 1 << 32, -node, math.MinInt, math.MaxInt} {
			for _, sender := range []int{api.Chief, other(node)} {
				if x != node {
					m := from(sender, m)
					m.To = x
					l = append(l, m)
				}
			}
			if x != api.Chief && x != other(node) {
				l = append(l, from(x, m))
			}
		}
		for _, no := range noIds {
			m := m
			m.Id = no
			l = append(l, m, from(other(node), m))
		}
	}
	for _, kind := range []int{0, -1, -6, 1, 2, 3, 4, 5, 7, 8, 11, 15, 16, 17, 18, 19, 20, 1<<32 + 6, 1<<32 + 9, 1<<32 + 10, 12 - 1<<32, math.MinInt, math.MaxInt} {
		m := prepare(node, id, 1, 1)
		m.Kind = kind
		l = append(l, m, from(other(node), m))
	}
	return append(l, api.Msg{}, api.Msg{To: node}, api.Msg{Kind: api.MPrepare}, api.Msg{Id: id})
}

// P20.2: messages to another node, from neither the chief nor the other keeper,
// of no id, of another kind: nothing is told, nothing changes, no line is
// written.
func TestStrange(t *testing.T) {
	for _, node := range keepers {
		n := inStates(t, node, 1)
		for id := 1; id < len(stated); id++ {
			for _, m := range strange(node, id) {
				holdAnswer(t, "strange", n, m, 0)
			}
			holdStates(t, "strange", n)
		}
		again(n)
		holdStates(t, "strange, behind a crash", n)
		holdRoom(t, "strange", n, node, 998, 1)
	}
}

// P20.1, P20.3: what is no id is VNone, neither rings nor is forced.
func TestNoId(t *testing.T) {
	for _, node := range keepers {
		n := keeper.New(node, []int{most}, plenty)
		for id := 1; id <= api.MaxId; id++ {
			n.Handle(prepare(node, id, 0, 1))
		}
		for _, id := range noIds {
			for _, kind := range known {
				holdAnswer(t, "all are ready", n, msg(node, kind, id), 0)
			}
			holdRing(t, "all are ready", n, id, nil)
			holdNoForce(t, "all are ready", n, id, 0)
			holdState(t, "all are ready", n, id, api.VNone)
		}
		holdBook(t, "all are ready", n, row{most}, row{most}, row{most - 999})
		n.Crash(0, 0)
		for _, id := range noIds {
			holdState(t, "down", n, id, api.VNone)
			holdRing(t, "down", n, id, nil)
			holdForce(t, "down", n, id, true, api.ErrDown)
			holdForce(t, "down", n, id, false, api.ErrDown)
		}
	}
}

// P20.4: a nil node tells zero values, and ErrArg.
func TestNil(t *testing.T) {
	var n *keeper.Node
	for range 2 {
		for _, node := range append([]int{api.Chief}, keepers...) {
			for _, m := range append(strange(node, 7), prepare(node, 7, 0, 1), msg(node, api.MAsk, 7)) {
				if l := n.Handle(m); len(l) != 0 {
					t.Errorf("nil: %+v", l)
				}
			}
		}
		for _, id := range append([]int{1, 7, 999}, noIds...) {
			holdRing(t, "nil", n, id, nil)
			holdForce(t, "nil", n, id, true, api.ErrArg)
			holdForce(t, "nil", n, id, false, api.ErrArg)
		}
		holdNew(t, "nil", n, row{})
		if n.Goods() != nil || n.Money() != nil {
			t.Error("nil has a book")
		}
		if n.Down() {
			t.Error("nil is down")
		}
		n.Crash(1, 1)
		if n.Down() {
			t.Error("nil is down behind a crash")
		}
		n.Start()
	}
}

// R3: a node that New did not make does not panic either.
func TestNotMade(t *testing.T) {
	n := new(keeper.Node)
	for range 2 {
		for node := range api.Nodes {
			for sender := range api.Nodes {
				for _, kind := range known {
					m := from(sender, prepare(node, 7, 0, 1))
					m.Kind = kind
					n.Handle(m)
				}
			}
		}
		n.State(7)
		n.Ring(7)
		n.Force(7, true)
		n.Force(7, false)
		for range n.Ids() {
		}
		n.Goods().Free(0)
		n.Money().Till()
		n.Down()
		n.Start()
		n.Crash(0, 0)
	}
}

// R2: what was told is the caller's own, and nodes keep to themselves.
func TestOwnMemory(t *testing.T) {
	for _, node := range keepers {
		n, twin := keeper.New(node, []int{10}, 50), keeper.New(node, []int{10}, 50)
		first := n.Handle(prepare(node, 7, 0, 4))
		holdNew(t, "the other one", twin, row{10})
		second := n.Handle(prepare(node, 8, 0, 3))
		third := n.Ring(7)
		if !slices.Equal(first, back(prepare(node, 7, 0, 4), api.MYes)) {
			t.Errorf("the first answer is %+v", first)
		}
		for _, l := range [][]api.Msg{first, second, third} {
			l = l[:cap(l)]
			for i := range l {
				l[i] = api.Msg{Kind: -1, From: -1, To: -1, Id: -1, Step: -1, A: -1, B: -1}
			}
		}
		holdAnswer(t, "told again", n, prepare(node, 7, 0, 4), api.MYes)
		holdAnswer(t, "told again", n, prepare(node, 8, 0, 3), api.MYes)
		holdRing(t, "told again", n, 7, asks(node, 7))
		n.Crash(0, 0)
		if twin.Down() {
			t.Error("the other one is down")
		}
		holdAnswer(t, "the other one", twin, prepare(node, 7, 0, 9), api.MYes)
		n.Start()
		holdBook(t, "told again", n, row{10}, row{10}, row{3})
		holdBook(t, "the other one", twin, row{10}, row{10}, row{1})
	}
}
