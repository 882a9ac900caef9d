package keeper_test

import (
	"fmt"
	"slices"
	"testing"

	"wharfinger/api"
	"wharfinger/keeper"
)

// holdWaits holds that the bell of an order of inStates rings just if it waits.
func holdWaits(t *testing.T, what any, n *keeper.Node, node, id int) {
	t.Helper()
	var want []api.Msg
	if stated[id] == api.VPrepared {
		want = asks(node, id)
	}
	holdRing(t, what, n, id, want)
}

// holdNoForce holds that an order is not forced, either way: as force says, or,
// if it waits, by that error.
func holdNoForce(t *testing.T, what any, n *keeper.Node, id int, waits api.Errno) {
	t.Helper()
	want := api.ErrState
	switch {
	case id < 1 || id > api.MaxId:
		want = api.ErrArg
	case n.State(id) == api.VPrepared:
		want = waits
	}
	holdForce(t, what, n, id, true, want)
	holdForce(t, what, n, id, false, want)
}

// P20.3: the bell of one that waits asks the chief and the other keeper, each
// time it is rung; that of others, in each state, asks nobody. Nothing changes,
// and no line is written.
func TestRing(t *testing.T) {
	for _, node := range keepers {
		n := inStates(t, node, 2)
		for range 5 {
			for id := range stated {
				holdWaits(t, "rings", n, node, id)
			}
			for _, id := range append([]int{6, 500, 999}, noIds...) {
				holdRing(t, "rings", n, id, nil)
			}
			holdStates(t, "rings", n)
		}
		again(n)
		holdStates(t, "rung", n)
		holdRing(t, "behind a crash", n, 1, asks(node, 1))
		holdRoom(t, "rung", n, node, 900, 2)
	}
}

// P20.3: to whom a bell's messages go, written out.
func TestRingToWhom(t *testing.T) {
	for _, id := range []int{1, 7, 998, 999} {
		goods, money := keeper.New(api.Stock, []int{5}, 50), keeper.New(api.Purse, []int{5}, 50)
		holdAnswer(t, id, goods, prepare(api.Stock, id, 0, 5), api.MYes)
		holdAnswer(t, id, money, prepare(api.Purse, id, 0, 5), api.MYes)
		holdRing(t, "Stock", goods, id, []api.Msg{{Kind: 12, From: 1, To: 0, Id: id}, {Kind: 12, From: 1, To: 2, Id: id}})
		holdRing(t, "Purse", money, id, []api.Msg{{Kind: 12, From: 2, To: 0, Id: id}, {Kind: 12, From: 2, To: 1, Id: id}})
	}
}

// P20.3: a bell asks till it is decided, and no more, however it was.
func TestRingTillDecided(t *testing.T) {
	for _, node := range keepers {
		for way := range 6 {
			n := keeper.New(node, []int{5}, 50)
			holdRing(t, "ahead of all", n, 7, nil)
			holdAnswer(t, way, n, prepare(node, 7, 0, 5), api.MYes)
			holdAnswer(t, way, n, prepare(node, 8, 0, 1), api.MNo)
			holdRing(t, way, n, 7, asks(node, 7))
			holdRing(t, way, n, 8, nil)
			switch way {
			case 4, 5:
				holdForce(t, way, n, 7, way == 4, api.OK)
			default:
				holdAnswer(t, way, n, msg(node, []int{api.MCommit, api.MCommits, api.MAbort, api.MAborts}[way], 7), api.MAck)
			}
			holdRing(t, way, n, 7, nil)
			again(n)
			holdRing(t, way, n, 7, nil)
		}
	}
}

// P20.3: one that waits is forced, either way: the book is as if it had been
// decided so, and each message is answered as of one that was forced.
func TestForce(t *testing.T) {
	for _, node := range keepers {
		for _, yes := range []bool{true, false} {
			what := fmt.Sprintf("node %d, %t", node, yes)
			n := keeper.New(node, []int{0, 10}, 3)
			holdAnswer(t, what, n, prepare(node, 5, 1, 4), api.MYes)
			holdAnswer(t, what, n, prepare(node, 6, 1, 1), api.MYes)
			holdForce(t, what, n, 5, yes, api.OK)
			state, wantThere, wantFree := api.VForcedNo, row{0, 10}, row{0, 9}
			if yes {
				state, wantThere, wantFree = api.VForcedYes, row{0, 6}, row{0, 5}
			}
			for range 3 {
				holdState(t, what, n, 5, state)
				holdState(t, what, n, 6, api.VPrepared)
				holdIds(t, what, n, 5, 6)
				holdBook(t, what, n, row{0, 10}, wantThere, wantFree)
				holdForce(t, what, n, 5, yes, api.ErrState)
				holdForce(t, what, n, 5, !yes, api.ErrState)
				holdForce(t, what, n, 6, yes, api.ErrFull)
				for _, kind := range known {
					for _, sender := range []int{api.Chief, other(node)} {
						holdAnswer(t, what, n, from(sender, msg(node, kind, 5)), ways[kind][state].kind)
					}
				}
				again(n)
			}
		}
	}
}

// P20.3: what was kept for one that is forced against it can be had by another
// one; what was kept for one that is forced for it can't, nor is it paid twice.
func TestForceBook(t *testing.T) {
	for _, node := range keepers {
		for _, yes := range []bool{true, false} {
			n := keeper.New(node, []int{4}, 50)
			holdAnswer(t, yes, n, prepare(node, 5, 0, 4), api.MYes)
			holdForce(t, yes, n, 5, yes, api.OK)
			for _, kind := range []int{api.MCommit, api.MCommits, api.MAbort, api.MAborts, api.MCommit} {
				n.Handle(msg(node, kind, 5))
			}
			want, wantThere, wantFree := api.MYes, row{4}, row{}
			if yes {
				want, wantThere, wantFree = api.MNo, row{}, row{}
			}
			holdAnswer(t, yes, n, prepare(node, 6, 0, 4), want)
			again(n)
			holdBook(t, yes, n, row{4}, wantThere, wantFree)
			paid, ok := n.Money().Paid(5)
			if n.Money() != nil && (ok != yes || yes && paid != 4) {
				t.Errorf("forced %t: it has paid %d, %t", yes, paid, ok)
			}
		}
	}
}

// P20.3: one in each other state, and what is no id, is not forced; nothing
// changes, and no line is written.
func TestForceOthers(t *testing.T) {
	for _, node := range keepers {
		n := inStates(t, node, 2)
		for range 3 {
			for id := range stated {
				if id != 1 {
					holdNoForce(t, "others", n, id, api.OK)
				}
			}
			for _, id := range append([]int{6, 500, 998, 999}, noIds...) {
				holdNoForce(t, "others", n, id, api.OK)
			}
			holdStates(t, "others", n)
			again(n)
		}
		holdRoom(t, "others", n, node, 900, 2)
	}
}

// P20.3: errors are told in the order of the call's sentence: down, no id, not
// one that waits, no room.
func TestForceErrors(t *testing.T) {
	for _, node := range keepers {
		n := inStates(t, node, 0)
		for _, yes := range []bool{true, false} {
			holdForce(t, "full", n, 0, yes, api.ErrArg)
			holdForce(t, "full", n, 1000, yes, api.ErrArg)
			holdForce(t, "full", n, 2, yes, api.ErrState)
			holdForce(t, "full", n, 9, yes, api.ErrState)
			holdForce(t, "full", n, 1, yes, api.ErrFull)
		}
		n.Crash(0, 0)
		for _, yes := range []bool{true, false} {
			for _, id := range append([]int{1, 2, 3, 4, 5, 6, 7, 8, 9, 999}, noIds...) {
				holdForce(t, "down", n, id, yes, api.ErrDown)
			}
		}
		n.Start()
		holdStates(t, "behind all", n)
	}
}

// some is a node with orders that it came to know of in this order, in all the
// states there are.
func some(node int, ids ...int) *keeper.Node {
	n := keeper.New(node, []int{most}, plenty)
	for i, id := range ids {
		n.Handle(prepare(node, id, 0, 1+i%2*most))
		switch i % 5 {
		case 2:
			n.Handle(msg(node, api.MCommit, id))
		case 4:
			n.Force(id, i%4 == 0)
		}
	}
	return n
}

// P20.1: Ids are rising, in whatever order they came, and whatever became of
// them; what is VNone is not among them.
func TestIds(t *testing.T) {
	for _, node := range keepers {
		for _, ids := range [][]int{nil, {1}, {999}, {1, 999}, {999, 1}, {5, 4, 3, 2, 1}, {500, 7, 999, 1, 3, 998, 2}} {
			n := some(node, ids...)
			holdAnswer(t, "of VNone", n, msg(node, api.MCommit, 800), 0)
			holdAnswer(t, "of VNone", n, msg(node, api.MCommits, 801), 0)
			holdForce(t, "of VNone", n, 802, true, api.ErrState)
			holdRing(t, "of VNone", n, 803, nil)
			want := slices.Sorted(slices.Values(ids))
			holdIds(t, ids, n, want...)
			n.Crash(0, 0)
			holdIds(t, "down", n)
			n.Start()
			holdIds(t, ids, n, want...)
		}
	}
}

// P20.1: Ids ends when the loop does, at each of its places, and may be gone
// over again.
func TestIdsEnd(t *testing.T) {
	want := []int{1, 3, 7, 500, 999}
	for _, node := range keepers {
		n := some(node, 500, 7, 999, 1, 3)
		seq := n.Ids()
		for last := range want {
			var got []int
			seq(func(id int) bool {
				got = append(got, id)
				return id != want[last]
			})
			if !slices.Equal(got, want[:last+1]) {
				t.Errorf("ended at %d: %v", want[last], got)
			}
			got = nil
			for id := range seq {
				got = append(got, id)
				if id == want[last] {
					break
				}
			}
			if !slices.Equal(got, want[:last+1]) {
				t.Errorf("left at %d: %v", want[last], got)
			}
		}
		holdIds(t, "behind loops that ended", n, want...)
	}
}

// P20.1: loops inside one another do not disturb each other.
func TestIdsNested(t *testing.T) {
	n := some(api.Stock, 7, 1, 999)
	seq := n.Ids()
	var got []int
	for id := range seq {
		if inner := slices.Collect(seq); !slices.Equal(inner, []int{1, 7, 999}) {
			t.Errorf("inside, at %d: %v", id, inner)
		}
		got = append(got, id)
	}
	if !slices.Equal(got, []int{1, 7, 999}) {
		t.Errorf("around: %v", got)
	}
}

// R2: a loop goes over those that were known when Ids was called; in it, and
// ahead of it, others may come, and the node may crash.
func TestIdsWhileChanged(t *testing.T) {
	for _, node := range keepers {
		n := some(node, 7, 1, 999)
		ahead := n.Ids()
		var got []int
		for id := range n.Ids() {
			got = append(got, id)
			switch id {
			case 1:
				holdAnswer(t, id, n, msg(node, api.MAsk, 2), api.MAborts)
				holdAnswer(t, id, n, msg(node, api.MAbort, 998), api.MAck)
			case 7:
				n.Crash(0, 0)
			case 999:
				n.Start()
			}
		}
		if !slices.Equal(got, []int{1, 7, 999}) {
			t.Errorf("changed in the loop: %v", got)
		}
		holdIds(t, "behind the loop", n, 1, 2, 7, 998, 999)
		if got := slices.Collect(ahead); !slices.Equal(got, []int{1, 7, 999}) {
			t.Errorf("changed behind the call: %v", got)
		}
	}
}

// R3: nothing panics where no loop is there.
func TestIdsWithoutLoop(t *testing.T) {
	some(api.Purse, 1, 5).Ids()(nil)
	keeper.New(api.Stock, nil, 5).Ids()(nil)
	var no *keeper.Node
	no.Ids()(nil)
}

// P20.1: what Goods and Money told is the node's own book, whatever comes
// behind it.
func TestOwnBook(t *testing.T) {
	goods, money := keeper.New(api.Stock, []int{9}, 50), keeper.New(api.Purse, []int{9}, 50)
	g, m := goods.Goods(), money.Money()
	for i, s := range []struct {
		do                        func(n *keeper.Node, node int)
		onHand, free, qty, allows int
	}{
		{func(n *keeper.Node, node int) { n.Handle(prepare(node, 7, 0, 4)) }, 9, 5, 4, 4},
		{func(n *keeper.Node, node int) { n.Handle(prepare(node, 8, 0, 3)) }, 9, 2, 4, 7},
		{func(n *keeper.Node, node int) { n.Handle(msg(node, api.MCommit, 8)) }, 6, 2, 4, 4},
		{func(n *keeper.Node, node int) { n.Crash(0, 0) }, 9, 9, 0, 0},
		{func(n *keeper.Node, node int) { n.Start() }, 6, 2, 4, 4},
		{func(n *keeper.Node, node int) { n.Force(7, false) }, 6, 6, 0, 0},
	} {
		s.do(goods, api.Stock)
		s.do(money, api.Purse)
		_, qty, ok := g.Has(7)
		if g.OnHand(0) != s.onHand || g.Free(0) != s.free || qty != s.qty || ok != (qty > 0) || goods.Goods().Free(0) != s.free {
			t.Errorf("%d: on hand %d, free %d, %d of order 7", i, g.OnHand(0), g.Free(0), qty)
		}
		if m.Money(0) != s.onHand || m.Allowed(0) != s.allows || m.Till() != 9-s.onHand || money.Money().Allowed(0) != s.allows {
			t.Errorf("%d: %d, allowed %d, till %d", i, m.Money(0), m.Allowed(0), m.Till())
		}
	}
}
