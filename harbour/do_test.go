package harbour_test

import (
	"fmt"
	"math"
	"slices"
	"testing"

	"wharfinger/api"
	"wharfinger/harbour"
)

// busy is a harbour where much is under way: 1 is shipped, 2 is aborted, 3 is
// damaged, 4 is committed, 5 is undoing, 6 is preparing (Stock waits), 7 goes
// forward, 8 is rejected; on their way is what the last ones need.
func busy(t *testing.T) *harbour.Harbour {
	t.Helper()
	h := made(t, setup())
	acts(t, h, submit(1, 1))
	deliverAll(t, h)
	acts(t, h, submit(2, 1), cancel(2))
	deliverAll(t, h)
	acts(t, h, submit(3, 0), deliver(0), deliver(0), force(api.Stock, 3, false))
	deliverAll(t, h)
	acts(t, h, submit(4, 0), deliver(0), deliver(0), deliver(0), deliver(0))
	acts(t, h, submit(5, 2), cancel(5))
	acts(t, h, submit(6, 0))
	acts(t, h, deliver(h.Post().Len()-2))
	acts(t, h, submit(7, 2))
	if e := h.Do(submit(8, 4)); e != api.ErrArg {
		t.Fatalf("an order of four steps: %d", e)
	}
	return h
}

// busyIds are what is looked at in a busy harbour.
var busyIds = []int{1, 2, 3, 4, 5, 6, 7, 8, 9}

// P25.2: a busy harbour is as it is said to be.
func TestBusy(t *testing.T) {
	h := busy(t)
	holdWay(t, "busy", h, "commit chief>stock 4, commit chief>purse 4, ship chief>shipper 4 (1 2), do chief>credit 5 (3 0), abort chief>stock 5, abort chief>purse 5, undo chief>coupon 5.1, prepare chief>purse 6 (0 30), yes stock>chief 6, do chief>credit 7 (3 0)")
	for i, want := range []string{
		"shipped; yes, yes; - did - 2x1; done0 commits shipped", "aborted; no, no; - undid -; aborts done0 undone0", "damaged stock; forced no, yes; - - - 2x1; commits shipped; forced",
		"committed; ready, ready; - - -; commits", "undoing 0/2; none, none; - - -; aborts", "preparing; ready, none; - - -; ", "forward 0/2; none, none; - - -; ",
		"rejected; none, none; - - -; ", "; none, none; - - -; ",
	} {
		holdOrder(t, "busy", h, busyIds[i], want)
	}
}

// P25.2: a kind of command that there is not is refused.
func TestNoKind(t *testing.T) {
	h := busy(t)
	for _, kind := range []int{0, -1, -10, 11, 12, 100, 1<<32 + 1, 1 - 1<<32, 1<<8 + 5, math.MinInt, math.MaxInt} {
		holdRefused(t, kind, h, api.Cmd{Kind: kind, Node: api.Stock, Id: 6, Order: sized(9, 0)}, api.ErrArg, busyIds...)
	}
}

// P25.2: CSubmit tells what the desk tells; who is refused is rejected, and
// nothing comes on its way.
func TestSubmit(t *testing.T) {
	h := busy(t)
	was := msgsText(way(h))
	for id := 1; id <= 7; id++ {
		holdRefused(t, id, h, submit(id, 0), api.ErrTwice, busyIds...)
		holdRefused(t, id, h, submit(id, 3), api.ErrTwice, busyIds...)
	}
	for _, id := range noIds {
		holdRefused(t, id, h, submit(id, 0), api.ErrArg, busyIds...)
	}
	wrong := sized(9, 1)
	wrong.Qty = 0
	if e := h.Do(api.Cmd{Kind: api.CSubmit, Order: wrong}); e != api.ErrArg || h.Desk().Status(9) != api.SRejected {
		t.Errorf("an order of nothing: %d, %q", e, h.Desk().Tell(9))
	}
	acts(t, h, submit(9, 0))
	holdWay(t, "9", h, was+", prepare chief>stock 9 (1 2), prepare chief>purse 9 (0 30)")
	acts(t, h, submit(8, 1))
	holdWay(t, "8", h, was+", prepare chief>stock 9 (1 2), prepare chief>purse 9 (0 30), do chief>credit 8 (3 0)")
	if h.Desk().Tell(8) != "8: forward 0/1" || h.Desk().Tell(9) != "9: preparing" {
		t.Errorf("%q, %q", h.Desk().Tell(8), h.Desk().Tell(9))
	}
	acts(t, h, crash(api.Chief, 0, 0))
	holdRefused(t, "down", h, submit(10, 0), api.ErrDown, 10)
	holdRefused(t, "down", h, submit(0, 0), api.ErrDown, 10)
	if h.Desk().Status(10) != api.SNone {
		t.Error("who comes while the chief is down is rejected")
	}
}

// P25.2: CSubmit of one more than Orders is refused, till one is over.
func TestSubmitFull(t *testing.T) {
	s := setup()
	s.Orders = 2
	h := made(t, s)
	acts(t, h, submit(1, 0), submit(2, 3))
	holdRefused(t, "two", h, submit(4, 3), api.ErrFull, 1, 2)
	if h.Desk().Tell(4) != "4: rejected" {
		t.Errorf("of 4 %q is told", h.Desk().Tell(4))
	}
	acts(t, h, cancel(2))
	holdRefused(t, "one is undone", h, submit(4, 3), api.ErrFull, 1, 2, 4)
	deliverAll(t, h)
	acts(t, h, submit(4, 0), submit(5, 0))
	holdRefused(t, "two again", h, submit(6, 0), api.ErrFull, 1, 2, 4, 5)
}

// P25.2, R2: an order that the caller changes behind CSubmit, and its steps, are
// not seen, not even behind a crash; the command is not changed.
func TestOrderChanged(t *testing.T) {
	h, c := made(t, setup()), submit(7, 3)
	was := fmt.Sprint(c)
	acts(t, h, c)
	if fmt.Sprint(c) != was {
		t.Errorf("the command is %+v; it was %s", c, was)
	}
	c.Order.Qty = 77
	for i := range c.Order.Steps {
		c.Order.Steps[i] = api.Step{Service: api.Fraud, N: 99}
	}
	acts(t, h, deliver(0), deliver(0), deliver(0), crash(api.Chief, 9, 0), start(api.Chief), ring(api.Chief, 7), drop(0))
	deliverAll(t, h)
	holdOrder(t, "changed", h, 7, "shipped; yes, yes; did did did 2x1; done0 done1 done2 commits shipped")
	holdBooks(t, "changed", h, "9 18; 9 18; 470 70; ; 30; 6 9 9; 0 2; ")
}

// P25.2: CCancel and CAccept tell what the chief tells, of each order.
func TestCancelAndAccept(t *testing.T) {
	h := busy(t)
	for _, id := range []int{8, 9} {
		holdRefused(t, id, h, cancel(id), api.ErrNone, busyIds...)
		holdRefused(t, id, h, accept(id), api.ErrNone, busyIds...)
	}
	for _, id := range noIds {
		holdRefused(t, id, h, cancel(id), api.ErrNone, busyIds...)
		holdRefused(t, id, h, accept(id), api.ErrNone, busyIds...)
	}
	for id := 1; id <= 5; id++ {
		holdRefused(t, id, h, cancel(id), api.ErrState, busyIds...)
	}
	for _, id := range []int{1, 2, 4, 5, 6, 7} {
		holdRefused(t, id, h, accept(id), api.ErrState, busyIds...)
	}
	was := msgsText(way(h))
	acts(t, h, accept(3))
	holdWay(t, "accepted", h, was)
	holdOrder(t, "accepted", h, 3, "shipped; forced no, yes; - - - 2x1; commits shipped; forced")
	holdRefused(t, "accepted", h, accept(3), api.ErrState, busyIds...)
	acts(t, h, cancel(7))
	holdWay(t, "7", h, was+", abort chief>stock 7, abort chief>purse 7, undo chief>coupon 7.1")
	acts(t, h, cancel(6))
	holdWay(t, "6", h, was+", abort chief>stock 7, abort chief>purse 7, undo chief>coupon 7.1, abort chief>stock 6, abort chief>purse 6")
	holdOrder(t, "6", h, 6, "undoing 0/0; ready, none; - - -; aborts")
	acts(t, h, crash(api.Chief, 9, 0))
	for id := range 10 {
		holdRefused(t, "down", h, cancel(id), api.ErrDown, busyIds...)
		holdRefused(t, "down", h, accept(id), api.ErrDown, busyIds...)
	}
}

// P25.2, P25.3: where the chief's journal is full CCancel, CAccept and its bells
// do nothing, and nothing happened.
func TestChiefFull(t *testing.T) {
	s := setup()
	s.Room = 2
	h := made(t, s)
	acts(t, h, submit(7, 0), deliver(0))
	holdRefused(t, "full", h, cancel(7), api.ErrFull, 7)
	for range 9 {
		acts(t, h, ring(api.Chief, 7))
	}
	deliverAll(t, h)
	holdOrder(t, "full", h, 7, "preparing; ready, ready; - - -; ")
	s.Room = 6 // begin, asked, yes, ack, damage, shipped
	h = made(t, s)
	acts(t, h, submit(7, 0), deliver(0), deliver(0), force(api.Purse, 7, false))
	deliverAll(t, h)
	holdOrder(t, "full", h, 7, "damaged purse; yes, forced no; - - - 2x1; commits shipped; forced")
	holdRefused(t, "full", h, accept(7), api.ErrFull, 7)
}

// P25.2: CDeliver, CDrop and CDouble of the first and the last message on its
// way, of one below nought and of one too many.
func TestMessages(t *testing.T) {
	h := busy(t)
	n := h.Post().Len()
	places := []int{-1, n, n + 1, -n, 255, 256, 1 << 32, 1<<32 + 1, -1 << 32, math.MinInt, math.MinInt + 1, math.MaxInt}
	for _, i := range places {
		for _, c := range []api.Cmd{deliver(i), drop(i), double(i)} {
			holdRefused(t, i, h, c, api.ErrNone, busyIds...)
		}
	}
	none := made(t, setup())
	for _, i := range append(places, 0, 1) {
		for _, c := range []api.Cmd{deliver(i), drop(i), double(i)} {
			holdRefused(t, i, none, c, api.ErrNone, 7)
		}
	}
	for _, i := range []int{0, 1, n - 2, n - 1} {
		h := busy(t)
		was := way(h)
		acts(t, h, double(i))
		holdWay(t, i, h, msgsText(append(slices.Clone(was), was[i])))
		holdSame(t, i, h, busy(t))
		acts(t, h, drop(i))
		holdWay(t, i, h, msgsText(append(slices.Delete(slices.Clone(was), i, i+1), was[i])))
		holdSame(t, i, h, busy(t))
	}
}

// holdSame holds that there is seen the same in two harbours, but for what is on
// its way.
func holdSame(t *testing.T, what any, a, b *harbour.Harbour) {
	t.Helper()
	one, other := viewOf(a), viewOf(b)
	one.way, other.way = nil, nil
	if one.text(busyIds) != other.text(busyIds) {
		t.Errorf("%v: there is seen\n%s; want\n%s", what, one.text(busyIds), other.text(busyIds))
	}
}

// P25.2: each message goes to its own node alone, and what that tells comes
// last on its way.
func TestDeliverEach(t *testing.T) {
	for i, want := range []struct {
		told, order string
		id          int
	}{
		{", ack stock>chief 4", "committed; yes, ready; - - -; commits", 4},
		{", ack purse>chief 4", "committed; ready, yes; - - -; commits", 4},
		{", shipped shipper>chief 4", "committed; ready, ready; - - - 2x1; commits shipped", 4},
		{", done credit>chief 5", "undoing 0/2; none, none; - did -; aborts done0", 5},
		{", ack stock>chief 5", "undoing 0/2; no, none; - - -; aborts", 5},
		{", ack purse>chief 5", "undoing 0/2; none, no; - - -; aborts", 5},
		{", undone coupon>chief 5.1", "undoing 0/2; none, none; undid - -; aborts", 5},
		{", yes purse>chief 6", "preparing; ready, ready; - - -; ", 6},
		{"", "preparing; ready, none; - - -; ", 6},
		{", done credit>chief 7", "forward 0/2; none, none; - did -; done0", 7},
	} {
		h := busy(t)
		was := way(h)
		acts(t, h, deliver(i))
		holdWay(t, i, h, msgsText(slices.Delete(was, i, i+1))+want.told)
		holdOrder(t, i, h, want.id, want.order)
		fresh := viewOf(busy(t))
		for _, id := range busyIds {
			if id != want.id && viewOf(h).ofOrder(id) != fresh.ofOrder(id) {
				t.Errorf("%d: of %d there is seen %q", i, id, viewOf(h).ofOrder(id))
			}
		}
	}
}

// P25.2: what comes to a node that is down is lost: nothing comes of it, then or
// when that is up again.
func TestDeliverToDown(t *testing.T) {
	for i, m := range way(busy(t)) {
		h := busy(t)
		acts(t, h, crash(m.To, 9, 0))
		was := viewOf(h)
		acts(t, h, deliver(i))
		was.way = slices.Delete(was.way, i, i+1)
		if got, want := viewOf(h).text(busyIds), was.text(busyIds); got != want {
			t.Errorf("%s: there is seen\n%s; want\n%s", msgText(m), got, want)
		}
		acts(t, h, start(m.To))
		holdWay(t, msgText(m), h, msgsText(was.way))
	}
}

// R3: a message to nobody, which no node sends, is lost.
func TestDeliverToNobody(t *testing.T) {
	for _, node := range noNodes {
		h := busy(t)
		was := viewOf(h).text(busyIds)
		h.Post().Put(api.Msg{Kind: api.MDo, From: api.Chief, To: node, Id: 7, A: 1})
		acts(t, h, deliver(h.Post().Len()-1))
		if now := viewOf(h).text(busyIds); now != was {
			t.Errorf("to %d: there is seen\n%s; it was\n%s", node, now, was)
		}
	}
}

// P25.2: CForce tells what the keeper tells; an order is Forced if it was OK.
func TestForce(t *testing.T) {
	h := busy(t)
	for _, yes := range []bool{true, false} {
		for _, node := range append([]int{api.Chief, api.Shipper, api.Coupon, api.Credit, api.Fraud}, noNodes...) {
			for _, id := range []int{0, 4, 6, 7, 1000} {
				holdRefused(t, "no keeper", h, force(node, id, yes), api.ErrArg, busyIds...)
			}
		}
		for _, node := range []int{api.Stock, api.Purse} {
			for _, id := range noIds {
				holdRefused(t, "no id", h, force(node, id, yes), api.ErrArg, busyIds...)
				if h.Forced(id) {
					t.Errorf("%d is forced", id)
				}
			}
			for _, id := range []int{1, 2, 3, 5, 7, 8, 9, 999} {
				holdRefused(t, "it waits not", h, force(node, id, yes), api.ErrState, append(busyIds, 999)...)
			}
		}
		holdRefused(t, "it waits not", h, force(api.Purse, 6, yes), api.ErrState, busyIds...)
	}
	states := map[bool]string{true: "forced yes", false: "forced no"}
	for _, yes := range []bool{true, false} {
		h := busy(t)
		was := msgsText(way(h))
		acts(t, h, force(api.Stock, 6, yes), force(api.Purse, 4, yes))
		holdWay(t, yes, h, was)
		holdOrder(t, yes, h, 6, "preparing; "+states[yes]+", none; - - -; ; forced")
		holdOrder(t, yes, h, 4, "committed; ready, "+states[yes]+"; - - -; commits; forced")
		holdRefused(t, "forced", h, force(api.Stock, 6, yes), api.ErrState, busyIds...)
		holdRefused(t, "forced", h, force(api.Stock, 6, !yes), api.ErrState, busyIds...)
		acts(t, h, force(api.Stock, 4, !yes))
		holdOrder(t, yes, h, 4, "committed; "+states[!yes]+", "+states[yes]+"; - - -; commits; forced")
		for id := -1; id < 10; id++ {
			if h.Forced(id) != slices.Contains([]int{3, 4, 6}, id) {
				t.Errorf("Forced(%d) is %t", id, h.Forced(id))
			}
		}
		acts(t, h, crash(api.Stock, 0, 0), crash(api.Purse, 0, 0), crash(api.Chief, 0, 0))
		if !h.Forced(4) || !h.Forced(6) || h.Forced(5) {
			t.Error("what was forced is not so behind a crash")
		}
		for _, id := range []int{0, 4, 6, 7} {
			holdRefused(t, "down", h, force(api.Stock, id, yes), api.ErrDown, busyIds...)
			holdRefused(t, "down", h, force(api.Purse, id, yes), api.ErrDown, busyIds...)
		}
	}
}

// P25.2: CForce where the keeper's journal is full is refused, and the order is
// not Forced. (A crash of the chief loses lines there, so that the keeper has
// more of them.)
func TestForceFull(t *testing.T) {
	for _, node := range []int{api.Stock, api.Purse} {
		s := setup()
		s.Room = 3
		h := made(t, s)
		acts(t, h, submit(7, 0), deliver(node-api.Stock), force(node, 7, true), crash(api.Chief, 0, 0), start(api.Chief))
		acts(t, h, submit(8, 0), deliver(node+1))
		if state := h.Keeper(node).State(8); state != api.VPrepared {
			t.Fatalf("%s: %d", names[node], state)
		}
		holdRefused(t, names[node], h, force(node, 8, true), api.ErrFull, 7, 8)
		holdRefused(t, names[node], h, force(node, 8, false), api.ErrFull, 7, 8)
		if h.Forced(8) || !h.Forced(7) {
			t.Errorf("%s: Forced is %t, %t", names[node], h.Forced(7), h.Forced(8))
		}
	}
}

// P25.2: CRing at the chief and at keepers, at others, and at no node.
func TestRing(t *testing.T) {
	h := busy(t)
	for _, node := range append([]int{api.Shipper, api.Coupon, api.Credit, api.Fraud}, noNodes...) {
		for _, id := range []int{0, 4, 6, 7} {
			holdRefused(t, node, h, ring(node, id), api.ErrArg, busyIds...)
		}
	}
	was := way(h)
	for _, id := range append([]int{1, 2, 3, 8, 9, 999}, noIds...) { // over, or none
		acts(t, h, ring(api.Chief, id))
	}
	for _, id := range append([]int{1, 2, 3, 5, 7, 8, 9}, noIds...) { // they wait not
		acts(t, h, ring(api.Stock, id), ring(api.Purse, id))
	}
	acts(t, h, ring(api.Purse, 6))
	holdWay(t, "none rings", h, msgsText(was))
	for _, x := range []struct {
		c    api.Cmd
		more string
	}{
		{ring(api.Chief, 4), "commit chief>stock 4, commit chief>purse 4, ship chief>shipper 4 (1 2)"},
		{ring(api.Chief, 5), "abort chief>stock 5, abort chief>purse 5, undo chief>coupon 5.1"},
		{ring(api.Chief, 6), "prepare chief>stock 6 (1 2), prepare chief>purse 6 (0 30)"},
		{ring(api.Chief, 7), "do chief>credit 7 (3 0)"},
		{ring(api.Stock, 4), "ask stock>chief 4, ask stock>purse 4"},
		{ring(api.Purse, 4), "ask purse>chief 4, ask purse>stock 4"},
		{ring(api.Stock, 6), "ask stock>chief 6, ask stock>purse 6"},
	} {
		h := busy(t)
		acts(t, h, x.c)
		holdWay(t, x.c, h, msgsText(was)+", "+x.more)
		holdSame(t, x.c, h, busy(t))
	}
	for node := api.Chief; node <= api.Purse; node++ {
		h := busy(t)
		acts(t, h, crash(node, 0, 0))
		for _, id := range []int{0, 4, 6, 7} {
			holdRefused(t, node, h, ring(node, id), api.ErrDown, busyIds...)
		}
		acts(t, h, ring((node+1)%3, 4))
	}
}

// P25.2, P25.3: the chief's bell rings too often for an order that is not
// decided: it turns, and that is what happened; for one that is decided it goes
// on ringing.
func TestRingTooOften(t *testing.T) {
	h := busy(t)
	for _, id := range []int{6, 7} {
		for range 3 {
			acts(t, h, ring(api.Chief, id))
			if len(h.Trace(id)) != 0 {
				t.Errorf("%d: it turned ahead of time", id)
			}
		}
		was := msgsText(way(h))
		acts(t, h, ring(api.Chief, id))
		more, order := ", abort chief>stock 6, abort chief>purse 6", "undoing 0/0; ready, none; - - -; aborts"
		if id == 7 {
			more, order = ", abort chief>stock 7, abort chief>purse 7, undo chief>coupon 7.1", "undoing 0/2; none, none; - - -; aborts"
		}
		holdWay(t, id, h, was+more)
		holdOrder(t, id, h, id, order)
	}
	for _, id := range []int{4, 5} {
		trace := traceText(h.Trace(id))
		for i := range 20 {
			for h.Post().Len() > 0 {
				acts(t, h, drop(0))
			}
			acts(t, h, ring(api.Chief, id))
			if h.Post().Len() != 3 || traceText(h.Trace(id)) != trace {
				t.Errorf("%d, %d: %s; the trace is %q", id, i, msgsText(way(h)), traceText(h.Trace(id)))
			}
		}
	}
}

// P25.2: keepers that wait ask, and hear what the chief decided, or what the
// other one knows.
func TestAsk(t *testing.T) {
	h := upTo(t, 0, 4) // committed, and both wait
	acts(t, h, drop(0), drop(0), drop(0), ring(api.Stock, 7))
	holdTold(t, "of the chief", h, 7, []told{
		{deliver(1), "ask stock>chief 7", "committed; ready, ready; - - -; commits"},
		{deliver(0), "commits chief>stock 7", "committed; ready, ready; - - -; commits"},
		{deliver(0), "ack stock>chief 7", "committed; yes, ready; - - -; commits"},
		{drop(0), "", "committed; yes, ready; - - -; commits"},
		{ring(api.Purse, 7), "ask purse>chief 7, ask purse>stock 7", "committed; yes, ready; - - -; commits"},
		{deliver(1), "ask purse>chief 7, commits stock>purse 7", "committed; yes, ready; - - -; commits"},
		{deliver(1), "ask purse>chief 7, ack purse>chief 7", "committed; yes, yes; - - -; commits"},
	})
	h = upTo(t, 0, 1) // Purse was not asked yet
	acts(t, h, drop(1), ring(api.Stock, 7))
	holdTold(t, "of the other one", h, 7, []told{
		{deliver(1), "prepare chief>purse 7 (0 30), ask stock>purse 7", "preparing; ready, none; - - -; "},
		{deliver(1), "prepare chief>purse 7 (0 30), aborts purse>stock 7", "preparing; ready, no; - - -; "},
		{deliver(1), "prepare chief>purse 7 (0 30), ack stock>chief 7", "preparing; no, no; - - -; "},
		{deliver(1), "prepare chief>purse 7 (0 30)", "preparing; no, no; - - -; "},
		{deliver(0), "no purse>chief 7", "preparing; no, no; - - -; "},
		{deliver(0), "abort chief>stock 7, abort chief>purse 7", "undoing 0/0; no, no; - - -; aborts"},
	})
}

// P25.2: CCrash and CStart of each node that is up, of each that is down, and of
// no node.
func TestCrashAndStart(t *testing.T) {
	for node := range api.Nodes {
		h := busy(t)
		for range 2 {
			holdRefused(t, node, h, start(node), api.ErrState, busyIds...)
			acts(t, h, crash(node, 100, 0))
			if down := viewOf(h).down(); !slices.Equal(down, []string{names[node]}) {
				t.Errorf("%s was taken down, and down are %v", names[node], down)
			}
			holdWay(t, node, h, msgsText(way(busy(t))))
			holdRefused(t, node, h, crash(node, 100, 0), api.ErrState, busyIds...)
			acts(t, h, start(node))
			if down := viewOf(h).down(); len(down) != 0 {
				t.Errorf("%s was started, and down are %v", names[node], down)
			}
			holdWay(t, node, h, msgsText(way(busy(t))))
		}
	}
	h := busy(t)
	for _, node := range noNodes {
		holdRefused(t, node, h, crash(node, 0, 0), api.ErrArg, busyIds...)
		holdRefused(t, node, h, start(node), api.ErrArg, busyIds...)
	}
}

// P25.2: of what was not made sure I lines stay; what is torn off the next one,
// Id, makes no difference to that.
func TestLinesStay(t *testing.T) {
	for stay := -1; stay < 5; stay++ {
		for _, torn := range []int{math.MinInt, -1, 0, 1, 5, 100, math.MaxInt} {
			h := upTo(t, 3, 4) // begun, and made sure; the first step, the second one
			acts(t, h, crash(api.Chief, stay, torn))
			holdOrder(t, "down", h, 7, "; none, none; did did -; done0 done1")
			acts(t, h, start(api.Chief))
			want := fmt.Sprintf("forward %d/3; none, none; did did -; done0 done1", min(max(stay, 0), 2))
			holdOrder(t, fmt.Sprint(stay, " stay, ", torn), h, 7, want)
		}
	}
	h := upTo(t, 3, 4)
	acts(t, h, crash(api.Chief, math.MaxInt, 0), start(api.Chief))
	holdOrder(t, "all stay", h, 7, "forward 2/3; none, none; did did -; done0 done1")
}

// P25.2, R6: of a command that alone counts which its kind has a use for.
func TestFieldsOfNoUse(t *testing.T) {
	for _, x := range []struct{ plain, more api.Cmd }{
		{submit(9, 2), api.Cmd{Kind: api.CSubmit, Node: 99, Id: 6, I: -1, Yes: true, Order: sized(9, 2)}},
		{cancel(7), api.Cmd{Kind: api.CCancel, Node: 99, Id: 7, I: -1, Yes: true, Order: sized(9, 2)}},
		{accept(3), api.Cmd{Kind: api.CAccept, Node: 99, Id: 3, I: -1, Yes: true, Order: sized(9, 2)}},
		{force(1, 6, true), api.Cmd{Kind: api.CForce, Node: 1, Id: 6, I: -1, Yes: true, Order: sized(9, 2)}},
		{deliver(2), api.Cmd{Kind: api.CDeliver, Node: 99, Id: 6, I: 2, Yes: true, Order: sized(9, 2)}},
		{drop(2), api.Cmd{Kind: api.CDrop, Node: 99, Id: 6, I: 2, Yes: true, Order: sized(9, 2)}},
		{double(2), api.Cmd{Kind: api.CDouble, Node: 99, Id: 6, I: 2, Yes: true, Order: sized(9, 2)}},
		{ring(1, 6), api.Cmd{Kind: api.CRing, Node: 1, Id: 6, I: -1, Yes: true, Order: sized(9, 2)}},
		{crash(1, 2, 3), api.Cmd{Kind: api.CCrash, Node: 1, Id: 3, I: 2, Yes: true, Order: sized(9, 2)}},
		{start(4), api.Cmd{Kind: api.CStart, Node: 4, Id: 6, I: 2, Yes: true, Order: sized(9, 2)}},
	} {
		a, b := busy(t), busy(t)
		acts(t, a, crash(api.Coupon, 0, 0), x.plain)
		acts(t, b, crash(api.Coupon, 0, 0), x.more)
		if got, want := viewOf(b).text(busyIds), viewOf(a).text(busyIds); got != want {
			t.Errorf("%+v: there is seen\n%s; want\n%s", x.more, got, want)
		}
	}
}
