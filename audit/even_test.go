package audit_test

import (
	"fmt"
	"slices"
	"testing"

	"wharfinger/api"
	"wharfinger/audit"
	"wharfinger/harbour"
)

// P26.3: the chapter's example: at first nothing is amiss.
func TestExample(t *testing.T) {
	if l := audit.Even(setup(), made(t, setup())); len(l) != 0 {
		t.Errorf("Even tells %q", l)
	}
}

// brings brings a keeper to a state of an order, past the harbour.
func brings(t *testing.T, h *harbour.Harbour, node int, o api.Order, state int) {
	t.Helper()
	asked := msg(api.MPrepare, api.Chief, node, o.Id, o.Item, o.Qty)
	if node == api.Purse {
		asked.A, asked.B = o.Client, o.Price
	}
	switch state {
	case api.VPrepared:
		hears(h, asked)
	case api.VCommitted:
		hears(h, asked, msg(api.MCommit, api.Chief, node, o.Id))
	case api.VAborted:
		hears(h, msg(api.MAbort, api.Chief, node, o.Id))
	case api.VForcedYes, api.VForcedNo:
		hears(h, asked)
		h.Keeper(node).Force(o.Id, state == api.VForcedYes)
	}
	if got := h.Keeper(node).State(o.Id); got != state {
		t.Fatalf("keeper %d came to %d of %d; want %d", node, got, o.Id, state)
	}
}

// apart tells whether these can't be the states of Stock and Purse: the pairs
// are written out.
func apart(stock, purse int) bool {
	return slices.Contains([][2]int{{2, 0}, {2, 3}, {0, 2}, {3, 2}}, [2]int{stock, purse})
}

// P26.3: keepers: each pair of states that Stock and Purse may have, of an order
// under way, the lowest and the highest id among them. The books go by the
// states, so that nothing else is amiss.
func TestKeepers(t *testing.T) {
	for _, id := range []int{1, 7, 999} {
		for stock := range 6 {
			for purse := range 6 {
				for _, steps := range []int{0, 2} {
					what, h := fmt.Sprint(id, ": ", stock, ", ", purse), made(t, setup())
					acts(t, h, submit(id, steps))
					brings(t, h, api.Stock, sized(id, steps), stock)
					brings(t, h, api.Purse, sized(id, steps), purse)
					want := ""
					if apart(stock, purse) {
						want = fmt.Sprint(id, ": keepers")
					}
					holdEven(t, what, setup(), h, want)
					// Another order does not change it.
					acts(t, h, submit(500, 1))
					holdEven(t, what, setup(), h, want)
				}
			}
		}
	}
}

// P26.3: trace: what comes through the harbour out of its order, and what does
// not; each time hard by one another. The order has the steps Credit, Coupon.
func TestTrace(t *testing.T) {
	do := func(service, step int) api.Msg { return msg(api.MDo, api.Chief, service, 7, 1, 0, step) }
	undo := func(service, step int) api.Msg { return msg(api.MUndo, api.Chief, service, 7, 0, 0, step) }
	ship, turn := msg(api.MShip, api.Chief, api.Shipper, 7, 1, 2), msg(api.MFail, api.Credit, api.Chief, 7)
	for i, x := range []struct {
		l    []api.Msg
		want string
	}{
		{nil, ""},
		{[]api.Msg{do(api.Credit, 0)}, ""},
		{[]api.Msg{do(api.Coupon, 1)}, "7: trace"},
		{[]api.Msg{do(api.Credit, 0), do(api.Coupon, 1)}, ""},
		{[]api.Msg{do(api.Coupon, 1), do(api.Credit, 0)}, "7: trace"},
		{[]api.Msg{do(api.Credit, 0), do(api.Coupon, 1), do(api.Fraud, 2)}, "7: trace"},
		{[]api.Msg{do(api.Credit, -1)}, "7: trace"},
		{[]api.Msg{do(api.Credit, 2)}, "7: trace"},
		{[]api.Msg{do(api.Credit, 0), undo(api.Credit, 0)}, "7: trace"},
		{[]api.Msg{do(api.Credit, 0), turn, undo(api.Credit, 0)}, ""},
		{[]api.Msg{turn, do(api.Credit, 0), undo(api.Credit, 0)}, ""},
		{[]api.Msg{turn, do(api.Credit, 0), do(api.Coupon, 1)}, ""},
		{[]api.Msg{turn, do(api.Credit, 0), undo(api.Credit, 0), do(api.Coupon, 1)}, "7: trace"},
		{[]api.Msg{do(api.Credit, 0), do(api.Coupon, 1), turn, undo(api.Credit, 0)}, "7: trace"},
		{[]api.Msg{do(api.Credit, 0), do(api.Coupon, 1), turn, undo(api.Credit, 0), undo(api.Coupon, 1)}, "7: trace"},
		{[]api.Msg{do(api.Credit, 0), do(api.Coupon, 1), turn, undo(api.Coupon, 1), undo(api.Credit, 0)}, ""},
		{[]api.Msg{do(api.Credit, 0), do(api.Coupon, 1), turn, undo(api.Coupon, 0), undo(api.Credit, 0)}, "7: trace"},
		{[]api.Msg{undo(api.Credit, 0)}, ""},
		{[]api.Msg{turn, undo(api.Coupon, 1), undo(api.Credit, 0)}, ""},
		{[]api.Msg{ship}, "7: trace, 7: shipped"},
		{[]api.Msg{turn, ship}, "7: trace, 7: shipped"},
		{[]api.Msg{ship, ship}, "7: trace, 7: shipped"},
	} {
		h := made(t, setup())
		acts(t, h, submit(7, 2))
		gets(t, h, x.l...)
		holdEven(t, i, setup(), h, x.want)
		acts(t, h, submit(8, 2))
		holdEven(t, i, setup(), h, x.want)
	}
}

// P26.3: trace: of an order that is committed, of one that is shipped, of one
// that is aborted: what is done behind that.
func TestTraceBehind(t *testing.T) {
	do := msg(api.MDo, api.Chief, api.Fraud, 7, 1, 0, 1)
	h := made(t, setup())
	acts(t, h, submit(7, 1), deliver(0), deliver(0), deliver(0), deliver(0), deliver(0), deliver(0))
	holdEven(t, "committed", setup(), h, "")
	gets(t, h, do)
	holdEven(t, "committed, done", setup(), h, "7: trace")
	h = made(t, setup())
	acts(t, h, submit(7, 1))
	settle(t, h)
	gets(t, h, msg(api.MDo, api.Chief, api.Credit, 7, 3), msg(api.MShip, api.Chief, api.Shipper, 7, 1, 2))
	holdEven(t, "shipped, told once more", setup(), h, "")
	gets(t, h, msg(api.MUndo, api.Chief, api.Credit, 7))
	holdEven(t, "shipped, undone", setup(), h, "7: trace")
	settle(t, h)
	holdEven(t, "shipped, undone", setup(), h, "7: trace")
	h = made(t, setup())
	acts(t, h, submit(7, 0), cancel(7))
	settle(t, h)
	gets(t, h, msg(api.MCommit, api.Chief, api.Stock, 7), msg(api.MYes, api.Purse, api.Chief, 7))
	holdEven(t, "aborted, told otherwise", setup(), h, "")
}

// P26.3: shipped: a parcel goes, past the harbour, at each place of an order's
// way: it may just if the order is committed. No item or number is asked for.
func TestShipped(t *testing.T) {
	for _, x := range []struct {
		what string
		l    []api.Cmd
		want string
	}{
		{"forward", []api.Cmd{submit(7, 1)}, "7: shipped"},
		{"preparing", []api.Cmd{submit(7, 0), deliver(0), deliver(0), deliver(0)}, "7: shipped"},
		{"committed", []api.Cmd{submit(7, 0), deliver(0), deliver(0), deliver(0), deliver(0)}, ""},
		{"undoing", []api.Cmd{submit(7, 1), cancel(7)}, "7: shipped"},
		{"aborted", []api.Cmd{submit(7, 0), cancel(7), drop(0), drop(0), deliver(0), deliver(0), deliver(0), deliver(0)}, "7: shipped"},
	} {
		for _, parcel := range [][2]int{{1, 2}, {0, most}, {7, 1}} {
			h := made(t, setup())
			acts(t, h, x.l...)
			if got := h.Desk().Tell(7)[3:][:len(x.what)]; got != x.what {
				t.Errorf("it is %q; want %q", got, x.what)
			}
			holdEven(t, x.what, setup(), h, "")
			hears(h, msg(api.MShip, api.Chief, api.Shipper, 7, parcel[0], parcel[1]))
			holdEven(t, x.what, setup(), h, x.want)
			hears(h, msg(api.MShip, api.Chief, api.Shipper, 8, parcel[0], parcel[1]))
			holdEven(t, x.what+", and one that never began", setup(), h, x.want)
		}
	}
}

// acked tells the chief, past the harbour, that both keepers know that an order
// is aborted: it is over then, whatever they are.
func acked(h *harbour.Harbour, id int) {
	hears(h, msg(api.MAck, api.Stock, api.Chief, id), msg(api.MAck, api.Purse, api.Chief, id))
}

// P26.3: held: an aborted order of which the keepers are in each pair of states.
func TestHeldByKeepers(t *testing.T) {
	for _, id := range []int{1, 999} {
		for stock := range 6 {
			for purse := range 6 {
				what, o := fmt.Sprint(id, ": ", stock, ", ", purse), sized(id, 0)
				for _, over := range []bool{true, false} {
					h, want := made(t, setup()), ""
					acts(t, h, submit(id, 0), cancel(id))
					brings(t, h, api.Stock, o, stock)
					brings(t, h, api.Purse, o, purse)
					if apart(stock, purse) {
						want = fmt.Sprint(id, ": keepers")
					}
					if over {
						acked(h, id)
						if stock == 1 || stock == 2 || purse == 1 || purse == 2 {
							want = linesText(slices.DeleteFunc([]string{want, fmt.Sprint(id, ": held")}, func(s string) bool { return s == "" }))
						}
					}
					holdEven(t, what, setup(), h, want)
				}
			}
		}
	}
}

// P26.3: held: an aborted order of which a service is in each of its states, be
// it one of its steps or not; one of another id; one that is not over.
func TestHeldByServices(t *testing.T) {
	for service := api.Coupon; service <= api.Fraud; service++ {
		do, undo := msg(api.MDo, api.Chief, service, 7, 1), msg(api.MUndo, api.Chief, service, 7)
		much := msg(api.MDo, api.Chief, service, 7, 100)
		for i, x := range []struct {
			l    []api.Msg
			want string
		}{
			{nil, ""}, {[]api.Msg{do}, "7: held"}, {[]api.Msg{much}, ""}, {[]api.Msg{undo}, ""}, {[]api.Msg{do, undo}, ""}, {[]api.Msg{much, do}, ""},
		} {
			for steps := range 4 {
				what := fmt.Sprint(service, ", ", i, ", steps: ", steps)
				h := made(t, setup())
				acts(t, h, submit(7, steps), submit(8, 0), submit(6, 0), cancel(7))
				dropAll(t, h)
				hears(h, x.l...)
				holdEven(t, what+", undoing", setup(), h, "")
				for i := steps - 1; i >= 0; i-- {
					hears(h, msg(api.MUndone, sized(7, steps).Steps[i].Service, api.Chief, 7, 0, 0, i))
				}
				hears(h, msg(api.MAck, api.Stock, api.Chief, 7))
				holdEven(t, what+", undone", setup(), h, "")
				hears(h, msg(api.MAck, api.Purse, api.Chief, 7))
				if got := h.Desk().Status(7); got != api.SAborted {
					t.Fatalf("%s: it is %d", what, got)
				}
				holdEven(t, what, setup(), h, x.want)
			}
		}
	}
}

// P26.3: held is told once, however many hold something of it.
func TestHeldOnce(t *testing.T) {
	h := made(t, setup())
	acts(t, h, submit(7, 0), submit(4, 0), submit(5, 0), cancel(7), cancel(4), cancel(5))
	for _, id := range []int{7, 4} {
		for service := api.Coupon; service <= api.Fraud; service++ {
			hears(h, msg(api.MDo, api.Chief, service, id, 1))
		}
		brings(t, h, api.Stock, sized(id, 0), api.VCommitted)
		brings(t, h, api.Purse, sized(id, 0), api.VPrepared)
	}
	holdEven(t, "undoing", setup(), h, "")
	for _, id := range []int{7, 4, 5} {
		acked(h, id)
	}
	holdEven(t, "aborted", setup(), h, "4: held, 7: held")
}

// P26.3: an order that was damaged is not held, be it damaged still, or shipped
// or aborted behind CAccept: it was forced.
func TestDamagedIsNotHeld(t *testing.T) {
	for _, yes := range []bool{true, false} {
		h := made(t, setup())
		acts(t, h, submit(7, 0), deliver(0), deliver(0), force(api.Stock, 7, yes), cancel(7))
		dropAll(t, h)
		hears(h, msg(api.MDamage, api.Stock, api.Chief, 7), msg(api.MAck, api.Purse, api.Chief, 7), msg(api.MDo, api.Chief, api.Fraud, 7, 1))
		if got := h.Desk().Tell(7); got != "7: damaged stock" || h.Keeper(api.Purse).State(7) != api.VPrepared {
			t.Fatal(got)
		}
		holdEven(t, "damaged", setup(), h, "")
		acts(t, h, accept(7))
		if got := h.Desk().Tell(7); got != "7: aborted" {
			t.Fatal(got)
		}
		holdEven(t, "aborted", setup(), h, "")
	}
}

// P26.3: an order that is damaged, but was not Forced, is not held either till
// it is SAborted.
func TestToldDamage(t *testing.T) {
	h := made(t, setup())
	acts(t, h, submit(7, 0), deliver(0), deliver(0), cancel(7))
	dropAll(t, h)
	hears(h, msg(api.MDamage, api.Stock, api.Chief, 7), msg(api.MAck, api.Purse, api.Chief, 7))
	holdEven(t, h.Desk().Tell(7), setup(), h, "")
	acts(t, h, accept(7))
	holdEven(t, h.Desk().Tell(7), setup(), h, "7: held")
}

// P26.3: of an order that was forced, for it or against it, no line of its own is
// told, whatever is amiss with it; the books are, and other orders.
func TestForced(t *testing.T) {
	for _, node := range []int{api.Stock, api.Purse} {
		for _, yes := range []bool{true, false} {
			for _, forced := range []bool{true, false} {
				what, h := fmt.Sprint(node, yes, forced), made(t, setup())
				acts(t, h, submit(7, 2), submit(3, 0))
				dropAll(t, h)
				brings(t, h, node, sized(7, 2), api.VPrepared)
				if forced {
					acts(t, h, force(node, 7, yes))
				} else {
					h.Keeper(node).Force(7, yes)
				}
				brings(t, h, api.Stock+api.Purse-node, sized(7, 2), api.VCommitted)
				gets(t, h, msg(api.MShip, api.Chief, api.Shipper, 7, 1, 2), msg(api.MDo, api.Chief, api.Coupon, 7, 1, 0, 1), msg(api.MFail, api.Credit, api.Chief, 7))
				dropAll(t, h)
				hears(h, msg(api.MUndone, api.Coupon, api.Chief, 7, 0, 0, 1), msg(api.MUndone, api.Credit, api.Chief, 7))
				acked(h, 7)
				if forced {
					holdEven(t, what, setup(), h, "")
				} else {
					holdEven(t, what, setup(), h, "7: trace, 7: shipped, 7: held")
				}
				brings(t, h, api.Purse, sized(3, 0), api.VCommitted)
				s := setup()
				s.Stock = []int{9, 21}
				if forced {
					holdEven(t, what, s, h, "3: keepers, item 1: goods")
				} else {
					holdEven(t, what, s, h, "3: keepers, 7: trace, 7: shipped, 7: held, item 1: goods")
				}
			}
		}
	}
}

// P26.3: of a rejected id, and of one that never began, no line is told, whatever
// the nodes have of it; till it begins.
func TestRejected(t *testing.T) {
	h := made(t, setup())
	for _, id := range []int{1, 7, 999} {
		h.Do(submit(id, 4))
	}
	for _, id := range []int{1, 7, 8, 999} {
		gets(t, h, msg(api.MShip, api.Chief, api.Shipper, id, 1, 2), msg(api.MDo, api.Chief, api.Coupon, id, 1, 0, 1))
		brings(t, h, api.Stock, sized(id, 0), api.VPrepared)
		hears(h, msg(api.MAbort, api.Chief, api.Purse, id))
	}
	holdEven(t, "rejected", setup(), h, "")
	acts(t, h, submit(7, 0))
	holdEven(t, "7 begins", setup(), h, "7: trace, 7: shipped")
	acts(t, h, submit(999, 0))
	holdEven(t, "999 begins", setup(), h, "7: trace, 7: shipped, 999: trace, 999: shipped")
	acts(t, h, submit(1, 0))
	holdEven(t, "1 begins", setup(), h, "1: trace, 1: shipped, 7: trace, 7: shipped, 999: trace, 999: shipped")
}
