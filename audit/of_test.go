package audit_test

import (
	"fmt"
	"slices"
	"testing"

	"wharfinger/api"
	"wharfinger/audit"
	"wharfinger/harbour"
)

// P26.1: at first the books say what the setup has, and there is no order.
func TestOfAtFirst(t *testing.T) {
	for _, x := range []struct {
		s    api.Setup
		want string
	}{
		{setup(), "9 20; ; 500 70; 0; 8 12 10"},
		{api.Setup{Orders: 1, Room: 1, Tries: 1}, "; ; ; 0; 0 0 0"},
		{api.Setup{Stock: []int{0, 0, 5}, Holds: []int{0, 7}, Orders: 64, Room: 4096, Tries: 20}, "0 0 5; ; ; 0; 0 7 0"},
		{api.Setup{Stock: []int{1, 2, 3, 4, 5, 6, 7, 8}, Money: []int{8, 7, 6, 5, 4, 3, 2, 1}, Holds: []int{3, 2, 1}, Orders: 1, Room: 1, Tries: 1},
			"1 2 3 4 5 6 7 8; ; 8 7 6 5 4 3 2 1; 0; 3 2 1"},
		{api.Setup{Stock: []int{most, 0, 0, 0, 0, 0, 0, most}, Money: []int{most, most}, Holds: []int{most, 0, most}, Orders: 1, Room: 1, Tries: 1},
			"1000000000 0 0 0 0 0 0 1000000000; ; 1000000000 1000000000; 0; 1000000000 0 1000000000"},
	} {
		h := made(t, x.s)
		holdOf(t, "at first", h, x.want)
		holdEven(t, "at first", x.s, h, "")
	}
}

// tale is a command, and what the books say behind it.
type tale struct {
	c    api.Cmd
	want string
}

// holdTales holds what the books say behind each of the commands, and that all
// is even.
func holdTales(t *testing.T, what string, h *harbour.Harbour, l []tale) {
	t.Helper()
	for i, x := range l {
		acts(t, h, x.c)
		holdOf(t, fmt.Sprint(what, ", ", i), h, x.want)
		holdEven(t, fmt.Sprint(what, ", ", i), setup(), h, "")
	}
}

// P26.1, P26.3: an order that is shipped, command by command.
func TestOfShipped(t *testing.T) {
	holdTales(t, "shipped", made(t, setup()), []tale{
		{submit(7, 1), "9 20; ; 500 70; 0; 8 12 10; open 7"},
		{deliver(0), "9 20; ; 500 70; 0; 8 9 10; open 7"},     // do
		{deliver(0), "9 20; ; 500 70; 0; 8 9 10; open 7"},     // done
		{deliver(0), "9 20; ; 500 70; 0; 8 9 10; open 7"},     // prepare to stock
		{deliver(0), "9 20; ; 500 70; 0; 8 9 10; open 7"},     // prepare to purse
		{deliver(0), "9 20; ; 500 70; 0; 8 9 10; open 7"},     // yes
		{deliver(0), "9 20; ; 500 70; 0; 8 9 10; open 7"},     // yes: it is committed
		{deliver(1), "9 20; ; 470 70; 30; 8 9 10; open 7"},    // commit to purse
		{deliver(1), "9 20; 0 2; 470 70; 30; 8 9 10; open 7"}, // ship
		{deliver(0), "9 18; 0 2; 470 70; 30; 8 9 10; open 7"}, // commit to stock
		{deliver(0), "9 18; 0 2; 470 70; 30; 8 9 10; open 7"}, // ack of purse
		{deliver(0), "9 18; 0 2; 470 70; 30; 8 9 10; open 7"}, // shipped
		{deliver(0), "9 18; 0 2; 470 70; 30; 8 9 10; shipped 7"},
	})
}

// P26.1, P26.3: an order that is aborted, command by command: by a service that
// can't, by a keeper that says no, by a cancel.
func TestOfAborted(t *testing.T) {
	cant := sized(7, 2)
	cant.Steps[1].N = 9
	holdTales(t, "a service can't", made(t, setup()), []tale{
		{begin(cant), "9 20; ; 500 70; 0; 8 12 10; open 7"},
		{deliver(0), "9 20; ; 500 70; 0; 8 9 10; open 7"},  // do
		{deliver(0), "9 20; ; 500 70; 0; 8 9 10; open 7"},  // done
		{deliver(0), "9 20; ; 500 70; 0; 8 9 10; open 7"},  // do
		{deliver(0), "9 20; ; 500 70; 0; 8 9 10; open 7"},  // fail: it is turned
		{deliver(0), "9 20; ; 500 70; 0; 8 9 10; open 7"},  // abort to stock
		{deliver(0), "9 20; ; 500 70; 0; 8 9 10; open 7"},  // abort to purse
		{deliver(0), "9 20; ; 500 70; 0; 8 9 10; open 7"},  // undo of what it can't
		{deliver(2), "9 20; ; 500 70; 0; 8 9 10; open 7"},  // undone
		{deliver(4), "9 20; ; 500 70; 0; 8 12 10; open 7"}, // undo: ahead of it are acks, and aborts once more
		{deliver(4), "9 20; ; 500 70; 0; 8 12 10; open 7"}, // undone
		{deliver(0), "9 20; ; 500 70; 0; 8 12 10; open 7"}, // ack
		{deliver(0), "9 20; ; 500 70; 0; 8 12 10; aborted 7"},
	})
	holdTales(t, "too dear", made(t, setup()), []tale{
		{begin(asks(7, 0, 1, 1, 71)), "9 20; ; 500 70; 0; 8 12 10; open 7"},
		{deliver(0), "9 20; ; 500 70; 0; 8 12 10; open 7"}, // prepare to stock
		{deliver(0), "9 20; ; 500 70; 0; 8 12 10; open 7"}, // prepare to purse
		{deliver(1), "9 20; ; 500 70; 0; 8 12 10; open 7"}, // no: it is turned
		{deliver(1), "9 20; ; 500 70; 0; 8 12 10; open 7"}, // abort to stock
		{deliver(1), "9 20; ; 500 70; 0; 8 12 10; open 7"}, // abort to purse
		{deliver(0), "9 20; ; 500 70; 0; 8 12 10; open 7"}, // yes, too late
		{deliver(0), "9 20; ; 500 70; 0; 8 12 10; open 7"}, // ack
		{deliver(0), "9 20; ; 500 70; 0; 8 12 10; aborted 7"},
	})
	h := made(t, setup())
	holdTales(t, "cancelled", h, []tale{
		{submit(7, 3), "9 20; ; 500 70; 0; 8 12 10; open 7"},
		{cancel(7), "9 20; ; 500 70; 0; 8 12 10; open 7"},
		{deliver(0), "9 20; ; 500 70; 0; 8 9 10; open 7"}, // do, too late
		{deliver(0), "9 20; ; 500 70; 0; 8 9 10; open 7"}, // abort
		{deliver(0), "9 20; ; 500 70; 0; 8 9 10; open 7"}, // abort
		{deliver(0), "9 20; ; 500 70; 0; 8 9 10; open 7"}, // undo of the last one
	})
	settle(t, h)
	holdOf(t, "cancelled, settled", h, "9 20; ; 500 70; 0; 8 12 10; aborted 7")
	holdEven(t, "cancelled, settled", setup(), h, "")
}

// P26.1, P26.3: an order that is damaged, command by command: forced against it
// while it is decided for it, and the other way; till it is accepted.
func TestOfDamaged(t *testing.T) {
	holdTales(t, "against it", made(t, setup()), []tale{
		{submit(7, 0), "9 20; ; 500 70; 0; 8 12 10; open 7"},
		{deliver(0), "9 20; ; 500 70; 0; 8 12 10; open 7"},
		{deliver(0), "9 20; ; 500 70; 0; 8 12 10; open 7"},
		{force(api.Stock, 7, false), "9 20; ; 500 70; 0; 8 12 10; open 7"},
		{deliver(0), "9 20; ; 500 70; 0; 8 12 10; open 7"},        // yes
		{deliver(0), "9 20; ; 500 70; 0; 8 12 10; open 7"},        // yes: it is committed
		{deliver(0), "9 20; ; 500 70; 0; 8 12 10; open 7"},        // commit: damage
		{deliver(0), "9 20; ; 470 70; 30; 8 12 10; open 7"},       // commit
		{deliver(0), "9 20; 0 2; 470 70; 30; 8 12 10; open 7"},    // ship
		{deliver(0), "9 20; 0 2; 470 70; 30; 8 12 10; damaged 7"}, // damage
		{deliver(0), "9 20; 0 2; 470 70; 30; 8 12 10; damaged 7"}, // ack
		{deliver(0), "9 20; 0 2; 470 70; 30; 8 12 10; damaged 7"}, // shipped
		{accept(7), "9 20; 0 2; 470 70; 30; 8 12 10; shipped 7"},
	})
	holdTales(t, "for it", made(t, setup()), []tale{
		{submit(7, 0), "9 20; ; 500 70; 0; 8 12 10; open 7"},
		{deliver(0), "9 20; ; 500 70; 0; 8 12 10; open 7"},
		{deliver(0), "9 20; ; 500 70; 0; 8 12 10; open 7"},
		{force(api.Stock, 7, true), "9 18; ; 500 70; 0; 8 12 10; open 7"},
		{force(api.Purse, 7, true), "9 18; ; 470 70; 30; 8 12 10; open 7"},
		{cancel(7), "9 18; ; 470 70; 30; 8 12 10; open 7"},
		{drop(0), "9 18; ; 470 70; 30; 8 12 10; open 7"},
		{drop(0), "9 18; ; 470 70; 30; 8 12 10; open 7"},
		{deliver(0), "9 18; ; 470 70; 30; 8 12 10; open 7"},
		{deliver(0), "9 18; ; 470 70; 30; 8 12 10; open 7"},
		{deliver(0), "9 18; ; 470 70; 30; 8 12 10; damaged 7"},
		{deliver(0), "9 18; ; 470 70; 30; 8 12 10; damaged 7"},
		{accept(7), "9 18; ; 470 70; 30; 8 12 10; aborted 7"},
	})
}

// P26.1: an order that is rejected is in no list, till one of its id begins.
func TestOfRejected(t *testing.T) {
	h := made(t, setup())
	for _, c := range []api.Cmd{submit(7, 4), begin(asks(1, 0, 0, 0, 1)), begin(asks(999, 8, 1, 0, 1)), submit(0, 0), submit(1000, 0)} {
		if e := h.Do(c); e != api.ErrArg {
			t.Fatalf("%+v: %d", c, e)
		}
		holdOf(t, "rejected", h, "9 20; ; 500 70; 0; 8 12 10")
		holdEven(t, "rejected", setup(), h, "")
	}
	acts(t, h, submit(999, 0))
	holdOf(t, "999", h, "9 20; ; 500 70; 0; 8 12 10; open 999")
	acts(t, h, submit(1, 0), cancel(1))
	holdOf(t, "1", h, "9 20; ; 500 70; 0; 8 12 10; open 1 999")
	settle(t, h)
	holdOf(t, "settled", h, "9 18; 0 2; 470 70; 30; 8 12 10; shipped 999; aborted 1")
	holdEven(t, "settled", setup(), h, "")
}

// P26.1: of each list several orders, handed in so that their ids do not rise;
// open are those that go forward, that are preparing, committed, undoing.
func TestOfSeveral(t *testing.T) {
	s := setup()
	s.Orders = 30
	h := made(t, s)
	for _, id := range []int{999, 3, 40, 41, 12} {
		acts(t, h, submit(id, 0))
		settle(t, h)
	}
	holdOf(t, "shipped", h, "9 10; 0 10; 350 70; 150; 8 12 10; shipped 3 12 40 41 999")
	for _, id := range []int{500, 1, 998, 4} {
		acts(t, h, submit(id, 3), cancel(id))
		settle(t, h)
	}
	holdOf(t, "aborted", h, "9 10; 0 10; 350 70; 150; 8 12 10; shipped 3 12 40 41 999; aborted 1 4 500 998")
	for _, id := range []int{700, 2, 60} {
		acts(t, h, submit(id, 0), deliver(0), deliver(0), force(api.Purse, id, false))
		settle(t, h)
	}
	holdOf(t, "damaged", h, "9 4; 0 16; 350 70; 150; 8 12 10; shipped 3 12 40 41 999; aborted 1 4 500 998; damaged 2 60 700")
	acts(t, h, begin(asks(20, 0, 1, 1, 1)), deliver(0), deliver(0), deliver(0), deliver(0))
	dropAll(t, h)
	acts(t, h, submit(600, 2), submit(900, 0), submit(5, 1), cancel(5))
	h.Do(submit(6, 4))
	for id, want := range map[int]int{20: api.SCommitted, 600: api.SForward, 900: api.SPreparing, 5: api.SUndoing, 6: api.SRejected} {
		if got := h.Desk().Status(id); got != want {
			t.Errorf("%d is %d; want %d", id, got, want)
		}
	}
	holdOf(t, "open", h, "9 4; 0 16; 350 70; 150; 8 12 10; shipped 3 12 40 41 999; aborted 1 4 500 998; damaged 2 60 700; open 5 20 600 900")
	acts(t, h, accept(60))
	holdOf(t, "accepted", h, "9 4; 0 16; 350 70; 150; 8 12 10; shipped 3 12 40 41 60 999; aborted 1 4 500 998; damaged 2 700; open 5 20 600 900")
	holdEven(t, "all", s, h, "")
}

// P26.1: each item, client and service by its own number.
func TestOfEach(t *testing.T) {
	s := api.Setup{
		Stock: []int{10, 20, 30, 40, 50, 60, 70, 80}, Money: []int{81, 71, 61, 51, 41, 31, 21, 11}, Holds: []int{100, 200, 300},
		Orders: 20, Room: 900, Tries: 3,
	}
	h := made(t, s)
	for i := range 8 {
		o := asks(100-i, i, 1+i, 7-i, 2+i)
		o.Steps = []api.Step{{Service: api.Coupon + i%3, N: 1 << i}}
		acts(t, h, begin(o))
		settle(t, h)
		holdEven(t, i, s, h, "")
	}
	holdOf(t, "each", h, "9 18 27 36 45 54 63 72; 1 2 3 4 5 6 7 8; 72 63 54 45 36 27 18 9; 44; 27 54 264; shipped 93 94 95 96 97 98 99 100")
	acts(t, h, begin(asks(1, 7, 72, 0, 72)), begin(asks(2, 0, 9, 7, 9)))
	settle(t, h)
	holdOf(t, "all of some", h, "0 18 27 36 45 54 63; 10 2 3 4 5 6 7 80; 0 63 54 45 36 27 18; 125; 27 54 264; shipped 1 2 93 94 95 96 97 98 99 100")
	holdEven(t, "all of some", s, h, "")
}

// P26.1: of a node that is down the books say what they said at first; what the
// others say is as it was.
func TestOfDown(t *testing.T) {
	h := made(t, setup())
	acts(t, h, submit(7, 2))
	settle(t, h)
	acts(t, h, submit(3, 1))
	h.Do(submit(9, 4))
	up := "9 18; 0 2; 470 70; 30; 6 9 10; shipped 7; open 3"
	holdOf(t, "up", h, up)
	for node, want := range []string{
		"9 18; 0 2; 470 70; 30; 6 9 10", "9 20; 0 2; 470 70; 30; 6 9 10; shipped 7; open 3", "9 18; 0 2; 500 70; 0; 6 9 10; shipped 7; open 3",
		"9 18; ; 470 70; 30; 6 9 10; shipped 7; open 3", "9 18; 0 2; 470 70; 30; 8 9 10; shipped 7; open 3", "9 18; 0 2; 470 70; 30; 6 12 10; shipped 7; open 3",
		"9 18; 0 2; 470 70; 30; 6 9 10; shipped 7; open 3",
	} {
		acts(t, h, crash(node, 99, 0))
		holdOf(t, fmt.Sprint(node, " is down"), h, want)
		acts(t, h, start(node))
		holdOf(t, fmt.Sprint(node, " is up"), h, up)
	}
}

// P26.1, P26.3, R3: of a nil harbour nothing is told, nor of one that New did not
// make, which has no books.
func TestNilHarbour(t *testing.T) {
	for _, h := range []*harbour.Harbour{nil, new(harbour.Harbour)} {
		r := audit.Of(h)
		if reportText(r) != "; ; ; 0; 0 0 0" || len(r.Shipped)+len(r.Aborted)+len(r.Damaged)+len(r.Open) != 0 {
			t.Errorf("Of tells %+v", r)
		}
		holdEven(t, "nothing there", api.Setup{Orders: 1, Room: 1, Tries: 1}, h, "")
		holdEven(t, "no setup", api.Setup{}, h, "")
	}
	for _, s := range []api.Setup{setup(), {Stock: []int{1}, Orders: 1, Room: 1, Tries: 1}} {
		holdEven(t, "nil", s, nil, "")
	}
	holdEven(t, "no nodes", setup(), new(harbour.Harbour), "item 0: goods, item 1: goods, client 0: money, client 1: money")
}

// R2: lists that were told are the caller's: what he makes of them is not seen
// behind it, nor in another one of them.
func TestOfIsNew(t *testing.T) {
	h := made(t, setup())
	for _, id := range []int{1, 2, 3} {
		acts(t, h, submit(id, 0))
		settle(t, h)
		acts(t, h, submit(id+10, 0), cancel(id+10))
		settle(t, h)
		acts(t, h, submit(id+20, 0), deliver(0), deliver(0), force(api.Stock, id+20, false))
		settle(t, h)
	}
	for _, id := range []int{31, 32, 33} {
		acts(t, h, submit(id, 1))
	}
	want := "9 14; 0 12; 320 70; 180; 8 12 10; shipped 1 2 3; aborted 11 12 13; damaged 21 22 23; open 31 32 33"
	holdOf(t, "told", h, want)
	lists := func(r *audit.Report) []*[]int { return []*[]int{&r.Shipped, &r.Aborted, &r.Damaged, &r.Open} }
	for i := range 4 {
		r, other := audit.Of(h), audit.Of(h)
		l := lists(&r)[i]
		*l = append((*l)[:cap(*l)], 555)
		for j := range *l {
			(*l)[j] = -7
		}
		for j, x := range lists(&r) {
			if j != i && slices.Contains(*x, -7) {
				t.Errorf("list %d is seen in list %d", i, j)
			}
		}
		r.OnHand, r.Money, r.Left = [8]int{-1}, [8]int{-1}, [3]int{-1}
		if got := reportText(other); got != want {
			t.Errorf("list %d is changed in another answer: %q", i, got)
		}
		holdOf(t, i, h, want)
	}
}
