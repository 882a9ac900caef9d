package audit_test

import (
	"fmt"
	"math"
	"slices"
	"testing"

	"wharfinger/api"
	"wharfinger/audit"
	"wharfinger/harbour"
)

// takes lets a keeper decide for an order of so much of an item or client, past
// the harbour, whatever the order asks for.
func takes(t *testing.T, h *harbour.Harbour, node, id, of, much int) {
	t.Helper()
	hears(h, msg(api.MPrepare, api.Chief, node, id, of, much), msg(api.MCommit, api.Chief, node, id))
	if got := h.Keeper(node).State(id); got != api.VCommitted {
		t.Fatalf("keeper %d came to %d of %d", node, got, id)
	}
}

// wide is a setup of all items and clients.
func wide() api.Setup {
	return api.Setup{
		Stock: []int{10, 20, 30, 40, 50, 60, 70, 80}, Money: []int{81, 71, 61, 51, 41, 31, 21, 11}, Holds: []int{100, 200, 300},
		Orders: 20, Room: 900, Tries: 3,
	}
}

// P26.3: goods: an order that the desk does not know, or knows of another item or
// quantity, of each item.
func TestGoods(t *testing.T) {
	for item := range 8 {
		for _, id := range []int{1, 7, 999} {
			what, h := fmt.Sprint("item ", item, ", order ", id), made(t, wide())
			takes(t, h, api.Stock, id, item, 1)
			holdEven(t, what, wide(), h, fmt.Sprint("item ", item, ": goods"))
			// By a setup that has one less it is even.
			s := wide()
			s.Stock = with(s.Stock, item, 10*(item+1)-1)
			holdEven(t, what, s, h, "")
			// A keeper that waits, or frees it, has it on hand still.
			h = made(t, wide())
			hears(h, msg(api.MPrepare, api.Chief, api.Stock, id, item, 1))
			holdEven(t, what+", it waits", wide(), h, "")
			hears(h, msg(api.MAbort, api.Chief, api.Stock, id))
			holdEven(t, what+", it frees it", wide(), h, "")
			// By an operator, past the harbour.
			h = made(t, wide())
			hears(h, msg(api.MPrepare, api.Chief, api.Stock, id, item, 1))
			h.Keeper(api.Stock).Force(id, true)
			holdEven(t, what+", forced", wide(), h, fmt.Sprint("item ", item, ": goods"))
		}
		for _, x := range []struct {
			of, much int
			want     string
		}{
			{item, 3, ""}, {item, 2, fmt.Sprint("item ", item, ": goods")}, {item, 4, fmt.Sprint("item ", item, ": goods")},
			{(item + 1) % 8, 3, fmt.Sprint("item ", min(item, (item+1)%8), ": goods, item ", max(item, (item+1)%8), ": goods")},
		} {
			h := made(t, wide())
			acts(t, h, begin(asks(7, item, 3, 0, 1)))
			takes(t, h, api.Stock, 7, x.of, x.much)
			brings(t, h, api.Purse, asks(7, item, 3, 0, 1), api.VPrepared)
			holdEven(t, fmt.Sprint("item ", item, ": ", x), wide(), h, x.want)
		}
	}
}

// P26.3: money, and till: an order that the desk does not know, or knows of
// another client or price, of each client.
func TestMoney(t *testing.T) {
	for client := range 8 {
		line := fmt.Sprint("client ", client, ": money")
		for _, id := range []int{1, 7, 999} {
			what, h := fmt.Sprint("client ", client, ", order ", id), made(t, wide())
			takes(t, h, api.Purse, id, client, 1)
			holdEven(t, what, wide(), h, line+", till")
			// By a setup that has one less the till alone is not.
			s := wide()
			s.Money = with(s.Money, client, 80-10*client)
			holdEven(t, what, s, h, "till")
			h = made(t, wide())
			hears(h, msg(api.MPrepare, api.Chief, api.Purse, id, client, 1))
			holdEven(t, what+", it waits", wide(), h, "")
			hears(h, msg(api.MAbort, api.Chief, api.Purse, id))
			holdEven(t, what+", it frees it", wide(), h, "")
			h = made(t, wide())
			hears(h, msg(api.MPrepare, api.Chief, api.Purse, id, client, 1))
			h.Keeper(api.Purse).Force(id, true)
			holdEven(t, what+", forced", wide(), h, line+", till")
		}
		for _, x := range []struct {
			of, much int
			want     string
		}{
			{client, 3, ""}, {client, 2, line + ", till"}, {client, 4, line + ", till"},
			{(client + 1) % 8, 3, fmt.Sprint("client ", min(client, (client+1)%8), ": money, client ", max(client, (client+1)%8), ": money")},
		} {
			h := made(t, wide())
			acts(t, h, begin(asks(7, 0, 1, client, 3)))
			takes(t, h, api.Purse, 7, x.of, x.much)
			brings(t, h, api.Stock, asks(7, 0, 1, client, 3), api.VPrepared)
			holdEven(t, fmt.Sprint("client ", client, ": ", x), wide(), h, x.want)
		}
	}
}

// P26.3: of an order that is committed, shipped, damaged, forced for it or
// against it, the books are even by what its keepers have decided, not by what
// the chief has.
func TestBooksOfEach(t *testing.T) {
	for stock := range 6 {
		for purse := range 6 {
			for _, id := range []int{1, 999} {
				h, what := made(t, setup()), fmt.Sprint(id, ": ", stock, ", ", purse)
				acts(t, h, submit(id, 0), cancel(id))
				brings(t, h, api.Stock, sized(id, 0), stock)
				brings(t, h, api.Purse, sized(id, 0), purse)
				goods, money := "9 20", "500 70; 0"
				if stock == api.VCommitted || stock == api.VForcedYes {
					goods = "9 18"
				}
				if purse == api.VCommitted || purse == api.VForcedYes {
					money = "470 70; 30"
				}
				holdOf(t, what, h, fmt.Sprint(goods, "; ; ", money, "; 8 12 10; open ", id))
				if !apart(stock, purse) {
					holdEven(t, what, setup(), h, "")
				}
				s := setup()
				s.Stock, s.Money = []int{9, 18}, []int{470, 70}
				want := "item 1: goods, client 0: money"
				if apart(stock, purse) {
					want = fmt.Sprint(id, ": keepers, ", want)
				}
				holdEven(t, what, s, h, want)
			}
		}
	}
}

// P26.3: sums are whole: what orders asked for is not cut to an amount, nor to
// less, where it is added up.
func TestWholeSums(t *testing.T) {
	s := api.Setup{Stock: []int{most, 0, most}, Money: []int{most, 0, most}, Orders: 9, Room: 300, Tries: 3}
	h := made(t, s)
	acts(t, h, begin(asks(1, 0, most, 0, most)), begin(asks(2, 0, most, 0, most)))
	for id, much := range map[int]int{1: most - 1, 2: 1} {
		takes(t, h, api.Stock, id, 0, much)
		takes(t, h, api.Purse, id, 0, much)
	}
	// Cut to an amount they would be what the setup has.
	holdEven(t, "both", s, h, "item 0: goods, client 0: money, till")
	holdOf(t, "both", h, "0 0 1000000000; ; 0 0 1000000000; 1000000000; 0 0 0; open 1 2")
	// As many as there are at a time, each of all that there is.
	s.Orders = 64
	h = made(t, s)
	for id := 1; id <= 64; id++ {
		acts(t, h, begin(asks(id, 2, most, 2, most)))
		takes(t, h, api.Stock, id, 2, 1)
		takes(t, h, api.Purse, id, 2, 1)
	}
	holdEven(t, "many", s, h, "item 2: goods, client 2: money, till")
	// And where all of it is sold.
	h = made(t, s)
	acts(t, h, begin(asks(1, 2, most, 2, most-1)), begin(asks(2, 0, most, 0, 1)))
	settle(t, h)
	holdOf(t, "all", h, "; 1000000000 0 1000000000; 999999999 0 1; 1000000000; 0 0 0; shipped 1 2")
	holdEven(t, "all", s, h, "")
}

// P26.3: by a setup with one more, or one less, of one item, or of one client,
// that one is told; at first, and behind a sale of each.
func TestOtherSetups(t *testing.T) {
	first, sold := made(t, wide()), made(t, wide())
	for i := range 8 {
		acts(t, sold, begin(asks(1+i, i, 2, i, 3)))
		settle(t, sold)
	}
	for _, h := range []*harbour.Harbour{first, sold} {
		holdEven(t, "its own", wide(), h, "")
		for i := range 8 {
			for _, less := range []int{-1, 1, -10, 10, 2, 3} {
				s := wide()
				s.Stock = with(s.Stock, i, s.Stock[i]-less)
				holdEven(t, fmt.Sprint(i, " less ", less), s, h, fmt.Sprint("item ", i, ": goods"))
				s = wide()
				s.Money = with(s.Money, i, s.Money[i]-less)
				holdEven(t, fmt.Sprint(i, " less ", less), s, h, fmt.Sprint("client ", i, ": money"))
				s.Stock = with(s.Stock, 7-i, s.Stock[7-i]+1)
				holdEven(t, fmt.Sprint(i, " less ", less, ", both"), s, h, fmt.Sprint("item ", 7-i, ": goods, client ", i, ": money"))
			}
		}
		holdEven(t, "nothing", api.Setup{Orders: 1, Room: 1, Tries: 1}, h, "item 0: goods, item 1: goods, item 2: goods, item 3: goods, item 4: goods, item 5: goods, item 6: goods, item 7: goods, "+
			"client 0: money, client 1: money, client 2: money, client 3: money, client 4: money, client 5: money, client 6: money, client 7: money")
		s := wide()
		s.Stock, s.Money = s.Stock[:7], s.Money[:6]
		holdEven(t, "fewer", s, h, "item 7: goods, client 6: money, client 7: money")
		s.Stock, s.Money = []int{10, 20, 30}, []int{81, 71, 61, 51}
		holdEven(t, "fewer", s, h, "item 3: goods, item 4: goods, item 5: goods, item 6: goods, item 7: goods, client 4: money, client 5: money, client 6: money, client 7: money")
	}
}

// P26.3: what a setup has of services, of orders at a time, of room and tries is
// not asked for.
func TestRestOfSetup(t *testing.T) {
	h := made(t, setup())
	acts(t, h, submit(7, 3), submit(3, 1), cancel(3))
	settle(t, h)
	for _, s := range []api.Setup{
		{Stock: []int{9, 20}, Money: []int{500, 70}, Orders: 1, Room: 1, Tries: 1},
		{Stock: []int{9, 20, 0, 0, 0, 0, 0, 0}, Money: []int{500, 70, 0}, Holds: []int{most, most, most}, Orders: 64, Room: 4096, Tries: 20},
	} {
		holdEven(t, "the rest", s, h, "")
		s.Stock = []int{9, 20, 0, 0, 0, 0, 0, 1}
		holdEven(t, "the rest", s, h, "item 7: goods")
		s.Money = []int{500, 70, 0, 0, 0, 0, 0, most}
		holdEven(t, "the rest", s, h, "item 7: goods, client 7: money")
	}
}

// P26.3: of a setup of nothing, and of one of most: each number may be told.
func TestEdgeSetups(t *testing.T) {
	none := api.Setup{Orders: 64, Room: 4096, Tries: 20}
	h := made(t, none)
	acts(t, h, submit(1, 0), begin(asks(999, 7, most, 7, most)))
	settle(t, h)
	holdOf(t, "nothing", h, "; ; ; 0; 0 0 0; aborted 1 999")
	holdEven(t, "nothing", none, h, "")
	s := none
	s.Stock, s.Money = make([]int, 8), make([]int, 8)
	holdEven(t, "noughts", s, h, "")
	s.Stock[7], s.Money[0] = 1, most
	holdEven(t, "one", s, h, "item 7: goods, client 0: money")
	all := api.Setup{Stock: slices.Repeat([]int{most}, 8), Money: slices.Repeat([]int{most}, 8), Holds: []int{most, most, most}, Orders: 64, Room: 4096, Tries: 20}
	h = made(t, all)
	o := asks(999, 7, most, 7, most)
	o.Steps = []api.Step{{Service: api.Fraud, N: most}}
	acts(t, h, begin(asks(1, 0, most, 7, 1)), begin(o))
	settle(t, h)
	holdOf(t, "most", h, "0 1000000000 1000000000 1000000000 1000000000 1000000000 1000000000 1000000000; 1000000000; "+
		"1000000000 1000000000 1000000000 1000000000 1000000000 1000000000 1000000000 999999999; 1; 1000000000 1000000000 1000000000; shipped 1; aborted 999")
	holdEven(t, "most", all, h, "")
	all.Stock, all.Money = with(all.Stock, 0, most-1), with(all.Money, 7, most-1)
	holdEven(t, "one less", all, h, "item 0: goods, client 7: money")
}

// wrongSetups are setups that may not be.
func wrongSetups() []api.Setup {
	var l []api.Setup
	change := func(c func(s *api.Setup)) {
		s := setup()
		s.Stock = []int{1, 2, 3} // by which much would be amiss
		c(&s)
		l = append(l, s)
	}
	for _, n := range []int{math.MinInt, -1 << 32, -1, most + 1, 1 << 32, math.MaxInt} {
		change(func(s *api.Setup) { s.Stock = []int{n} })
		change(func(s *api.Setup) { s.Stock = []int{0, 0, 0, 0, 0, 0, 0, n} })
		change(func(s *api.Setup) { s.Money = []int{500, n} })
		change(func(s *api.Setup) { s.Holds = []int{8, 12, n} })
		change(func(s *api.Setup) { s.Holds = []int{n} })
	}
	change(func(s *api.Setup) { s.Stock = make([]int, 9) })
	change(func(s *api.Setup) { s.Money = make([]int, 9) })
	change(func(s *api.Setup) { s.Holds = make([]int, 4) })
	for _, n := range []int{math.MinInt, -1, 0, 65, math.MaxInt} {
		change(func(s *api.Setup) { s.Orders = n })
	}
	for _, n := range []int{math.MinInt, -1, 0, 4097, math.MaxInt} {
		change(func(s *api.Setup) { s.Room = n })
	}
	for _, n := range []int{math.MinInt, -1, 0, 21, math.MaxInt} {
		change(func(s *api.Setup) { s.Tries = n })
	}
	return append(l, api.Setup{})
}

// P26.3: of a setup that may not be nothing is told, whatever is amiss.
func TestWrongSetups(t *testing.T) {
	h := amissInAll(t)
	for i, s := range wrongSetups() {
		holdEven(t, fmt.Sprint(i, ": ", s), s, h, "")
	}
	s := setup()
	s.Orders, s.Room, s.Tries = 64, 4096, 20
	holdEven(t, "the greatest that may be", s, h, allAmiss)
	s.Orders, s.Room, s.Tries = 1, 1, 1
	holdEven(t, "the least that may be", s, h, allAmiss)
}

// allAmiss is what is told of a harbour that amissInAll made.
const allAmiss = "1: keepers, 1: trace, 1: shipped, 1: held, 3: shipped, 7: keepers, 999: trace, 999: held, item 0: goods, item 1: goods, item 7: goods, client 0: money, client 1: money, till"

// amissInAll is a harbour in which there is something amiss by each line; its
// setup has seven items.
func amissInAll(t *testing.T) *harbour.Harbour {
	t.Helper()
	s := setup()
	s.Stock = []int{9, 20, 0, 0, 0, 0, 0, 5}
	h := made(t, s)
	acts(t, h, submit(999, 0), submit(7, 0), submit(1, 0), submit(500, 0), submit(3, 0), cancel(1), cancel(999))
	h.Do(submit(4, 4))
	dropAll(t, h)
	brings(t, h, api.Stock, sized(1, 0), api.VCommitted)
	brings(t, h, api.Purse, sized(1, 0), api.VAborted)
	gets(t, h, msg(api.MShip, api.Chief, api.Shipper, 1, 1, 2), msg(api.MDo, api.Chief, api.Fraud, 999, 1))
	dropAll(t, h)
	acked(h, 1)
	acked(h, 999)
	hears(h, msg(api.MShip, api.Chief, api.Shipper, 3, 1, 2), msg(api.MShip, api.Chief, api.Shipper, 4, 1, 2))
	brings(t, h, api.Stock, sized(7, 0), api.VAborted)
	takes(t, h, api.Purse, 7, 1, 31)
	takes(t, h, api.Stock, 500, 0, 2)
	brings(t, h, api.Purse, sized(500, 0), api.VPrepared)
	return h
}

// P26.3: each line, in its order.
func TestAllLines(t *testing.T) {
	h := amissInAll(t)
	holdEven(t, "all", setup(), h, allAmiss)
	s := setup()
	s.Stock = []int{7, 22, 0, 0, 0, 0, 0, 5}
	holdEven(t, "without goods", s, h, "1: keepers, 1: trace, 1: shipped, 1: held, 3: shipped, 7: keepers, 999: trace, 999: held, client 0: money, client 1: money, till")
	s.Money = []int{530, 39}
	holdEven(t, "without money", s, h, "1: keepers, 1: trace, 1: shipped, 1: held, 3: shipped, 7: keepers, 999: trace, 999: held, till")
}

// P26.3: while one node is down, each, or some, or all, nothing is told, whatever
// is amiss; when it is up again all of it is.
func TestDown(t *testing.T) {
	h := amissInAll(t)
	for node := range api.Nodes {
		acts(t, h, crash(node, 99, 0)) // what the chief was told of acks is not sure
		holdEven(t, fmt.Sprint(node, " is down"), setup(), h, "")
		for other := range api.Nodes {
			if other != node {
				acts(t, h, crash(other, 99, 5))
				holdEven(t, fmt.Sprint(node, " and ", other, " are down"), setup(), h, "")
				acts(t, h, start(other))
				holdEven(t, fmt.Sprint(node, " is down still"), setup(), h, "")
			}
		}
		acts(t, h, start(node))
		holdEven(t, fmt.Sprint(node, " is up"), setup(), h, allAmiss)
	}
	for node := range api.Nodes {
		acts(t, h, crash(node, 99, 7))
	}
	holdEven(t, "all are down", setup(), h, "")
	for node := range api.Nodes {
		holdEven(t, fmt.Sprint("so many are up: ", node), setup(), h, "")
		acts(t, h, start(node))
	}
	holdEven(t, "all are up", setup(), h, allAmiss)
}

// R2: lines that were told are the caller's: what he makes of them is not seen
// behind it; the setup is not changed.
func TestEvenIsNew(t *testing.T) {
	h, s := amissInAll(t), setup()
	s.Stock = slices.Grow(s.Stock, 9)
	behind := s.Stock[:8]
	behind[2], behind[7] = 88, 88
	was := fmt.Sprint(s, behind)
	first, second := audit.Even(s, h), audit.Even(s, h)
	first = append(first, "more")
	clear(first[:cap(first)])
	if linesText(second) != allAmiss {
		t.Errorf("the other one is %q", linesText(second))
	}
	holdEven(t, "told", s, h, allAmiss)
	if now := fmt.Sprint(s, behind); now != was {
		t.Errorf("the setup is %s; it was %s", now, was)
	}
}

// P26.1, P26.3: asking changes nothing: the harbour goes on as one that was not
// asked.
func TestAskingChangesNothing(t *testing.T) {
	asked, other := made(t, setup()), made(t, setup())
	for seed, d := 0, draws(5); seed < 400; seed++ {
		c := d.draw(9, asked.Post().Len(), moods[5])
		if a, b := asked.Do(c), other.Do(c); a != b {
			t.Fatalf("%d: %+v: %d, %d", seed, c, a, b)
		}
		audit.Even(setup(), asked)
		audit.Of(asked)
	}
	if a, b := reportText(audit.Of(asked)), reportText(audit.Of(other)); a != b || fmt.Sprint(mail(asked)) != fmt.Sprint(mail(other)) {
		t.Errorf("who was asked says %s; the other one %s", a, b)
	}
}

// mail is what is on its way.
func mail(h *harbour.Harbour) []api.Msg {
	var l []api.Msg
	for _, m := range h.Post().All() {
		l = append(l, m)
	}
	return l
}
