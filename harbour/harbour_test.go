package harbour_test

import (
	"fmt"
	"math"
	"slices"
	"testing"

	"wharfinger/api"
	"wharfinger/harbour"
)

// noNodes are numbers that are no nodes, some of them alike in their low bits.
var noNodes = []int{-1, 7, 8, 1<<32 + 1, 1 - 1<<32, 1<<8 + 4, math.MinInt, math.MinInt + 3, math.MaxInt}

// noIds are numbers that are no ids.
var noIds = []int{0, -1, -7, 1000, 1<<32 + 7, 7 - 1<<32, 1<<16 + 7, math.MinInt, math.MinInt + 7, math.MaxInt}

// row is so many times a.
func row(a, times int) []int { return slices.Repeat([]int{a}, times) }

// P25.1: each bound of May, at it, below it and above it; New goes by May.
func TestMay(t *testing.T) {
	if !harbour.May(setup()) {
		t.Fatal("the setup that all else is changed from may not be")
	}
	lists := map[string]func(s *api.Setup) *[]int{
		"Stock": func(s *api.Setup) *[]int { return &s.Stock }, "Money": func(s *api.Setup) *[]int { return &s.Money }, "Holds": func(s *api.Setup) *[]int { return &s.Holds },
	}
	for name, list := range lists {
		longest := 8
		if name == "Holds" {
			longest = 3
		}
		for n := range 20 {
			for _, a := range []int{0, 1, most} {
				holdMay(t, fmt.Sprint(name, " of ", n, " times ", a), n <= longest, func(s *api.Setup) { *list(s) = row(a, n) })
			}
			for at := range n {
				for _, a := range []int{-1, most + 1, -most, math.MinInt, math.MaxInt, 1 << 32, -1 << 32} {
					holdMay(t, fmt.Sprint(name, " of ", n, " with ", a, " at ", at), false, func(s *api.Setup) { *list(s) = row(5, n); (*list(s))[at] = a })
				}
			}
		}
		holdMay(t, name+" nil", true, func(s *api.Setup) { *list(s) = nil })
		holdMay(t, name+" with more behind its length", true, func(s *api.Setup) { *list(s) = append(row(5, longest), -1, most+1)[:longest] })
	}
	numbers := map[string]func(s *api.Setup) *int{
		"Orders": func(s *api.Setup) *int { return &s.Orders }, "Room": func(s *api.Setup) *int { return &s.Room }, "Tries": func(s *api.Setup) *int { return &s.Tries },
	}
	for name, number := range numbers {
		greatest := map[string]int{"Orders": 64, "Room": 4096, "Tries": 20}[name]
		for _, n := range []int{1, 2, greatest - 1, greatest} {
			holdMay(t, fmt.Sprint(name, " ", n), true, func(s *api.Setup) { *number(s) = n })
		}
		for _, n := range []int{0, -1, greatest + 1, -greatest, math.MinInt, math.MaxInt, 1<<32 + 1, 1 - 1<<32} {
			holdMay(t, fmt.Sprint(name, " ", n), false, func(s *api.Setup) { *number(s) = n })
		}
	}
	holdMay(t, "the least", true, func(s *api.Setup) { *s = api.Setup{Orders: 1, Room: 1, Tries: 1} })
	holdMay(t, "the greatest", true, func(s *api.Setup) {
		*s = api.Setup{Stock: row(most, 8), Money: row(most, 8), Holds: row(most, 3), Orders: 64, Room: 4096, Tries: 20}
	})
	holdMay(t, "nothing", false, func(s *api.Setup) { *s = api.Setup{} })
}

// holdMay holds whether a setup may be that is changed so, and what New tells
// of it; neither changes it.
func holdMay(t *testing.T, what string, may bool, change func(s *api.Setup)) {
	t.Helper()
	s := setup()
	change(&s)
	was := fmt.Sprint(s)
	if harbour.May(s) != may {
		t.Errorf("%s: May is not %t", what, may)
	}
	h, e := harbour.New(s)
	if may && (h == nil || e != api.OK) || !may && (h != nil || e != api.ErrArg) {
		t.Errorf("%s: New tells %v, %d", what, h != nil, e)
	}
	if fmt.Sprint(s) != was {
		t.Errorf("%s: the setup is %+v; it was %s", what, s, was)
	}
}

// P25.1: what New makes, of setups small and great: the books say what there
// is, and nothing happened.
func TestNew(t *testing.T) {
	for _, x := range []struct {
		s    api.Setup
		want string
	}{
		{api.Setup{Orders: 1, Room: 1, Tries: 1}, "; ; ; ; 0; ; ; "},
		{api.Setup{Stock: []int{}, Money: []int{7}, Holds: []int{4}, Orders: 2, Room: 9, Tries: 4}, "; ; 7; ; 0; 4; ; "},
		{api.Setup{Stock: []int{3, 0, 1}, Holds: []int{0, 6}, Orders: 2, Room: 9, Tries: 4}, "3 0 1; 3 0 1; ; ; 0; 0 6; ; "},
		{setup(), "9 20; 9 20; 500 70; ; 0; 8 12 10; ; "},
		{
			api.Setup{Stock: []int{1, 2, 3, 4, 5, 6, 7, most}, Money: []int{most, 8, 7, 6, 5, 4, 3, 2}, Holds: []int{0, most, 1}, Orders: 64, Room: 4096, Tries: 20},
			"1 2 3 4 5 6 7 1000000000; 1 2 3 4 5 6 7 1000000000; 1000000000 8 7 6 5 4 3 2; ; 0; 0 1000000000 1; ; ",
		},
	} {
		h := made(t, x.s)
		if got := viewOf(h).ofBooks(); got != x.want {
			t.Errorf("of %+v the books are %q; want %q", x.s, got, x.want)
		}
		holdWay(t, x.s, h, "")
		for _, id := range []int{0, 1, 7, 999, 1000} {
			holdOrder(t, x.s, h, id, "; none, none; - - -; ")
		}
		if h.Desk().Open() != 0 || h.Settle(9) != 0 {
			t.Errorf("of %+v something is to be done", x.s)
		}
	}
}

// P25.1, R2: a setup that is changed behind New, and what lay behind the length
// of its lists, is not seen, not even behind a crash.
func TestSetupChanged(t *testing.T) {
	s := setup()
	s.Stock, s.Holds = append(s.Stock, 3, 3)[:2], append(s.Holds[:2], 77)[:2]
	h := made(t, s)
	was := viewOf(h).text([]int{7})
	for _, l := range [][]int{s.Stock[:4], s.Money, s.Holds[:3]} {
		for i := range l {
			l[i] = 99
		}
	}
	s.Orders, s.Room, s.Tries = 1, 1, 1
	for range 2 {
		if now := viewOf(h).text([]int{7}); now != was {
			t.Errorf("there is seen\n%s; it was\n%s", now, was)
		}
		for node := range api.Nodes {
			acts(t, h, crash(node, 0, 0), start(node))
		}
	}
	if holds := h.Service(api.Fraud).Left(); holds != 0 {
		t.Errorf("Fraud has %d", holds)
	}
}

// P25.1: each node is there by its number alone, it is the same one each time,
// and it is its own harbour's.
func TestNodes(t *testing.T) {
	h, other := made(t, setup()), made(t, setup())
	for number := -2; number < 10; number++ {
		if (h.Keeper(number) != nil) != (number == api.Stock || number == api.Purse) || h.Keeper(number) != h.Keeper(number) {
			t.Errorf("Keeper(%d) is %v", number, h.Keeper(number))
		}
		if (h.Service(number) != nil) != (number == api.Coupon || number == api.Credit || number == api.Fraud) || h.Service(number) != h.Service(number) {
			t.Errorf("Service(%d) is %v", number, h.Service(number))
		}
	}
	for _, number := range noNodes {
		if h.Keeper(number) != nil || h.Service(number) != nil {
			t.Errorf("there is a node %d", number)
		}
	}
	if h.Desk() == nil || h.Desk() != h.Desk() || h.Shipper() == nil || h.Shipper() != h.Shipper() || h.Post() == nil || h.Post() != h.Post() {
		t.Error("desk, shipper, post")
	}
	if h.Keeper(api.Stock).Goods() == nil || h.Keeper(api.Stock).Money() != nil || h.Keeper(api.Purse).Money() == nil || h.Keeper(api.Purse).Goods() != nil {
		t.Error("Stock and Purse are not what they should be")
	}
	kept, lead, post := h.Keeper(api.Stock), h.Desk().Chief(), h.Post()
	acts(t, h, submit(7, 0), deliver(0), force(api.Stock, 7, true), crash(api.Purse, 0, 0))
	if kept.State(7) != api.VForcedYes || lead.State(7) != api.SPreparing || post.Len() != 2 || !h.Keeper(api.Purse).Down() {
		t.Error("what was told ahead of all is not the harbour's own")
	}
	if got, first := viewOf(other).text([]int{7}), viewOf(made(t, setup())).text([]int{7}); got != first {
		t.Errorf("the other one is\n%s; it was\n%s", got, first)
	}
}

// takes counts how many orders' messages of a kind a node answers to, which has
// a line for each.
func takes(handle func(m api.Msg) []api.Msg, kind, to int) int {
	for id := 1; id <= api.MaxId; id++ {
		if len(handle(api.Msg{Kind: kind, From: api.Chief, To: to, Id: id, A: 1, B: 1})) == 0 {
			return id - 1
		}
	}
	return api.MaxId
}

// P25.1: each journal has Room; the desk goes by Orders and by Tries. (The nodes
// are told by hand here what fills their journals: no script fills all of them.)
func TestRooms(t *testing.T) {
	for _, room := range []int{1, 2, 50, 500} {
		s := api.Setup{Stock: row(most, 8), Money: row(most, 8), Holds: row(most, 3), Orders: 64, Room: room, Tries: 3}
		h := made(t, s)
		for node := api.Stock; node <= api.Purse; node++ {
			if n := takes(h.Keeper(node).Handle, api.MPrepare, node); n != room {
				t.Errorf("%s has room for %d; want %d", names[node], n, room)
			}
		}
		for node := api.Coupon; node <= api.Fraud; node++ {
			if n := takes(h.Service(node).Handle, api.MDo, node); n != room {
				t.Errorf("%s has room for %d; want %d", names[node], n, room)
			}
		}
		if n := takes(h.Shipper().Handle, api.MShip, api.Shipper); n != room {
			t.Errorf("the shipper has room for %d; want %d", n, room)
		}
		for id := 1; id <= 64; id++ { // each begin has a line, and so has that both are asked
			want := api.OK
			if 2*id-1 > room {
				want = api.ErrFull
			}
			if e := h.Do(submit(id, 0)); e != want {
				t.Errorf("room %d: order %d: %d; want %d", room, id, e, want)
			}
		}
	}
	for _, orders := range []int{1, 2, 63, 64} {
		s := setup()
		s.Orders = orders
		h := made(t, s)
		for id := 1; id <= orders; id++ {
			acts(t, h, submit(id, 1))
		}
		holdRefused(t, orders, h, submit(900, 1), api.ErrFull, 1, orders)
		if h.Desk().Status(900) != api.SRejected || h.Desk().Open() != orders {
			t.Errorf("of %d at a time %d are open", orders, h.Desk().Open())
		}
	}
	for _, tries := range []int{1, 2, 20} {
		s := setup()
		s.Tries = tries
		h := made(t, s)
		acts(t, h, submit(7, 1))
		for i := range tries {
			acts(t, h, ring(api.Chief, 7))
			holdOrder(t, fmt.Sprint(tries, " tries, ", i), h, 7, "forward 0/1; none, none; - - -; ")
		}
		acts(t, h, ring(api.Chief, 7))
		holdOrder(t, fmt.Sprint(tries, " tries"), h, 7, "undoing 0/1; none, none; - - -; aborts")
	}
}

// P25.1: the post has room for 256: one more, and the first one is lost.
func TestPostFull(t *testing.T) {
	h := made(t, setup())
	acts(t, h, submit(7, 0))
	for n := 3; n <= 256; n++ {
		acts(t, h, double(1))
		if h.Post().Len() != n || h.Post().Lost() != 0 {
			t.Fatalf("%d are on their way, %d are lost; want %d", h.Post().Len(), h.Post().Lost(), n)
		}
	}
	l := way(h)
	if l[0].To != api.Stock || l[255].To != api.Purse {
		t.Errorf("on their way are %s", msgsText(l))
	}
	acts(t, h, deliver(255))
	if l = way(h); len(l) != 256 || l[0].To != api.Stock || l[255] != (api.Msg{Kind: api.MYes, From: api.Purse, Id: 7}) || h.Post().Lost() != 0 {
		t.Errorf("on their way are %s", msgsText(l))
	}
	acts(t, h, submit(8, 3))
	if l = way(h); len(l) != 256 || l[0].To != api.Purse || msgText(l[255]) != "do chief>credit 8 (3 0)" || h.Post().Lost() != 1 {
		t.Errorf("on their way are %s", msgsText(l))
	}
	acts(t, h, cancel(8)) // three messages, and so many are lost
	if l = way(h); len(l) != 256 || msgsText(l[252:]) != "do chief>credit 8 (3 0), abort chief>stock 8, abort chief>purse 8, undo chief>fraud 8.2" || h.Post().Lost() != 4 {
		t.Errorf("on their way are %s", msgsText(l))
	}
	acts(t, h, double(0))
	if h.Post().Len() != 256 || h.Post().Lost() != 5 {
		t.Errorf("%d are on their way, %d are lost", h.Post().Len(), h.Post().Lost())
	}
	for n := 255; n >= 0; n-- {
		acts(t, h, drop(0))
		if h.Post().Len() != n || h.Post().Lost() != 5 {
			t.Fatalf("%d are on their way; want %d", h.Post().Len(), n)
		}
	}
}

// every is a command of each kind, and of kinds that there are not.
func every() []api.Cmd {
	l := []api.Cmd{submit(7, 0), submit(0, 0), {Kind: 0}, {Kind: 11}, {Kind: -1}, {Kind: math.MinInt}, {Kind: math.MaxInt}}
	for kind := api.CSubmit; kind <= api.CStart; kind++ {
		for _, node := range []int{-1, 0, 1, 2, 3, 4, 6, 7, math.MinInt, math.MaxInt} {
			for _, id := range []int{math.MinInt, -1, 0, 7, 1000} {
				l = append(l, api.Cmd{Kind: kind, Node: node, Id: id, I: id}, api.Cmd{Kind: kind, Node: node, Id: id, I: 0, Yes: true})
			}
		}
	}
	return l
}

// P25.4: a nil harbour tells ErrArg, and zero values; so does one that New did
// not make.
func TestNil(t *testing.T) {
	var none *harbour.Harbour
	for what, h := range map[string]*harbour.Harbour{"nil": none, "zero": {}} {
		for _, c := range every() {
			if e := h.Do(c); e != api.ErrArg {
				t.Errorf("%s: %+v: %d", what, c, e)
			}
		}
		for number := -1; number < 8; number++ {
			if h.Keeper(number) != nil || h.Service(number) != nil || h.Trace(number) != nil || h.Forced(number) {
				t.Errorf("%s: there is something of %d", what, number)
			}
		}
		for _, rounds := range []int{math.MinInt, -1, 0, 1, 1000, 1001, math.MaxInt} {
			if n := h.Settle(rounds); n != 0 {
				t.Errorf("%s: Settle(%d): %d", what, rounds, n)
			}
		}
		if h.Desk() != nil || h.Shipper() != nil || h.Post() != nil {
			t.Errorf("%s: there is something", what)
		}
	}
}
