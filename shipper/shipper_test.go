package shipper_test

import (
	"fmt"
	"math"
	"slices"
	"testing"

	"wharfinger/api"
	"wharfinger/parcel"
	"wharfinger/shipper"
)

const (
	most   = api.MaxAmount
	plenty = 4096 // room of a journal that is never full here
)

// noIds are no ids; some of them end in the bits of one.
var noIds = []int{0, -1, -2, -7, -999, 1000, 1001, 1007, most, 1 << 32, 1<<32 + 7, -1 << 32, -1<<32 + 7, math.MinInt, math.MinInt + 7, math.MaxInt}

// noItems are no items.
var noItems = []int{-1, -2, -7, -8, 8, 9, 15, 16, 999, most, 1 << 32, 1<<32 + 2, -1 << 32, -1<<32 + 2, math.MinInt, math.MinInt + 2, math.MaxInt}

// noCounts are numbers of which no parcel is.
var noCounts = []int{0, -1, -2, -most, most + 1, 2 * most, 1 << 32, 1<<32 + 1, -1 << 32, -1<<32 + 1, math.MinInt, math.MinInt + 1, math.MaxInt}

// sent is a parcel that went: order id's, so many of an item.
type sent struct{ id, item, qty int }

// ship is an MShip, of step 2: that says nothing here.
func ship(id, item, qty int) api.Msg {
	return api.Msg{Kind: api.MShip, From: api.Chief, To: api.Shipper, Id: id, Step: 2, A: item, B: qty}
}

// shipOf is the MShip of which a parcel goes.
func shipOf(s sent) api.Msg { return ship(s.id, s.item, s.qty) }

// holdTold hands m in: it is told that it went. Written in numbers, since the
// chief is node 0, the shipper 3, and MShipped 16.
func holdTold(t *testing.T, what any, n *shipper.Node, m api.Msg) {
	t.Helper()
	if got, want := n.Handle(m), []api.Msg{{Kind: 16, From: 3, To: 0, Id: m.Id}}; !slices.Equal(got, want) {
		t.Errorf("%v: to %+v: %+v; want %+v", what, m, got, want)
	}
}

// holdNothing hands m in: nothing is told.
func holdNothing(t *testing.T, what any, n *shipper.Node, m api.Msg) {
	t.Helper()
	if got := n.Handle(m); len(got) > 0 {
		t.Errorf("%v: to %+v: %+v; want nothing", what, m, got)
	}
}

// holdBook holds that these parcels went, in that order, and no others.
func holdBook(t *testing.T, what any, n *shipper.Node, want ...sent) {
	t.Helper()
	book := n.Parcels()
	if book == nil {
		t.Fatalf("%v: there is no book", what)
	}
	var ids []int
	var went [api.MaxItems]int
	for _, s := range want {
		ids = append(ids, s.id)
		went[s.item] += s.qty
		if item, qty, ok := book.Has(s.id); item != s.item || qty != s.qty || !ok {
			t.Errorf("%v: of order %d went %d of %d, %t; want %d of %d", what, s.id, qty, item, ok, s.qty, s.item)
		}
	}
	if got := book.Ids(); !slices.Equal(got, ids) {
		t.Errorf("%v: Ids are %v; want %v", what, got, ids)
	}
	for item := range went {
		if got := book.Went(item); got != went[item] {
			t.Errorf("%v: of item %d went %d; want %d", what, item, got, went[item])
		}
	}
}

// again crashes the node and starts it.
func again(n *shipper.Node) {
	n.Crash(0, 0)
	n.Start()
}

// some are three parcels, neither by id nor by item.
var some = []sent{{7, 2, 5}, {999, 7, most}, {1, 0, 1}}

// withSome is a node by which some went, with room for so many lines beside
// theirs.
func withSome(t *testing.T, beside int) *shipper.Node {
	t.Helper()
	n := shipper.New(len(some) + beside)
	for _, s := range some {
		holdTold(t, "some", n, shipOf(s))
	}
	return n
}

// holdRoom holds that there is room for so many lines and not one more: orders
// from first on go, which must not have gone yet.
func holdRoom(t *testing.T, what any, n *shipper.Node, first, want int) {
	t.Helper()
	for i := range want {
		holdTold(t, what, n, ship(first+i, 1, 1))
	}
	for range 2 {
		holdNothing(t, what, n, ship(first+want, 1, 1))
	}
}

// P21.1: by a new shipper nothing went, and it is up.
func TestNew(t *testing.T) {
	for _, room := range []int{math.MinInt, -1 << 32, -1, 0, 1, 2, 50, 4095, 4096, 4097, 1<<32 + 5, math.MaxInt} {
		n := shipper.New(room)
		if n == nil {
			t.Fatalf("New(%d) is nil", room)
		}
		holdBook(t, room, n)
		if n.Down() {
			t.Errorf("New(%d) is down", room)
		}
		for id := -1; id <= api.MaxId+1; id++ {
			if item, qty, ok := n.Parcels().Has(id); item != 0 || qty != 0 || ok {
				t.Errorf("New(%d): order %d's parcel went", room, id)
			}
		}
		holdTold(t, room, n, ship(7, 2, 5))
		holdBook(t, room, n, sent{7, 2, 5})
	}
}

// P21.1: the journal has so much room, 1 at least.
func TestRoom(t *testing.T) {
	for room, want := range map[int]int{1: 1, 2: 2, 3: 3, 4: 4, 50: 50, 998: 998, 0: 1, -1: 1, -50: 1, -1<<32 + 5: 1, math.MinInt: 1, math.MinInt + 5: 1} {
		n := shipper.New(room)
		holdRoom(t, room, n, 1, want)
		again(n)
		holdNothing(t, room, n, ship(999, 1, 1))
		if got := len(n.Parcels().Ids()); got != want {
			t.Errorf("room %d: %d went", room, got)
		}
	}
}

// P21.1: with as much room as all orders need, and above, all go, and all are
// told behind a crash too.
func TestMostRoom(t *testing.T) {
	for _, room := range []int{999, 1000, 4095, 4096, 4097, 1 << 32, math.MaxInt} {
		n := shipper.New(room)
		var all []sent
		for i := range api.MaxId {
			s := sent{377 * (i + 1) % 1000, i % api.MaxItems, most - i} // neither rising nor falling
			holdTold(t, room, n, shipOf(s))
			all = append(all, s)
		}
		for range 2 {
			holdBook(t, room, n, all...)
			for id := 1; id <= api.MaxId; id++ {
				holdTold(t, room, n, ship(id, 0, 1))
			}
			again(n)
		}
	}
}

// P21.1: Parcels is the node's own book: who was told it asks what went by the
// node till then, also behind a crash.
func TestOwnBook(t *testing.T) {
	n, other := shipper.New(50), shipper.New(50)
	book := n.Parcels()
	hold := func(what string, want ...int) {
		t.Helper()
		if got := book.Ids(); !slices.Equal(got, want) {
			t.Errorf("%s: Ids are %v; want %v", what, got, want)
		}
		if n.Parcels() != book {
			t.Errorf("%s: it is another book", what)
		}
	}
	hold("new")
	holdTold(t, "one", n, ship(7, 2, 5))
	hold("one", 7)
	holdTold(t, "two", n, ship(2, 2, 5))
	hold("two", 7, 2)
	n.Crash(0, 0)
	hold("down")
	n.Start()
	hold("started", 7, 2)
	holdTold(t, "three", n, ship(3, 2, 5))
	hold("three", 7, 2, 3)
	holdBook(t, "the other node", other)
}

// P21.1, R2: what the book tells is the caller's own.
func TestOwnMemory(t *testing.T) {
	n := withSome(t, 5)
	ids := n.Parcels().Ids()
	for i := range ids {
		ids[i] = 77
	}
	_ = append(ids[:0], 78, 79, 80)
	holdBook(t, "the ids are others", n, some...)
	told := n.Handle(ship(5, 1, 1))
	more := n.Handle(ship(5, 1, 1))
	told[0] = api.Msg{Kind: api.MAbort, From: 9, To: 9, Id: 9}
	if more[0] != (api.Msg{Kind: api.MShipped, From: api.Shipper, To: api.Chief, Id: 5}) {
		t.Errorf("two answers share memory: %+v", more)
	}
	holdTold(t, "the answer is another", n, ship(5, 1, 1))
	holdBook(t, "the answer is another", n, append(slices.Clone(some), sent{5, 1, 1})...)
}

// P21.2: the chapter's example.
func TestExample(t *testing.T) {
	n := shipper.New(50)
	for range 2 {
		holdTold(t, "MShip of 2", n, ship(1, 0, 2))
		if got := n.Parcels().Went(0); got != 2 {
			t.Errorf("%d went", got)
		}
	}
}

// P21.2: one order, some and many, in whatever order: each goes, is told, and
// stands behind the others in the book.
func TestHandle(t *testing.T) {
	for _, count := range []int{1, 2, 3, 10, 300, 999} {
		for _, stride := range []int{1, 999, 377, 739} {
			n := shipper.New(plenty)
			var all []sent
			for i := range count {
				s := sent{stride * (i + 1) % 1000, (i * 5) % api.MaxItems, 1 + i*i}
				holdTold(t, stride, n, shipOf(s))
				all = append(all, s)
				if i < 12 || i == count-1 {
					holdBook(t, fmt.Sprint(stride, " ", i), n, all...)
				}
			}
			if t.Failed() {
				t.FailNow()
			}
		}
	}
}

// P21.2: what went is told once more, with the same goods and with others;
// nothing goes, and no line is written.
func TestOnceMore(t *testing.T) {
	n := withSome(t, 3)
	for range 4 {
		for _, s := range some {
			holdTold(t, "the same", n, shipOf(s))
			for item := range api.MaxItems {
				for _, qty := range []int{1, 2, s.qty, most - 1, most} {
					holdTold(t, "others", n, ship(s.id, item, qty))
				}
			}
		}
		holdBook(t, "once more", n, some...)
	}
	holdRoom(t, "once more", n, 10, 3)
}

// P21.2: what is no goods does not go; nor is it told of an order whose parcel
// went, since the book's Ship tells ErrArg ahead of ErrTwice.
func TestNoGoods(t *testing.T) {
	n := withSome(t, 1)
	for _, id := range []int{7, 999, 1, 2, 5, 998} {
		for _, item := range noItems {
			for _, qty := range []int{1, 5, most, 0, most + 1} {
				holdNothing(t, "item", n, ship(id, item, qty))
			}
		}
		for _, qty := range noCounts {
			for item := range api.MaxItems {
				holdNothing(t, "amount", n, ship(id, item, qty))
			}
		}
		holdBook(t, id, n, some...)
	}
	again(n)
	holdBook(t, "behind a crash", n, some...)
	holdRoom(t, "behind it", n, 10, 1)
}

// P21.2: items and amounts at their ends, with room for one line alone: it goes,
// or there is room still.
func TestEnds(t *testing.T) {
	for _, id := range []int{1, 2, 500, 998, 999} {
		for _, item := range []int{-1, 0, 1, 6, 7, 8} {
			for _, qty := range []int{-1, 0, 1, 2, most - 1, most, most + 1} {
				what := fmt.Sprintf("order %d, %d of %d", id, qty, item)
				n := shipper.New(1)
				want := sent{id, item, qty}
				if 0 <= item && item <= 7 && 1 <= qty && qty <= 1000000000 {
					holdTold(t, what, n, shipOf(want))
				} else {
					holdNothing(t, what, n, shipOf(want))
					holdBook(t, what, n)
					want = sent{id, 3, 4}
					holdTold(t, what+", but then", n, shipOf(want))
				}
				holdBook(t, what, n, want)
				again(n)
				holdBook(t, what+", behind a crash", n, want)
			}
		}
	}
}

// P21.2: an answer is the shipper's to the chief, with m's Id and nothing else
// of m, whatever m's Step is.
func TestAnswer(t *testing.T) {
	for _, step := range []int{0, 1, 2, 3, -1, 99, 1<<32 + 1, math.MinInt, math.MaxInt} {
		for _, id := range []int{1, 2, 500, 998, 999} {
			n := shipper.New(50)
			m := api.Msg{Kind: api.MShip, From: api.Chief, To: api.Shipper, Id: id, Step: step, A: 7, B: 9}
			for range 2 {
				holdTold(t, step, n, m)
				holdBook(t, step, n, sent{id, 7, 9})
			}
		}
	}
}

// P21.2: behind the last line nothing goes, and nothing is told but of what went
// already; also behind a crash.
func TestFull(t *testing.T) {
	n := withSome(t, 0)
	for round := range 3 {
		for id := 1; id <= api.MaxId; id++ {
			if id == 1 || id == 7 || id == 999 {
				holdTold(t, round, n, ship(id, 2, 5))
				holdNothing(t, round, n, ship(id, 8, 5))
				holdNothing(t, round, n, ship(id, 2, 0))
			} else {
				holdNothing(t, round, n, ship(id, 2, 5))
			}
		}
		holdBook(t, round, n, some...)
		again(n)
		holdBook(t, "behind a crash", n, some...)
	}
	for _, m := range []api.Msg{ship(2, 2, 5), ship(7, 2, 5), ship(998, 0, 1), ship(2, 8, 1), ship(7, 2, 0)} {
		n := withSome(t, 0)
		n.Handle(m)
		holdBook(t, m, n, some...)
		again(n)
		holdBook(t, m, n, some...)
	}
}

// P21.2: room of 1: the first that goes is the last.
func TestRoomOfOne(t *testing.T) {
	for _, id := range []int{1, 7, 999} {
		n := shipper.New(1)
		holdNothing(t, id, n, ship(id, 2, 0))
		holdTold(t, id, n, ship(id, 2, 5))
		for range 3 {
			holdNothing(t, id, n, ship(id-1, 2, 5))
			holdNothing(t, id, n, ship(id+1, 2, 5))
			holdNothing(t, id, n, ship(500, 2, 5))
			holdTold(t, id, n, ship(id, 2, 5))
			holdTold(t, id, n, ship(id, 3, 6))
			holdBook(t, id, n, sent{id, 2, 5})
			again(n)
		}
	}
}

// strange is messages that nothing comes of, about an order: to another node,
// from anyone but the chief, of every other kind.
func strange(id int) []api.Msg {
	var l []api.Msg
	for _, x := range []int{-1, 0, 1, 2, 3, 4, 5, 6, 7, 3 + 1<<32, 3 - 1<<32, 1 << 32, -1 << 32, -3, math.MinInt, math.MaxInt} {
		if m := ship(id, 1, 1); x != api.Shipper {
			m.To = x
			l = append(l, m)
		}
		if m := ship(id, 1, 1); x != api.Chief {
			m.From = x
			l = append(l, m)
			m.To = x
			l = append(l, m)
		}
	}
	for kind := -2; kind <= 25; kind++ {
		if m := ship(id, 1, 1); kind != api.MShip {
			m.Kind = kind
			l = append(l, m)
		}
	}
	for _, kind := range []int{15 + 1<<32, 15 - 1<<32, -15, math.MinInt, math.MinInt + 15, math.MaxInt} {
		m := ship(id, 1, 1)
		m.Kind = kind
		l = append(l, m)
	}
	return l
}

// P21.2: nothing comes of wrong messages, of an order that went and of one that
// did not, and no line is written.
func TestStrange(t *testing.T) {
	n := withSome(t, 2)
	for range 2 {
		for _, id := range []int{1, 2, 7, 999} {
			for _, m := range strange(id) {
				holdNothing(t, "strange", n, m)
			}
		}
		for _, id := range noIds {
			holdNothing(t, "no id", n, ship(id, 1, 1))
			holdNothing(t, "no id", n, ship(id, 2, 5))
			for _, m := range strange(id) {
				holdNothing(t, "strange, no id", n, m)
			}
		}
		holdNothing(t, "nothing at all", n, api.Msg{})
		holdBook(t, "strange", n, some...)
		again(n)
		holdBook(t, "strange, behind a crash", n, some...)
	}
	holdRoom(t, "strange", n, 10, 2)
}

// A nil node tells zero values.
func TestNil(t *testing.T) {
	var n *shipper.Node
	for range 2 {
		holdNothing(t, "nil", n, ship(1, 1, 1))
		if n.Handle(ship(1, 1, 1)) != nil || n.Handle(api.Msg{}) != nil {
			t.Error("nil: it tells something")
		}
		var none *parcel.Book
		if n.Parcels() != none {
			t.Error("nil: it has a book")
		}
		if n.Down() {
			t.Error("nil: it is down")
		}
		n.Start()
		n.Crash(1, 1)
	}
}

// R3: a node that New did not make panics nowhere, and tells nothing.
func TestNotMade(t *testing.T) {
	for _, n := range []*shipper.Node{{}, new(shipper.Node)} {
		for range 2 {
			holdNothing(t, "not made", n, ship(1, 1, 1))
			holdBook(t, "not made", n)
			n.Crash(0, 0)
			holdNothing(t, "not made", n, ship(1, 1, 1))
			n.Start()
			if n.Down() {
				t.Error("not made: it is down")
			}
		}
	}
}
