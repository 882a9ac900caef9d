package chief_test

import (
	"fmt"
	"math"
	"slices"
	"strings"
	"testing"

	"wharfinger/api"
	"wharfinger/chief"
)

// wrongOrders are orders that may not be, with the id of made.
func wrongOrders() []api.Order {
	var l []api.Order
	change := func(steps int, f func(o *api.Order)) {
		o := made(7, steps)
		o.Steps = slices.Clone(o.Steps)
		f(&o)
		l = append(l, o)
	}
	for _, id := range noIds {
		change(1, func(o *api.Order) { o.Id = id })
	}
	for _, n := range []int{-1, 8, 9, 1 << 32, 2 - 1<<32, math.MinInt, math.MaxInt} {
		change(0, func(o *api.Order) { o.Item = n })
		change(2, func(o *api.Order) { o.Client = n })
	}
	for _, n := range []int{0, -1, most + 1, 1<<32 + 5, math.MinInt, math.MaxInt} {
		change(0, func(o *api.Order) { o.Qty = n })
		change(1, func(o *api.Order) { o.Price = n })
		change(3, func(o *api.Order) { o.Steps[2].N = n })
	}
	for _, service := range []int{-1, 0, 1, 2, 3, 7, 8, 4 + 1<<32, math.MinInt, math.MaxInt} {
		change(2, func(o *api.Order) { o.Steps[1].Service = service })
	}
	change(3, func(o *api.Order) { o.Steps[2].Service = o.Steps[0].Service })
	change(3, func(o *api.Order) { o.Steps = append(o.Steps, o.Steps[0]) })
	change(3, func(o *api.Order) { o.Steps = append(o.Steps, api.Step{}) })
	change(0, func(o *api.Order) { o.Steps = make([]api.Step, 8) })
	change(3, func(o *api.Order) { o.Steps = slices.Repeat(o.Steps, 3)[:8] })
	return append(l, api.Order{})
}

// P22.1: what may not be is not begun, and nothing comes of it.
func TestBeginWrong(t *testing.T) {
	for i, o := range wrongOrders() {
		n := chief.New(2, 1, 3)
		holdStep(t, i, n, step{kind: begins, o: o}, nil, api.ErrArg)
		holdNone(t, i, n, o.Id)
		holdIds(t, i, n)
		// The one line that there is room for is still free.
		holdStep(t, i, n, taken(made(7, 0), "begin"), nil, api.OK)
	}
}

// P22.1: the first and the last of all that an order has.
func TestBeginEdges(t *testing.T) {
	for i, o := range []api.Order{
		{Id: 1, Item: 0, Qty: 1, Client: 0, Price: 1},
		{Id: 999, Item: 7, Qty: most, Client: 7, Price: most},
		{Id: 1, Item: 7, Qty: 1, Client: 0, Price: most, Steps: []api.Step{{Service: api.Coupon, N: 1}}},
		{Id: 999, Item: 0, Qty: most, Client: 7, Price: 1, Steps: []api.Step{{Service: api.Fraud, N: most}, {Service: api.Coupon, N: 1}, {Service: api.Credit, N: 2}}},
	} {
		n := chief.New(1, 50, 3)
		want := "askS askP"
		if len(o.Steps) > 0 {
			want = "do0"
		}
		holdStep(t, i, n, step{kind: begins, o: o}, sends(o, want), api.OK)
		before := nodeText(n)
		n.Crash(0, 0)
		n.Start()
		got, _, ok := n.Facts(o.Id)
		if fmt.Sprint(got) != fmt.Sprint(o) || !ok || len(o.Steps) > 0 && nodeText(n) != before {
			t.Errorf("%v is %v behind a crash, %t", o, got, ok)
		}
	}
}

// P22.1: there is one of that id, at whatever place, also where it is Over.
func TestBeginTwice(t *testing.T) {
	for _, place := range places {
		w := at(t, place, 50, 3)
		before := nodeText(w.n)
		for steps := range 4 {
			holdStep(t, place, w.n, step{kind: begins, o: made(7, steps)}, nil, api.ErrTwice)
		}
		if nodeText(w.n) != before {
			t.Errorf("%s: it was %s, and is %s", place, before, nodeText(w.n))
		}
		w.holdBells(t, place, 7)
	}
}

// P22.1: of several errors the first one of the sentence is told.
func TestBeginFirstError(t *testing.T) {
	n := chief.New(1, 2, 3)
	n.Begin(made(7, 0))
	wrong := made(7, 0)
	wrong.Qty = 0
	holdStep(t, "full, and there", n, step{kind: begins, o: wrong}, nil, api.ErrArg)
	holdStep(t, "full, and there", n, step{kind: begins, o: made(7, 1)}, nil, api.ErrTwice)
	holdStep(t, "full", n, step{kind: begins, o: made(8, 1)}, nil, api.ErrFull)
	n.Crash(0, 0)
	for _, o := range append(wrongOrders(), made(7, 0), made(8, 1)) {
		holdStep(t, "down", n, step{kind: begins, o: o}, nil, api.ErrDown)
	}
}

// P22.1: as many orders as may be under way, and one more; and one more behind
// one that is Over.
func TestHowMany(t *testing.T) {
	for orders, want := range map[int]int{1: 1, 2: 2, 63: 63, 64: 64, 65: 64, 0: 1, -1: 1, -64: 1, 1 << 32: 64, 5 - 1<<32: 1, math.MinInt: 1, math.MaxInt: 64} {
		n := chief.New(orders, 4096, 3)
		for id := 1; id <= want; id++ {
			holdStep(t, orders, n, taken(made(id, 1), "begin"), sends(made(id, 1), "do0"), api.OK)
		}
		for range 2 {
			holdStep(t, orders, n, taken(made(want+1, 1), "begin"), nil, api.ErrFull)
		}
		holdNone(t, orders, n, want+1)
		last := made(want, 1)
		for _, word := range []string{"cancel", "ackS", "ackP"} {
			taken(last, word).on(n)
			holdStep(t, word, n, taken(made(want+1, 1), "begin"), nil, api.ErrFull)
		}
		n.Handle(heard(last, "undone0"))
		holdStep(t, "over", n, taken(made(want+1, 1), "begin"), sends(made(want+1, 1), "do0"), api.OK)
		holdStep(t, "over", n, taken(made(want+2, 1), "begin"), nil, api.ErrFull)
		n.Crash(0, 0)
		n.Start()
		holdStep(t, "behind a crash", n, taken(made(want+2, 1), "begin"), nil, api.ErrFull)
	}
}

// P22.1: which places leave room for another one: those that are Over, accepted
// or not.
func TestUnderWay(t *testing.T) {
	over := map[string]bool{
		"done0 done1 yesS yesP shipped ackP ackS": true, "done0 done1 yesS yesP damageS ackP shipped": true,
		"done0 done1 yesS yesP damageS ackP shipped accept": true, "done0 done1 yesS yesP damageS damageP shipped": true,
		"cancel ackS ackP undone1 undone0": true, "cancel damageP ackS undone1 undone0": true, "cancel damageP ackS undone1 undone0 accept": true,
	}
	for _, place := range places {
		w := newPair(1, 50, 3)
		w.lead(t, made(7, 2), "begin "+place)
		no := api.ErrFull
		if over[place] {
			no = api.OK
			delete(over, place)
		}
		if _, e := w.n.Begin(made(8, 2)); e != no {
			t.Errorf("%s: Begin of another one: %d; want %d", place, e, no)
		}
	}
	if len(over) != 0 {
		t.Errorf("no places: %v", over)
	}
}

// P22.3: it rings as often as its tries, and sends what is needed; once more,
// and it turns, be its steps under way or the keepers asked.
func TestRingTooOften(t *testing.T) {
	for tries, want := range map[int]int{1: 1, 2: 2, 3: 3, 19: 19, 20: 20, 21: 20, 0: 1, -1: 1, 1 << 32: 20, 3 - 1<<32: 1, math.MinInt: 1, math.MaxInt: 20} {
		for _, c := range []struct{ words, needs, turned string }{
			{"begin", "do0", "--/--/ turned"}, {"begin done0", "do1", "x-/--/ turned"},
			{"begin done0 done1", "askS askP", "xx/--/ asked turned"}, {"begin done0 done1 yesP", "askS askP", "xx/--/ asked turned"},
		} {
			n, o := chief.New(1, 50, tries), made(7, 2)
			for _, word := range strings.Fields(c.words) {
				taken(o, word).on(n)
			}
			what := fmt.Sprint(c.words, ", tries ", tries)
			for range want {
				holdStep(t, what, n, taken(o, "ring"), sends(o, c.needs), api.OK)
			}
			holdStep(t, what, n, taken(o, "ring"), sends(o, "abortS abortP undo1"), api.OK)
			holdOrder(t, what, n, o, api.SUndoing, c.turned)
			// Turned is sure.
			n.Crash(0, 0)
			n.Start()
			holdOrder(t, what, n, o, api.SUndoing, c.turned)
		}
	}
}

// P22.3: behind each thing that is new the bell has all its tries again; a yes
// that does not decide, and what comes to nothing, gives none back.
func TestTriesAgain(t *testing.T) {
	n, o := chief.New(1, 50, 2), made(7, 2)
	n.Begin(o)
	for _, word := range []string{"done0", "done1"} {
		n.Ring(7)
		n.Ring(7)
		n.Handle(heard(o, word))
	}
	for _, word := range []string{"yesS", "yesS", "done1", "queryS", "ackS"} {
		n.Handle(heard(o, word))
	}
	holdStep(t, "1", n, taken(o, "ring"), sends(o, "askS askP"), api.OK)
	n.Handle(heard(o, "yesS"))
	holdStep(t, "2", n, taken(o, "ring"), sends(o, "askS askP"), api.OK)
	n.Handle(heard(o, "yesS"))
	holdStep(t, "3", n, taken(o, "ring"), sends(o, "abortS abortP undo1"), api.OK)
}

// P22.3: at each place it rings for what is needed there, a decided one for
// ever; where it is Over, or there is no order, nothing rings.
func TestRingEverywhere(t *testing.T) {
	for _, tries := range []int{1, 2, 3} {
		for _, place := range places {
			w := at(t, place, 50, tries)
			for _, id := range append([]int{1, 6, 8, 999}, noIds...) {
				w.holdStep(t, place, step{kind: rings, id: id})
			}
			for range 3*tries + 3 {
				w.holdStep(t, place, taken(made(7, 2), "ring"))
			}
		}
	}
}

// P22.3: one that is decided is rung for without an end, and told the same.
func TestRingForEver(t *testing.T) {
	for words, needs := range map[string]string{
		"cancel": "abortS abortP undo1", "cancel undone1 ackS": "abortP undo0", "cancel ackS ackP": "undo1", "cancel undone1 undone0 ackP": "abortS",
		"done0 done1 yesS yesP": "commitS commitP ship", "done0 done1 yesS yesP shipped": "commitS commitP",
		"done0 done1 yesS yesP ackS ackP": "ship", "done0 done1 yesS yesP damageP": "commitS ship", "cancel damageS accept": "abortP undo1",
	} {
		for _, tries := range []int{1, 2, 20} {
			n, o := chief.New(1, 50, tries), made(7, 2)
			n.Begin(o)
			for _, word := range strings.Fields(words) {
				taken(o, word).on(n)
			}
			before := nodeText(n)
			for range 100 {
				holdStep(t, words, n, taken(o, "ring"), sends(o, needs), api.OK)
			}
			if nodeText(n) != before {
				t.Errorf("%s: it was %s, and is %s", words, before, nodeText(n))
			}
		}
	}
}

// P22.3: Cancel and Accept at each place.
func TestCancelAndAccept(t *testing.T) {
	for _, place := range places {
		state := at(t, place, 50, 3).n.State(7)
		for _, word := range []string{"cancel", "accept"} {
			want := api.ErrState
			if word == "cancel" && (state == api.SForward || state == api.SPreparing) || word == "accept" && state == api.SDamaged {
				want = api.OK
			}
			w := at(t, place, 50, 3)
			w.holdStep(t, place, taken(made(7, 2), word))
			if _, e := taken(made(7, 2), word).on(at(t, place, 50, 3).n); e != want {
				t.Errorf("%s: %s is %d; want %d", place, word, e, want)
			}
			w.holdStep(t, place, taken(made(7, 2), word))
			// Both are sure.
			w.holdStep(t, place, step{kind: goesDown})
			w.holdStep(t, place, step{kind: starts})
			w.holdBells(t, place, 7)
		}
	}
}

// P22.3, P22.4: of what is no order nothing is told.
func TestNoOrder(t *testing.T) {
	for _, place := range places {
		n := at(t, place, 50, 3).n
		before := nodeText(n)
		for _, id := range append([]int{1, 6, 8, 500, 998, 999}, noIds...) {
			for _, kind := range []int{cancels, accepts} {
				holdStep(t, place, n, step{kind: kind, id: id}, nil, api.ErrNone)
			}
			holdStep(t, place, n, step{kind: rings, id: id}, nil, api.OK)
			holdNone(t, place, n, id)
		}
		if nodeText(n) != before {
			t.Errorf("%s: it was %s, and is %s", place, before, nodeText(n))
		}
	}
}

// P22.4: a nil node.
func TestNil(t *testing.T) {
	var n *chief.Node
	for range 2 {
		for _, word := range []string{"begin", "cancel", "accept"} {
			holdStep(t, "nil", n, taken(made(7, 2), word), nil, api.ErrArg)
		}
		for _, o := range wrongOrders() {
			holdStep(t, "nil", n, step{kind: begins, o: o}, nil, api.ErrArg)
			holdStep(t, "nil", n, step{kind: cancels, id: o.Id}, nil, api.ErrArg)
			holdStep(t, "nil", n, step{kind: accepts, id: o.Id}, nil, api.ErrArg)
			holdStep(t, "nil", n, step{kind: rings, id: o.Id}, nil, api.OK)
			holdNone(t, "nil", n, o.Id)
		}
		for _, word := range append(works, "ring") {
			holdStep(t, "nil", n, taken(made(7, 2), word), nil, api.OK)
		}
		for _, m := range strange(made(7, 2)) {
			holdStep(t, "nil", n, step{m: m}, nil, api.OK)
		}
		holdNone(t, "nil", n, 7)
		holdIds(t, "nil", n)
		n.Ids()(nil)
		n.Crash(1, 1)
		if n.Down() {
			t.Error("nil is down")
		}
		n.Start()
	}
}

// R3: a node that New did not make does not panic either.
func TestNotMade(t *testing.T) {
	n := new(chief.Node)
	for range 2 {
		for _, word := range append(works, "begin", "cancel", "accept", "ring") {
			taken(made(7, 2), word).on(n)
		}
		for range n.Ids() {
			t.Error("it has an order")
		}
		holdNone(t, "not made", n, 7)
		n.Down()
		n.Start()
		n.Crash(0, 0)
	}
}

// R2: what was handed in and what was told is the caller's own, and nodes keep
// to themselves.
func TestOwnMemory(t *testing.T) {
	n, other := chief.New(2, 50, 3), chief.New(2, 50, 3)
	o := made(7, 2)
	steps := append(slices.Clone(o.Steps), api.Step{Service: 99, N: 99})
	o.Steps = steps[:2]
	told, _ := n.Begin(o)
	if steps[2] != (api.Step{Service: 99, N: 99}) || o.Steps[0] != made(7, 2).Steps[0] {
		t.Errorf("what was handed in is %v", steps)
	}
	clear(steps)
	for range 2 {
		got, f, _ := n.Facts(7)
		again, g, _ := n.Facts(7)
		for _, l := range [][]bool{f.Done, f.Undone, g.Done, g.Undone} {
			l = l[:cap(l)]
			for i := range l {
				if l[i] {
					t.Error("lists of one answer share memory")
				}
				l[i] = true
			}
		}
		clear(got.Steps[:cap(got.Steps)])
		clear(again.Steps[:cap(again.Steps)])
		clear(told[:cap(told)])
		told = n.Ring(7)
		holdOrder(t, "told", n, made(7, 2), api.SForward, "--/--/")
	}
	holdIds(t, "the other one", other)
	holdStep(t, "told", n, taken(made(7, 2), "done0"), sends(made(7, 2), "do1"), api.OK)
	n.Crash(0, 0)
	if other.Down() {
		t.Error("the other one is down")
	}
	holdStep(t, "the other one", other, taken(made(7, 1), "begin"), sends(made(7, 1), "do0"), api.OK)
}
