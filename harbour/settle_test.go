package harbour_test

import (
	"fmt"
	"math"
	"testing"

	"wharfinger/api"
	"wharfinger/harbour"
)

// P25.4: one round delivers what is on its way, and not what is told in answer;
// then the chief's bells ring, by id, then Stock's, then Purse's.
func TestOneRound(t *testing.T) {
	h := made(t, setup())
	acts(t, h, submit(9, 0), submit(7, 0), submit(8, 1))
	if n := h.Settle(1); n != 1 {
		t.Errorf("%d rounds", n)
	}
	holdWay(t, "a round", h, "yes stock>chief 9, yes purse>chief 9, yes stock>chief 7, yes purse>chief 7, done credit>chief 8, "+
		"prepare chief>stock 7 (1 2), prepare chief>purse 7 (0 30), do chief>credit 8 (3 0), prepare chief>stock 9 (1 2), prepare chief>purse 9 (0 30), "+
		"ask stock>chief 7, ask stock>purse 7, ask stock>chief 9, ask stock>purse 9, ask purse>chief 7, ask purse>stock 7, ask purse>chief 9, ask purse>stock 9")
	holdOrder(t, "a round", h, 7, "preparing; ready, ready; - - -; ")
	holdOrder(t, "a round", h, 8, "forward 0/1; none, none; - did -; done0")
	h.Settle(1)
	holdOrder(t, "two rounds", h, 7, "committed; ready, ready; - - -; commits")
	holdOrder(t, "two rounds", h, 8, "preparing; none, none; - did -; done0")
}

// P25.4: a round starts who is down ahead of delivering, the chief with all that
// comes of its start ahead of its bells.
func TestRoundStarts(t *testing.T) {
	h := made(t, setup())
	acts(t, h, submit(7, 0))
	for node := range api.Nodes {
		acts(t, h, crash(node, 9, 0))
	}
	if n := h.Settle(1); n != 1 || len(viewOf(h).down()) != 0 {
		t.Errorf("%d rounds, down are %v", n, viewOf(h).down())
	}
	holdOrder(t, "behind it", h, 7, "undoing 0/0; ready, ready; - - -; aborts")
	holdWay(t, "behind it", h, "yes stock>chief 7, yes purse>chief 7, abort chief>stock 7, abort chief>purse 7, "+
		"ask stock>chief 7, ask stock>purse 7, ask purse>chief 7, ask purse>stock 7")
	h = upTo(t, 3, 1) // its first step is on its way back
	for node := range api.Nodes {
		acts(t, h, crash(node, 0, 0))
	}
	h.Settle(1)
	holdOrder(t, "behind it", h, 7, "forward 1/3; none, none; - did -; done0")
	holdWay(t, "behind it", h, "do chief>coupon 7.1 (2 0), do chief>coupon 7.1 (2 0)")
}

// stuck is a harbour that never comes to rest: the chief has no room for
// anything but that the order began.
func stuck(t *testing.T) *harbour.Harbour {
	t.Helper()
	s := setup()
	s.Room = 1
	h := made(t, s)
	acts(t, h, submit(7, 0))
	holdWay(t, "stuck", h, "")
	return h
}

// P25.4: so many rounds as are asked for, 0 to 1000, others cut to that.
func TestRounds(t *testing.T) {
	for rounds, want := range map[int]int{
		0: 0, 1: 1, 2: 2, 17: 17, 999: 999, 1000: 1000, 1001: 1000, 5000: 1000, 1<<32 + 1: 1000, math.MaxInt: 1000,
		-1: 0, -1000: 0, -1001: 0, 1 - 1<<32: 0, math.MinInt: 0, math.MinInt + 1: 0,
	} {
		h := stuck(t)
		was := viewOf(h).text([]int{7})
		if n := h.Settle(rounds); n != want {
			t.Errorf("Settle(%d): %d rounds; want %d", rounds, n, want)
		}
		if now := viewOf(h).text([]int{7}); now != was {
			t.Errorf("Settle(%d): there is seen\n%s; it was\n%s", rounds, now, was)
		}
		h = upTo(t, 0, 0)
		acts(t, h, crash(api.Fraud, 0, 0))
		was = viewOf(h).text([]int{7})
		if n := h.Settle(min(rounds, 0)); n != 0 || viewOf(h).text([]int{7}) != was {
			t.Errorf("Settle(%d): %d rounds, and there is seen\n%s; it was\n%s", min(rounds, 0), n, viewOf(h).text([]int{7}), was)
		}
	}
}

// P25.4: how many rounds an order takes, that all is at rest behind them, and
// that so many at once are the same as one by one.
func TestRoundsOfOne(t *testing.T) {
	for steps, want := range []int{6, 8, 10, 12} {
		h := upTo(t, steps, 0)
		n := h.Settle(1000)
		if n != want || h.Desk().Status(7) != api.SShipped {
			t.Errorf("%d steps: %d rounds; want %d; %s", steps, n, want, h.Desk().Tell(7))
		}
		holdWay(t, steps, h, "")
		for rounds := range n + 3 {
			one, more := upTo(t, steps, 0), upTo(t, steps, 0)
			got := one.Settle(rounds)
			for range got {
				if more.Settle(1) != 1 {
					t.Errorf("%d steps: it ends ahead of %d rounds", steps, got)
				}
			}
			if got != min(rounds, n) || viewOf(one).text([]int{7}) != viewOf(more).text([]int{7}) {
				t.Errorf("%d steps: Settle(%d): %d rounds; there is seen\n%s; want\n%s", steps, rounds, got, viewOf(one).text([]int{7}), viewOf(more).text([]int{7}))
			}
		}
	}
}

// P25.4: where nothing would be done there is no round, however many are asked
// for, and nothing changes.
func TestAtRest(t *testing.T) {
	shipped := upTo(t, 3, 0)
	deliverAll(t, shipped)
	aborted := upTo(t, 3, 3)
	acts(t, aborted, cancel(7))
	deliverAll(t, aborted)
	damaged := upTo(t, 0, 2)
	acts(t, damaged, force(api.Stock, 7, false))
	deliverAll(t, damaged)
	rejected := made(t, setup())
	rejected.Do(submit(7, 4))
	for what, h := range map[string]*harbour.Harbour{"new": made(t, setup()), "shipped": shipped, "aborted": aborted, "damaged": damaged, "rejected": rejected} {
		was := viewOf(h).text([]int{7})
		for _, rounds := range []int{math.MinInt, -1, 0, 1, 2, 1000, math.MaxInt} {
			if n := h.Settle(rounds); n != 0 || viewOf(h).text([]int{7}) != was {
				t.Errorf("%s: Settle(%d): %d rounds; there is seen\n%s; it was\n%s", what, rounds, n, viewOf(h).text([]int{7}), was)
			}
		}
	}
}

// P25.4: each thing that alone keeps all from rest: a node that is down, a
// message on its way, an order that is not over, a keeper that waits.
func TestNotAtRest(t *testing.T) {
	for node := range api.Nodes {
		h := upTo(t, 1, 0)
		deliverAll(t, h)
		acts(t, h, crash(node, 0, 0))
		// The chief may have lost what it need not know for sure.
		if n := h.Settle(50); n < 1 || node != api.Chief && n != 1 || len(viewOf(h).down()) != 0 {
			t.Errorf("%s was down: %d rounds", names[node], n)
		}
	}
	h := upTo(t, 0, 0)
	acts(t, h, double(0))
	for h.Post().Len() > 1 {
		acts(t, h, deliver(1))
	}
	if n := h.Settle(50); n < 1 {
		t.Error("a message was on its way, and there is no round")
	}
	h = upTo(t, 0, 0)
	deliverAll(t, h)
	h.Post().Put(api.Msg{Kind: api.MDamaged, From: api.Chief, To: api.Stock, Id: 7})
	if n := h.Settle(50); n != 1 || h.Post().Len() != 0 {
		t.Errorf("a message is on its way that nobody answers: %d rounds", n)
	}
	h = upTo(t, 1, 0)
	acts(t, h, drop(0))
	if n := h.Settle(50); n < 2 || h.Desk().Status(7) != api.SShipped {
		t.Errorf("an order is not over: %d rounds, %s", n, h.Desk().Tell(7))
	}
	// No script leaves a keeper waiting for an order that the chief has ended, or
	// never had: here it is asked by hand.
	for node := api.Stock; node <= api.Purse; node++ {
		h = upTo(t, 0, 0)
		deliverAll(t, h)
		h.Keeper(node).Handle(api.Msg{Kind: api.MPrepare, From: api.Chief, To: node, Id: 8, B: 1})
		if n := h.Settle(50); n != 5 || h.Keeper(node).State(8) != api.VAborted || h.Post().Len() != 0 {
			t.Errorf("%s waits: %d rounds, and it is %d", names[node], n, h.Keeper(node).State(8))
		}
	}
}

// P25.4: in a full post what there is no room for is lost, the first ones first;
// a round delivers so many as were there, be some of them answers.
func TestFullRound(t *testing.T) {
	h := upTo(t, 0, 0)
	for h.Post().Len() < 256 {
		acts(t, h, double(1))
	}
	h.Settle(1)
	l := way(h)
	if len(l) != 256 || h.Post().Lost() != 6 || l[249].Kind != api.MYes || msgText(l[250]) != "prepare chief>stock 7 (1 2)" || msgText(l[255]) != "ask purse>stock 7" {
		t.Errorf("%d are on their way, %d are lost: %s", len(l), h.Post().Lost(), msgsText(l))
	}
}

// P25.4, P25.5 (T5): many orders at a time come to an end, be there more to be
// told at times than there is room for on the way.
func TestSettleMany(t *testing.T) {
	for _, orders := range []int{2, 10, 20, 40, 63} {
		for steps := range 4 {
			w, what := newMany(t, orders, steps), fmt.Sprint(orders, " orders of ", steps)
			if n := w.settle(t, what, 1000); n > 100 {
				t.Errorf("%s: %d rounds", what, n)
			}
			w.holdEnd(t, what)
			if open, lost := w.h.Desk().Open(), w.h.Post().Lost(); open != 0 || (lost > 0) != (orders > 10) {
				t.Errorf("%s: %d are open, %d messages were lost", what, open, lost)
			}
		}
	}
}

// newMany is so many orders at a time, of so many steps.
func newMany(t *testing.T, orders, steps int) pair {
	t.Helper()
	w := newPair(t, api.Setup{Stock: row(most, 8), Money: row(most, 8), Holds: row(most, 3), Orders: 64, Room: 4096, Tries: 20}, 1, 2, orders)
	for id := 1; id <= orders; id++ {
		w.do(t, orders, submit(id, steps))
	}
	return w
}

// P25.4: of 64 orders that wait at both keepers what those ask fills the post,
// so that all else that a round tells is lost, round by round; where one of them
// is given up from outside all go on.
func TestSettleTooMany(t *testing.T) {
	w := newMany(t, 64, 1)
	if n := w.settle(t, "64", 40); n != 40 {
		t.Errorf("64: %d rounds", n)
	}
	for i, m := range way(w.h) {
		if m.Kind != api.MAsk {
			t.Errorf("the message %d is %s", i, msgText(m))
		}
	}
	w.dos(t, "64", force(api.Stock, 1, false))
	if n := w.settle(t, "63", 1000); n > 100 || w.h.Post().Len() != 0 || w.h.Desk().Open() != 0 {
		t.Errorf("63: %d rounds", n)
	}
}
