package harbour_test

import (
	"fmt"
	"slices"
	"strings"
	"testing"

	"wharfinger/api"
)

// way7 is how order 7 may go: how many steps it has, and the place of the first
// message at which it is cancelled, or a keeper forced (-1: never).
type way7 struct {
	steps, cancel, force int
}

// to brings both of a pair so many deliveries on the way.
func (x way7) to(t *testing.T, w pair, times int) {
	t.Helper()
	what := fmt.Sprintf("%+v", x)
	w.do(t, what, submit(7, x.steps))
	for i := range times {
		x.turn(t, w, i)
		w.do(t, fmt.Sprint(what, ", ", i), deliver(0))
	}
}

// turn does what the way has at a place, beside the first message.
func (x way7) turn(t *testing.T, w pair, i int) {
	t.Helper()
	if i == x.cancel {
		w.do(t, "cancelled", cancel(7))
	}
	if i == x.force {
		w.do(t, "forced", force(api.Purse, 7, i%2 == 0))
	}
}

// ways7 are the ways that are gone in these tests.
var ways7 = []way7{{0, -1, -1}, {1, -1, -1}, {3, -1, -1}, {2, 3, -1}, {3, 7, -1}, {0, -1, 2}, {1, -1, 5}, {2, 7, 8}}

// P25.2, P25.3: each node is taken down at each place of an order's way, by each
// number of lines that stay; it is started again, at once or when something was
// lost by it. All is as a plain harbour has it, and comes to an end.
func TestCrashAtEach(t *testing.T) {
	for _, x := range ways7 {
		for node := range api.Nodes {
			for times := range 2*x.steps + 14 {
				for stay := range 5 {
					holdCrash(t, x, node, times, stay, times%3)
				}
				holdCrash(t, x, node, times, -1, 3)
				holdCrash(t, x, node, times, 99, 1)
			}
		}
	}
}

// holdCrash holds a crash at one place, with so many messages delivered while
// the node is down.
func holdCrash(t *testing.T, x way7, node, times, stay, missed int) {
	t.Helper()
	w, what := newPair(t, setup(), 7), fmt.Sprintf("%+v, %s at %d, %d stay", x, names[node], times, stay)
	x.to(t, w, times)
	was := traceText(w.h.Trace(7))
	w.do(t, what, crash(node, stay, 7*stay))
	for range missed {
		w.do(t, what, deliver(0))
	}
	w.do(t, what, start(node))
	if !strings.HasPrefix(traceText(w.h.Trace(7)), was) {
		t.Errorf("%s: the trace is %q; it was %q", what, traceText(w.h.Trace(7)), was)
	}
	if n := w.settle(t, what, 1000); n > 40 {
		t.Errorf("%s: %d rounds", what, n)
	}
	w.holdEnd(t, what)
}

// P25.2: each node is taken down twice, and up twice, at each place.
func TestCrashTwice(t *testing.T) {
	for node := range api.Nodes {
		for times := range 20 {
			for gap := range 3 {
				w, what := newPair(t, setup(), 7, 9), fmt.Sprint(names[node], " at ", times, ", again ", gap, " behind it")
				way7{3, -1, -1}.to(t, w, times)
				w.dos(t, what, crash(node, 0, 0), start(node), submit(9, 1), ring(api.Chief, 7))
				for range gap {
					w.dos(t, what, deliver(0))
				}
				w.dos(t, what, crash(node, 1, 4), deliver(0), start(node))
				w.settle(t, what, 1000)
				w.holdEnd(t, what)
			}
		}
	}
}

// P25.4, P25.5: all nodes are taken down at each place, in either order, and
// Settle starts them again.
func TestAllDown(t *testing.T) {
	for _, x := range ways7 {
		for times := range 2*x.steps + 14 {
			for stay := range 3 {
				w, what := newPair(t, setup(), 7, 9), fmt.Sprintf("%+v at %d, %d stay", x, times, stay)
				x.to(t, w, times)
				w.do(t, what, submit(9, 0))
				all := []int{0, 1, 2, 3, 4, 5, 6}
				if times%2 == 1 {
					slices.Reverse(all)
				}
				for _, node := range all {
					w.do(t, what, crash(node, stay, times))
				}
				w.dos(t, what, submit(8, 0), deliver(0), cancel(9), force(api.Stock, 9, true), ring(api.Purse, 9))
				if down := viewOf(w.h).down(); len(down) != api.Nodes {
					t.Errorf("%s: down are %v", what, down)
				}
				if n := w.settle(t, what, 1000); n < 1 || n > 60 || len(viewOf(w.h).down()) != 0 {
					t.Errorf("%s: %d rounds, down are %v", what, n, viewOf(w.h).down())
				}
				w.holdEnd(t, what)
			}
		}
	}
}

// P25.3: what happened is told while nodes are down, and is not told twice when
// they are up again.
func TestTraceBehindCrash(t *testing.T) {
	for _, x := range []struct {
		way7
		times int
		want  string
	}{
		{way7{3, -1, -1}, 14, "done0 done1 done2 commits shipped"}, {way7{3, -1, -1}, 11, "done0 done1 done2 commits"},
		{way7{2, 2, -1}, 99, "done0 aborts done1 undone1 undone0"}, {way7{0, 0, -1}, 1, "aborts"}, {way7{1, -1, -1}, 1, "done0"},
	} {
		w := newPair(t, setup(), 7)
		w.do(t, x, submit(7, x.steps))
		for i := 0; i < x.times && w.h.Post().Len() > 0; i++ {
			x.turn(t, w, i)
			w.do(t, x, deliver(0))
		}
		holdTrace := func(when string) {
			t.Helper()
			if got := traceText(w.h.Trace(7)); got != x.want {
				t.Fatalf("%+v, %s: the trace is %q; want %q", x, when, got, x.want)
			}
		}
		holdTrace("ahead of it")
		for range 2 {
			for node := range api.Nodes {
				w.do(t, x, crash(node, 0, 0))
				holdTrace("behind a crash of " + names[node])
			}
			for node := range api.Nodes {
				w.do(t, x, start(node))
				holdTrace("behind a start of " + names[node])
			}
		}
		w.settle(t, x, 100)
		w.holdEnd(t, x)
	}
}

// P25.3: at Start of a chief that had asked, and not decided, the order turns,
// and that is what happened; of one that had decided, or asked nobody, nothing
// happened; what it sends is sent by its bells.
func TestTraceAtStart(t *testing.T) {
	h := made(t, setup())
	acts(t, h, submit(1, 0), submit(2, 1), submit(4, 0))
	acts(t, h, deliver(0), deliver(0)) // order 1 is asked for
	acts(t, h, deliver(3), deliver(3)) // and is committed
	acts(t, h, cancel(4), submit(3, 0), submit(5, 0))
	was := msgsText(way(h))
	acts(t, h, crash(api.Chief, 9, 0))
	for id, want := range map[int]string{1: "commits", 2: "", 3: "", 4: "aborts", 5: ""} {
		if got := traceText(h.Trace(id)); got != want {
			t.Errorf("down: the trace of %d is %q; want %q", id, got, want)
		}
	}
	acts(t, h, start(api.Chief))
	holdWay(t, "started", h, was)
	for range 2 {
		for id, want := range map[int]string{
			1: "committed; ready, ready; - - -; commits", 2: "forward 0/1; none, none; - - -; ", 3: "undoing 0/0; none, none; - - -; aborts",
			4: "undoing 0/0; none, none; - - -; aborts", 5: "undoing 0/0; none, none; - - -; aborts",
		} {
			holdOrder(t, "started", h, id, want)
		}
		acts(t, h, crash(api.Chief, 0, 0), start(api.Chief))
	}
	acts(t, h, ring(api.Chief, 3))
	holdWay(t, "rung", h, was+", abort chief>stock 3, abort chief>purse 3")
}

// P25.3: where what was asked is lost with the crash the order does not turn at
// Start; where there is no room for it, neither.
func TestNothingAtStart(t *testing.T) {
	h := upTo(t, 0, 2)
	acts(t, h, crash(api.Chief, 0, 0), start(api.Chief))
	holdOrder(t, "lost", h, 7, "forward 0/0; ready, ready; - - -; ")
	s := setup()
	s.Room = 2
	h = made(t, s)
	acts(t, h, submit(7, 0), crash(api.Chief, 1, 0), start(api.Chief))
	holdOrder(t, "full", h, 7, "preparing; none, none; - - -; ")
}

// P25.3, R2: what Trace tells is the caller's own, and new each time.
func TestTraceIsNew(t *testing.T) {
	h := upTo(t, 3, 14)
	first := h.Trace(7)
	for i := range first {
		first[i] = api.Act{Kind: 99, Step: 99}
	}
	_ = append(first[:1], api.Act{Kind: 98})
	early := upTo(t, 3, 4)
	short := early.Trace(7)
	grown := append(short, api.Act{Kind: 97})
	deliverAll(t, early)
	if got := fmt.Sprint(grown); got != "[{2 0} {2 1} {97 0}]" {
		t.Errorf("what was told is %s by now", got)
	}
	for _, h := range []interface{ Trace(id int) []api.Act }{h, early} {
		if got := traceText(h.Trace(7)); got != "done0 done1 done2 commits shipped" {
			t.Errorf("the trace is %q", got)
		}
	}
	for _, id := range append([]int{1, 8, 999}, noIds...) {
		if l := h.Trace(id); len(l) != 0 || h.Forced(id) {
			t.Errorf("of %d the trace is %v", id, l)
		}
	}
}
