package harbour_test

import (
	"fmt"
	"strings"
	"testing"

	"wharfinger/api"
	"wharfinger/harbour"
)

// P25.2: the example of the chapter.
func TestExample(t *testing.T) {
	h := made(t, setup())
	acts(t, h, submit(7, 0))
	holdWay(t, "the example", h, "prepare chief>stock 7 (1 2), prepare chief>purse 7 (0 30)")
}

// P25.2, P25.3: the whole way of an order of three steps that is for it.
func TestForIt(t *testing.T) {
	h := made(t, setup())
	holdTold(t, "for it", h, 7, []told{
		{submit(7, 3), "do chief>credit 7 (3 0)", "forward 0/3; none, none; - - -; "},
		{deliver(0), "done credit>chief 7", "forward 0/3; none, none; - did -; done0"},
		{deliver(0), "do chief>coupon 7.1 (2 0)", "forward 1/3; none, none; - did -; done0"},
		{deliver(0), "done coupon>chief 7.1", "forward 1/3; none, none; did did -; done0 done1"},
		{deliver(0), "do chief>fraud 7.2 (1 0)", "forward 2/3; none, none; did did -; done0 done1"},
		{deliver(0), "done fraud>chief 7.2", "forward 2/3; none, none; did did did; done0 done1 done2"},
		{deliver(0), "prepare chief>stock 7 (1 2), prepare chief>purse 7 (0 30)", "preparing; none, none; did did did; done0 done1 done2"},
		{deliver(0), "prepare chief>purse 7 (0 30), yes stock>chief 7", "preparing; ready, none; did did did; done0 done1 done2"},
		{deliver(0), "yes stock>chief 7, yes purse>chief 7", "preparing; ready, ready; did did did; done0 done1 done2"},
		{deliver(0), "yes purse>chief 7", "preparing; ready, ready; did did did; done0 done1 done2"},
		{deliver(0), "commit chief>stock 7, commit chief>purse 7, ship chief>shipper 7 (1 2)", "committed; ready, ready; did did did; done0 done1 done2 commits"},
		{deliver(0), "commit chief>purse 7, ship chief>shipper 7 (1 2), ack stock>chief 7", "committed; yes, ready; did did did; done0 done1 done2 commits"},
		{deliver(0), "ship chief>shipper 7 (1 2), ack stock>chief 7, ack purse>chief 7", "committed; yes, yes; did did did; done0 done1 done2 commits"},
		{deliver(0), "ack stock>chief 7, ack purse>chief 7, shipped shipper>chief 7", "committed; yes, yes; did did did 2x1; done0 done1 done2 commits shipped"},
		{deliver(2), "ack stock>chief 7, ack purse>chief 7, commit chief>stock 7, commit chief>purse 7", "committed; yes, yes; did did did 2x1; done0 done1 done2 commits shipped"},
		{deliver(0), "ack purse>chief 7, commit chief>stock 7, commit chief>purse 7, commit chief>purse 7", "committed; yes, yes; did did did 2x1; done0 done1 done2 commits shipped"},
		{deliver(0), "commit chief>stock 7, commit chief>purse 7, commit chief>purse 7", "shipped; yes, yes; did did did 2x1; done0 done1 done2 commits shipped"},
		{deliver(1), "commit chief>stock 7, commit chief>purse 7, ack purse>chief 7", "shipped; yes, yes; did did did 2x1; done0 done1 done2 commits shipped"},
		{drop(1), "commit chief>stock 7, ack purse>chief 7", "shipped; yes, yes; did did did 2x1; done0 done1 done2 commits shipped"},
		{deliver(1), "commit chief>stock 7", "shipped; yes, yes; did did did 2x1; done0 done1 done2 commits shipped"},
		{deliver(0), "ack stock>chief 7", "shipped; yes, yes; did did did 2x1; done0 done1 done2 commits shipped"},
		{deliver(0), "", "shipped; yes, yes; did did did 2x1; done0 done1 done2 commits shipped"},
	})
	holdBooks(t, "for it", h, "9 18; 9 18; 470 70; ; 30; 6 9 9; 0 2; ")
}

// holdBooks holds what all books say.
func holdBooks(t *testing.T, what any, h *harbour.Harbour, want string) {
	t.Helper()
	if got := viewOf(h).ofBooks(); got != want {
		t.Errorf("%v: the books are %q; want %q", what, got, want)
	}
}

// P25.2, P25.3: the whole ways of orders without steps, and of one step.
func TestShortOrders(t *testing.T) {
	h := made(t, setup())
	holdTold(t, "no steps", h, 1, []told{
		{submit(1, 0), "prepare chief>stock 1 (1 2), prepare chief>purse 1 (0 30)", "preparing; none, none; - - -; "},
		{deliver(1), "prepare chief>stock 1 (1 2), yes purse>chief 1", "preparing; none, ready; - - -; "},
		{deliver(1), "prepare chief>stock 1 (1 2)", "preparing; none, ready; - - -; "},
		{deliver(0), "yes stock>chief 1", "preparing; ready, ready; - - -; "},
		{deliver(0), "commit chief>stock 1, commit chief>purse 1, ship chief>shipper 1 (1 2)", "committed; ready, ready; - - -; commits"},
		{drop(0), "commit chief>purse 1, ship chief>shipper 1 (1 2)", "committed; ready, ready; - - -; commits"},
		{deliver(1), "commit chief>purse 1, shipped shipper>chief 1", "committed; ready, ready; - - - 2x1; commits shipped"},
		{deliver(0), "shipped shipper>chief 1, ack purse>chief 1", "committed; ready, yes; - - - 2x1; commits shipped"},
		{drop(0), "ack purse>chief 1", "committed; ready, yes; - - - 2x1; commits shipped"},
		{deliver(0), "commit chief>stock 1, ship chief>shipper 1 (1 2)", "committed; ready, yes; - - - 2x1; commits shipped"},
		{deliver(0), "ship chief>shipper 1 (1 2), ack stock>chief 1", "committed; yes, yes; - - - 2x1; commits shipped"},
		{deliver(0), "ack stock>chief 1, shipped shipper>chief 1", "committed; yes, yes; - - - 2x1; commits shipped"},
		{deliver(1), "ack stock>chief 1, commit chief>stock 1", "committed; yes, yes; - - - 2x1; commits shipped"},
		{deliver(0), "commit chief>stock 1", "shipped; yes, yes; - - - 2x1; commits shipped"},
		{drop(0), "", "shipped; yes, yes; - - - 2x1; commits shipped"},
	})
	holdTold(t, "one step", h, 999, []told{
		{submit(999, 1), "do chief>credit 999 (3 0)", "forward 0/1; none, none; - - -; "},
		{double(0), "do chief>credit 999 (3 0), do chief>credit 999 (3 0)", "forward 0/1; none, none; - - -; "},
		{deliver(0), "do chief>credit 999 (3 0), done credit>chief 999", "forward 0/1; none, none; - did -; done0"},
		{deliver(0), "done credit>chief 999, done credit>chief 999", "forward 0/1; none, none; - did -; done0"},
		{deliver(1), "done credit>chief 999, prepare chief>stock 999 (1 2), prepare chief>purse 999 (0 30)", "preparing; none, none; - did -; done0"},
		{deliver(0), "prepare chief>stock 999 (1 2), prepare chief>purse 999 (0 30)", "preparing; none, none; - did -; done0"},
		{deliver(0), "prepare chief>purse 999 (0 30), yes stock>chief 999", "preparing; ready, none; - did -; done0"},
		{deliver(0), "yes stock>chief 999, yes purse>chief 999", "preparing; ready, ready; - did -; done0"},
		{deliver(1), "yes stock>chief 999", "preparing; ready, ready; - did -; done0"},
		{deliver(0), "commit chief>stock 999, commit chief>purse 999, ship chief>shipper 999 (1 2)", "committed; ready, ready; - did -; done0 commits"},
	})
	deliverAll(t, h)
	holdOrder(t, "one step", h, 999, "shipped; yes, yes; - did - 2x1; done0 commits shipped")
	holdBooks(t, "both", h, "9 16; 9 16; 440 70; ; 60; 8 9 10; 0 4; ")
}

// P25.2, P25.3: the whole way of an order whose last step can't be done: it
// turns, and what was done is undone, the last step first.
func TestTurns(t *testing.T) {
	s := setup()
	s.Holds[2] = 0
	h := made(t, s)
	acts(t, h, submit(7, 3), deliver(0), deliver(0), deliver(0), deliver(0))
	holdTold(t, "turns", h, 7, []told{
		{deliver(0), "fail fraud>chief 7.2", "forward 2/3; none, none; did did cant; done0 done1"},
		{deliver(0), "abort chief>stock 7, abort chief>purse 7, undo chief>fraud 7.2", "undoing 0/3; none, none; did did cant; done0 done1 aborts"},
		{deliver(0), "abort chief>purse 7, undo chief>fraud 7.2, ack stock>chief 7", "undoing 0/3; no, none; did did cant; done0 done1 aborts"},
		{deliver(0), "undo chief>fraud 7.2, ack stock>chief 7, ack purse>chief 7", "undoing 0/3; no, no; did did cant; done0 done1 aborts"},
		{deliver(0), "ack stock>chief 7, ack purse>chief 7, undone fraud>chief 7.2", "undoing 0/3; no, no; did did cant; done0 done1 aborts"},
		{deliver(2), "ack stock>chief 7, ack purse>chief 7, abort chief>stock 7, abort chief>purse 7, undo chief>coupon 7.1", "undoing 1/3; no, no; did did cant; done0 done1 aborts"},
		{drop(3), "ack stock>chief 7, ack purse>chief 7, abort chief>stock 7, undo chief>coupon 7.1", "undoing 1/3; no, no; did did cant; done0 done1 aborts"},
		{drop(2), "ack stock>chief 7, ack purse>chief 7, undo chief>coupon 7.1", "undoing 1/3; no, no; did did cant; done0 done1 aborts"},
		{deliver(2), "ack stock>chief 7, ack purse>chief 7, undone coupon>chief 7.1", "undoing 1/3; no, no; undid did cant; done0 done1 aborts undone1"},
		{deliver(0), "ack purse>chief 7, undone coupon>chief 7.1, abort chief>purse 7, undo chief>coupon 7.1", "undoing 1/3; no, no; undid did cant; done0 done1 aborts undone1"},
		{deliver(0), "undone coupon>chief 7.1, abort chief>purse 7, undo chief>coupon 7.1, undo chief>coupon 7.1", "undoing 1/3; no, no; undid did cant; done0 done1 aborts undone1"},
		{deliver(0), "abort chief>purse 7, undo chief>coupon 7.1, undo chief>coupon 7.1, undo chief>credit 7", "undoing 2/3; no, no; undid did cant; done0 done1 aborts undone1"},
		{deliver(1), "abort chief>purse 7, undo chief>coupon 7.1, undo chief>credit 7, undone coupon>chief 7.1", "undoing 2/3; no, no; undid did cant; done0 done1 aborts undone1"},
		{deliver(2), "abort chief>purse 7, undo chief>coupon 7.1, undone coupon>chief 7.1, undone credit>chief 7", "undoing 2/3; no, no; undid undid cant; done0 done1 aborts undone1 undone0"},
		{deliver(3), "abort chief>purse 7, undo chief>coupon 7.1, undone coupon>chief 7.1", "aborted; no, no; undid undid cant; done0 done1 aborts undone1 undone0"},
		{deliver(0), "undo chief>coupon 7.1, undone coupon>chief 7.1, ack purse>chief 7", "aborted; no, no; undid undid cant; done0 done1 aborts undone1 undone0"},
		{deliver(0), "undone coupon>chief 7.1, ack purse>chief 7, undone coupon>chief 7.1", "aborted; no, no; undid undid cant; done0 done1 aborts undone1 undone0"},
	})
	deliverAll(t, h)
	holdOrder(t, "turned", h, 7, "aborted; no, no; undid undid cant; done0 done1 aborts undone1 undone0")
	holdBooks(t, "turned", h, "9 20; 9 20; 500 70; ; 0; 8 12; ; ")
}

// P25.2, P25.3: an order that a keeper can't have: it says no, and the other one
// is freed again.
func TestSaysNo(t *testing.T) {
	short := map[int]func(s *api.Setup){
		api.Stock: func(s *api.Setup) { s.Stock[1] = 1 }, api.Purse: func(s *api.Setup) { s.Money[0] = 29 },
	}
	for node, change := range short {
		s := setup()
		change(&s)
		h := made(t, s)
		acts(t, h, submit(7, 1), deliver(0), deliver(0), deliver(0), deliver(0))
		states, said := "no, ready", "no stock>chief 7, yes purse>chief 7"
		if node == api.Purse {
			states, said = "ready, no", "yes stock>chief 7, no purse>chief 7"
		}
		holdWay(t, names[node], h, said)
		holdOrder(t, names[node], h, 7, "preparing; "+states+"; - did -; done0")
		acts(t, h, deliver(0), deliver(strings.Count(msgsText(way(h)), "abort")))
		holdOrder(t, names[node], h, 7, "undoing 0/1; "+states+"; - did -; done0 aborts")
		deliverAll(t, h)
		holdOrder(t, names[node], h, 7, "aborted; no, no; - undid -; done0 aborts undone0")
		holdBooks(t, names[node], h, viewOf(made(t, s)).ofBooks())
	}
}

// P25.2, P25.3: orders of none, one and three steps at a time, each message of
// all in the order in which they were sent.
func TestSeveral(t *testing.T) {
	h := made(t, setup())
	acts(t, h, submit(999, 3), submit(3, 0), submit(40, 1))
	holdWay(t, "begun", h, "do chief>credit 999 (3 0), prepare chief>stock 3 (1 2), prepare chief>purse 3 (0 30), do chief>credit 40 (3 0)")
	for range 4 {
		acts(t, h, deliver(0))
	}
	holdWay(t, "once round", h, "done credit>chief 999, yes stock>chief 3, yes purse>chief 3, done credit>chief 40")
	for range 4 {
		acts(t, h, deliver(0))
	}
	holdWay(t, "twice round", h, "do chief>coupon 999.1 (2 0), commit chief>stock 3, commit chief>purse 3, ship chief>shipper 3 (1 2), prepare chief>stock 40 (1 2), prepare chief>purse 40 (0 30)")
	for id, want := range map[int]string{
		999: "forward 1/3; none, none; - did -; done0", 3: "committed; ready, ready; - - -; commits",
		40: "preparing; none, none; - did -; done0", 4: "; none, none; - - -; ",
	} {
		holdOrder(t, "twice round", h, id, want)
	}
	acts(t, h, cancel(40))
	deliverAll(t, h)
	for id, want := range map[int]string{
		999: "shipped; yes, yes; did did did 2x1; done0 done1 done2 commits shipped", 3: "shipped; yes, yes; - - - 2x1; commits shipped",
		40: "aborted; no, no; - undid -; done0 aborts undone0", 39: "; none, none; - - -; ",
	} {
		holdOrder(t, "all round", h, id, want)
	}
	holdBooks(t, "all round", h, "9 16; 9 16; 440 70; ; 60; 6 9 9; 0 4; ")
}

// upTo is a harbour where the first message was delivered so often, behind the
// submit of order 7 of so many steps.
func upTo(t *testing.T, steps, times int) *harbour.Harbour {
	t.Helper()
	h := made(t, setup())
	acts(t, h, submit(7, steps))
	for range times {
		acts(t, h, deliver(0))
	}
	return h
}

// P25.2, P25.3: an order is cancelled at each place of its way: ahead of a
// decision it turns, behind it that is refused.
func TestCancel(t *testing.T) {
	for steps := range 4 {
		decided := false
		for times := 0; !decided || times < 2*steps+12; times++ {
			h, what := upTo(t, steps, times), fmt.Sprint(steps, " steps, ", times)
			was, trace := msgsText(way(h)), traceText(h.Trace(7))
			if decided = strings.HasSuffix(trace, "commits") || strings.HasSuffix(trace, "shipped"); decided {
				holdRefused(t, what, h, cancel(7), api.ErrState, 7)
				continue
			}
			acts(t, h, cancel(7))
			more := ", abort chief>stock 7, abort chief>purse 7"
			if steps > 0 {
				more += ", " + []string{"undo chief>credit 7", "undo chief>coupon 7.1", "undo chief>fraud 7.2"}[steps-1]
			}
			holdWay(t, what, h, was+more)
			if got := traceText(h.Trace(7)); got != strings.TrimSpace(trace+" aborts") {
				t.Errorf("%s: the trace is %q; it was %q", what, got, trace)
			}
			holdRefused(t, what, h, cancel(7), api.ErrState, 7)
			holdUndone(t, what, h)
		}
	}
}

// holdUndone holds that of order 7, if all is delivered, nothing is left.
func holdUndone(t *testing.T, what any, h *harbour.Harbour) {
	t.Helper()
	deliverAll(t, h)
	if h.Desk().Status(7) != api.SAborted {
		t.Errorf("%v: in the end %q", what, h.Desk().Tell(7))
	}
	count := map[int]int{}
	for _, a := range h.Trace(7) {
		count[a.Kind]++
	}
	if count[api.MDone] != count[api.MUndone] || count[api.MAborts] != 1 || count[api.MCommits] != 0 {
		t.Errorf("%v: in the end the trace is %q", what, traceText(h.Trace(7)))
	}
	holdBooks(t, what, h, viewOf(made(t, setup())).ofBooks())
}

// P25.3: a step that comes late, behind MAborts, is done, and undone; behind
// its own MUndo it is not done any more.
func TestLateSteps(t *testing.T) {
	h := upTo(t, 2, 2) // on its way is the second step
	acts(t, h, cancel(7))
	holdTold(t, "ahead of its undo", h, 7, []told{
		{deliver(0), "abort chief>stock 7, abort chief>purse 7, undo chief>coupon 7.1, done coupon>chief 7.1", "undoing 0/2; none, none; did did -; done0 aborts done1"},
		{deliver(3), "abort chief>stock 7, abort chief>purse 7, undo chief>coupon 7.1", "undoing 0/2; none, none; did did -; done0 aborts done1"},
		{deliver(2), "abort chief>stock 7, abort chief>purse 7, undone coupon>chief 7.1", "undoing 0/2; none, none; undid did -; done0 aborts done1 undone1"},
		{deliver(2), "abort chief>stock 7, abort chief>purse 7, abort chief>stock 7, abort chief>purse 7, undo chief>credit 7", "undoing 1/2; none, none; undid did -; done0 aborts done1 undone1"},
		{deliver(4), "abort chief>stock 7, abort chief>purse 7, abort chief>stock 7, abort chief>purse 7, undone credit>chief 7", "undoing 1/2; none, none; undid undid -; done0 aborts done1 undone1 undone0"},
	})
	h = upTo(t, 2, 2)
	acts(t, h, cancel(7))
	holdTold(t, "behind its undo", h, 7, []told{
		{deliver(3), "do chief>coupon 7.1 (2 0), abort chief>stock 7, abort chief>purse 7, undone coupon>chief 7.1", "undoing 0/2; none, none; undid did -; done0 aborts"},
		{deliver(0), "abort chief>stock 7, abort chief>purse 7, undone coupon>chief 7.1, fail coupon>chief 7.1", "undoing 0/2; none, none; undid did -; done0 aborts"},
		{deliver(3), "abort chief>stock 7, abort chief>purse 7, undone coupon>chief 7.1", "undoing 0/2; none, none; undid did -; done0 aborts"},
	})
	deliverAll(t, h)
	holdOrder(t, "behind its undo", h, 7, "aborted; no, no; undid undid -; done0 aborts undone0")
}

// P25.3: what happens to the order as a whole is of step 0, whichever step the
// message was of that brought it about.
func TestActsOfNoStep(t *testing.T) {
	s := setup()
	s.Holds[0] = 1
	h := made(t, s)
	acts(t, h, submit(7, 2), deliver(0), deliver(0), deliver(0), deliver(0))
	if got := fmt.Sprint(h.Trace(7)); got != "[{2 0} {14 0}]" {
		t.Errorf("the trace is %s", got)
	}
	h = upTo(t, 3, 14)
	if got := fmt.Sprint(h.Trace(7)); got != "[{2 0} {2 1} {2 2} {13 0} {16 0}]" {
		t.Errorf("the trace is %s", got)
	}
}
