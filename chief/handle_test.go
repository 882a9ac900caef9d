package chief_test

import (
	"fmt"
	"math"
	"strings"
	"testing"

	"wharfinger/api"
	"wharfinger/chief"
)

// noIds are numbers that are no ids, some of them alike in their low bits.
var noIds = []int{0, -1, -7, 1000, 1001, 1<<32 + 7, 7 - 1<<32, 1<<16 + 7, math.MinInt, math.MinInt + 7, math.MaxInt}

// kinds are all kinds of messages, and some that are none.
func kinds() []int {
	l := []int{-1, -2, 1<<32 + 2, 2 - 1<<32, math.MinInt, math.MaxInt}
	for kind := range 21 {
		l = append(l, kind)
	}
	return l
}

// P22.2: every kind of message at every place of an order's way, from whom it
// should come and from each other node, of each step, and of none.
func TestEveryMessage(t *testing.T) {
	for _, place := range places {
		w := at(t, place, 50, 3)
		for _, kind := range kinds() {
			for from := -1; from <= api.Nodes; from++ {
				for stp := -1; stp <= 3; stp++ {
					m := api.Msg{Kind: kind, From: from, Id: 7, Step: stp, A: 9, B: 8}
					if holdMessage(t, place, w, m) {
						w = at(t, place, 50, 3)
					}
				}
			}
		}
		w.holdBells(t, place, 7)
		if t.Failed() {
			t.FailNow()
		}
	}
}

// holdMessage holds what a message does; it tells whether it changed anything.
func holdMessage(t *testing.T, place string, w pair, m api.Msg) bool {
	t.Helper()
	lines, said := len(w.p.lines), fmt.Sprint(w.p.said)
	w.holdStep(t, place, step{m: m})
	return len(w.p.lines) != lines || fmt.Sprint(w.p.said) != said
}

// works are the messages that are heard at some place of an order of two steps.
var works = []string{
	"done0", "done1", "fail0", "fail1", "undone0", "undone1", "yesS", "yesP", "noS", "noP",
	"ackS", "ackP", "damageS", "damageP", "queryS", "queryP", "shipped",
}

// strange are messages that nothing comes of at any place: to other nodes, of
// another order, from nodes that there are not, of steps that there are not.
func strange(o api.Order) []api.Msg {
	var l []api.Msg
	for _, word := range works {
		m := heard(o, word)
		for _, to := range []int{-1, 1, 2, 3, 4, 5, 6, 7, 1 << 32, -1 << 32, math.MinInt, math.MaxInt} {
			other := m
			other.To = to
			l = append(l, other)
		}
		for _, from := range []int{-1, 0, 7, m.From + 1<<32, m.From - 1<<32, -m.From, math.MinInt, math.MaxInt} {
			other := m
			other.From = from
			l = append(l, other)
		}
		if m.Kind != api.MAsk {
			for _, id := range append([]int{o.Id + 1, o.Id - 1}, noIds...) {
				other := m
				other.Id = id
				l = append(l, other)
			}
		}
		if m.From >= api.Coupon {
			for _, stp := range []int{-1, 2, 3, m.Step + 1<<32, m.Step - 1<<32, 1 - m.Step, math.MinInt, math.MaxInt} {
				other := m
				other.Step = stp
				l = append(l, other)
			}
		}
	}
	return append(l, api.Msg{}, api.Msg{Id: o.Id}, api.Msg{Kind: api.MYes, Id: o.Id})
}

// P22.2: messages to another node, of no order, from none that should, of no
// step: at every place nothing is told, and nothing changes.
func TestStrange(t *testing.T) {
	for _, place := range places {
		w, o := at(t, place, 50, 3), made(7, 2)
		before := nodeText(w.n)
		for _, m := range strange(o) {
			holdStep(t, place, w.n, step{m: m}, nil, api.OK)
		}
		if nodeText(w.n) != before {
			t.Errorf("%s: it was %s, and is %s", place, before, nodeText(w.n))
		}
		// Nor did who said yes, nor the bell's tries, change.
		for _, word := range []string{"yesS", "ring", "ring", "yesP", "ring"} {
			w.holdStep(t, place, taken(o, word))
		}
		w.holdStep(t, place, step{kind: goesDown, crash: crash{stay: 99}})
		w.holdStep(t, place, step{kind: starts})
		w.holdBells(t, place, 7)
	}
}

// P22.2: a Step that says nothing, and A and B, are not looked at.
func TestOtherNumbers(t *testing.T) {
	for _, s := range stories {
		for _, n := range []int{-1, 1, 2, 99, most + 1, math.MinInt, math.MaxInt} {
			node, o := chief.New(1, 50, 3), made(7, s.steps)
			for i, x := range s.tales {
				call := taken(o, x.word)
				call.m.A, call.m.B = n, n
				if call.m.From < api.Coupon {
					call.m.Step = n
				}
				what := fmt.Sprint(s.name, ", ", i, ", with ", n)
				holdStep(t, what, node, call, sends(o, x.sends), api.OK)
				holdOrder(t, what, node, o, x.state, x.facts)
			}
		}
	}
}

// P22.2: of what is no order MAborts goes back, whatever its id is; to keepers
// alone.
func TestAskOfNone(t *testing.T) {
	n := chief.New(2, 50, 3)
	for range 2 {
		for _, id := range append([]int{1, 6, 8, 500, 999}, noIds...) {
			for from := -1; from <= api.Nodes; from++ {
				var want []api.Msg
				if from == api.Stock || from == api.Purse {
					want = []api.Msg{{Kind: api.MAborts, From: api.Chief, To: from, Id: id}}
				}
				holdStep(t, id, n, step{m: api.Msg{Kind: api.MAsk, From: from, Id: id, Step: 3, A: 4, B: 5}}, want, api.OK)
			}
			holdNone(t, "asked", n, id)
		}
		// There being one changes nothing for the others.
		n.Begin(made(7, 0))
	}
	holdIds(t, "asked", n, 7)
}

// P22.2: a step that is done ahead of its turn, or once more, is not noted.
func TestDoneInTurn(t *testing.T) {
	for _, words := range []string{"done1", "done2", "done0 done2", "done0 done0", "done0 done1 done0", "done0 done1 done1", "done0 done1 done2 done0", "done0 done1 done2 done2"} {
		n, o, l := chief.New(1, 50, 3), made(7, 3), strings.Fields(words)
		n.Begin(o)
		for _, word := range l[:len(l)-1] {
			n.Handle(heard(o, word))
		}
		before := nodeText(n)
		holdStep(t, words, n, taken(o, l[len(l)-1]), nil, api.OK)
		if nodeText(n) != before {
			t.Errorf("%s: it was %s, and is %s", words, before, nodeText(n))
		}
	}
}

// P22.2: any step's fail turns one that is not decided, be the step done or not,
// be it its turn or not.
func TestAnyFails(t *testing.T) {
	for _, c := range []struct{ words, facts string }{
		{"", "---/---/ turned"}, {"done0", "x--/---/ turned"}, {"done0 done1", "xx-/---/ turned"},
		{"done0 done1 done2", "xxx/---/ asked turned"}, {"done0 done1 done2 yesP", "xxx/---/ asked turned"},
	} {
		for _, fail := range []string{"fail0", "fail1", "fail2"} {
			n, o := chief.New(1, 50, 3), made(7, 3)
			n.Begin(o)
			for _, word := range strings.Fields(c.words) {
				n.Handle(heard(o, word))
			}
			what := c.words + " " + fail
			holdStep(t, what, n, taken(o, fail), sends(o, "abortS abortP undo2"), api.OK)
			holdOrder(t, what, n, o, api.SUndoing, c.facts)
		}
	}
}

// P22.2: it is decided for it behind a yes of both keepers, in either order, and
// however often one says it.
func TestBothSayYes(t *testing.T) {
	for words, decided := range map[string]bool{
		"yesS yesP": true, "yesP yesS": true, "yesS yesS yesP": true, "yesP yesP yesP yesS": true,
		"yesS": false, "yesP": false, "yesS yesS": false, "yesP yesP yesP": false,
	} {
		n, o, l := chief.New(1, 50, 3), made(7, 0), strings.Fields(words)
		n.Begin(o)
		for i, word := range l {
			want := ""
			if decided && i == len(l)-1 {
				want = "commitS commitP ship"
			}
			holdStep(t, words, n, taken(o, word), sends(o, want), api.OK)
		}
		if (n.State(7) == api.SCommitted) != decided {
			t.Errorf("%s: the state is %d", words, n.State(7))
		}
	}
}

// P22.2: what one keeper says of one order is nothing of another one's.
func TestYesOfAnother(t *testing.T) {
	n, a, b := chief.New(2, 50, 3), made(7, 0), made(8, 0)
	n.Begin(a)
	n.Begin(b)
	holdStep(t, "a", n, taken(a, "yesS"), nil, api.OK)
	holdStep(t, "b", n, taken(b, "yesP"), nil, api.OK)
	holdStep(t, "a", n, taken(a, "yesP"), sends(a, "commitS commitP ship"), api.OK)
	holdStep(t, "b", n, taken(b, "noP"), sends(b, "abortS abortP"), api.OK)
}
