package chief_test

import (
	"fmt"
	"math"
	"strings"
	"testing"

	"wharfinger/api"
	"wharfinger/chief"
)

// P22.1: a journal with room for just all the entries of a Begin, and for one
// less: then none of them is written, and a smaller order finds room.
func TestBeginRoom(t *testing.T) {
	for steps := range 4 {
		for room := 1; room <= 4; room++ {
			n, o := chief.New(2, room, 3), made(7, steps)
			what := fmt.Sprint(steps, " steps, room ", room)
			if room < steps+1 {
				holdStep(t, what, n, taken(o, "begin"), nil, api.ErrFull)
				holdNone(t, what, n, 7)
				holdIds(t, what, n)
				holdStep(t, what, n, taken(o, "ring"), nil, api.OK)
				o = made(7, room-1)
			}
			want := "do0"
			if len(o.Steps) == 0 {
				want = "askS askP"
				if room == 1 {
					want = "" // there is no room for asked
				}
			}
			holdStep(t, what, n, taken(o, "begin"), sends(o, want), api.OK)
			n.Crash(0, 0)
			n.Start()
			if got, _, ok := n.Facts(7); fmt.Sprint(got) != fmt.Sprint(o) || !ok {
				t.Errorf("%s: it is %v, %t", what, got, ok)
			}
		}
	}
}

// P22.1: as much room as New says, 1 at least and 4096 at most; behind the last
// line nothing is begun.
func TestRoomOfAll(t *testing.T) {
	for room, want := range map[int]int{1: 1, 2: 2, 3: 3, 50: 50, 0: 1, -1: 1, 50 - 1<<32: 1, math.MinInt: 1, 4095: 4095, 4096: 4096, 4097: 4096, 1 << 32: 4096, math.MaxInt: 4096} {
		n, lines := chief.New(2, room, 3), 0
		if want > 10 {
			// Two lines, so that the last order finds no room for all of its own.
			n.Begin(made(999, 0))
			lines = 2
		}
		for id := 1; lines < want; id++ {
			o := made(id, 3)
			for _, word := range strings.Fields("begin done0 done1 done2 yesS yesP ackS ackP shipped") {
				lines += linesOf(t, n, o, word, want-lines)
			}
		}
		for _, word := range works {
			taken(made(7, 2), word).on(n)
		}
		before := nodeText(n)
		for id := 1; id <= api.MaxId; id++ {
			if _, e := n.Begin(made(id, 0)); e != api.ErrTwice && e != api.ErrFull {
				t.Errorf("room %d: Begin(%d) is %d", room, id, e)
			}
			if _, e := n.Cancel(id); e == api.OK {
				t.Errorf("room %d: Cancel(%d)", room, id)
			}
		}
		if nodeText(n) != before {
			t.Errorf("room %d: something was noted", room)
		}
	}
}

// linesOf takes a step of an order of three steps, of which there is room for so
// many lines, and tells how many it wrote.
func linesOf(t *testing.T, n *chief.Node, o api.Order, word string, free int) int {
	t.Helper()
	need := map[string]int{"begin": 4, "done2": 2, "yesS": 0}
	lines, other := need[word]
	if !other {
		lines = 1
	}
	_, before, _ := n.Facts(o.Id)
	_, e := taken(o, word).on(n)
	_, behind, _ := n.Facts(o.Id)
	changed := factsText(before) != factsText(behind)
	switch {
	case free == 0 && changed, word == "begin" && (free >= 4) != (e == api.OK), free >= lines && lines > 0 && !changed:
		t.Fatalf("%v, %s, free %d: %d, changed %t", o, word, free, e, changed)
	case word == "begin" && free < 4:
		// Begin a smaller one, so that the journal is full.
		if _, e := n.Begin(made(o.Id, free-1)); e != api.OK {
			t.Fatalf("%v, free %d: %d", o, free, e)
		}
		taken(made(o.Id, free-1), "cancel").on(n)
		return free
	}
	return min(lines, free)
}

// P22.2, P22.3: the last line is written, and then each message, each Ring,
// Cancel and Accept at each place: nothing changes; nothing is told but what
// needs no line.
func TestFull(t *testing.T) {
	for _, place := range places {
		o := made(7, 2)
		room := len(at(t, place, 50, 3).p.lines)
		if strings.Contains(place, "crash2") {
			continue // there were more lines once
		}
		w := at(t, place, room, 3)
		before := nodeText(w.n)
		for range 2 {
			for _, word := range append(works, "ring", "ring", "ring", "ring", "cancel", "accept") {
				got, e := taken(o, word).on(w.n)
				want, no := taken(o, word).onPlain(w.p)
				if fmt.Sprint(got, e) != fmt.Sprint(want, no) {
					t.Errorf("%s, %s: it tells %+v, %d; want %+v, %d", place, word, got, e, want, no)
				}
				if nodeText(w.n) != before {
					t.Fatalf("%s, %s: it was %s, and is %s", place, word, before, nodeText(w.n))
				}
				if e != api.OK && len(got) != 0 {
					t.Errorf("%s, %s: %+v is sent beside %d", place, word, got, e)
				}
			}
			if _, e := w.n.Begin(made(8, 0)); e != api.ErrFull {
				t.Errorf("%s: Begin of another one is %d", place, e)
			}
		}
		w.holdStep(t, place, step{kind: goesDown})
		w.holdStep(t, place, step{kind: starts})
	}
}

// P22.2, P22.3: the same, said by hand: what is told where there is no room.
func TestFullByHand(t *testing.T) {
	for _, c := range []struct {
		words string // that write the last line
		room  int
		told  map[string]string // what is told for all that; of others nothing
		no    [2]api.Errno      // of Cancel, of Accept
	}{
		{"", 3, map[string]string{"ring": "do0"}, [2]api.Errno{api.ErrFull, api.ErrState}},
		{"done0", 4, map[string]string{"ring": "do1"}, [2]api.Errno{api.ErrFull, api.ErrState}},
		{"done0 done1", 5, nil, [2]api.Errno{api.ErrFull, api.ErrState}},
		{"done0 done1", 6, map[string]string{"ring": "askS askP"}, [2]api.Errno{api.ErrFull, api.ErrState}},
		{"done0 done1 yesS", 6, map[string]string{"ring": "askS askP"}, [2]api.Errno{api.ErrFull, api.ErrState}},
		{"done0 done1 yesS yesP", 7, map[string]string{"ring": "commitS commitP ship", "queryS": "commitsS", "queryP": "commitsP"}, [2]api.Errno{api.ErrState, api.ErrState}},
		{"done0 done1 yesS yesP damageP", 8, map[string]string{"ring": "commitS ship", "queryS": "commitsS", "queryP": "commitsP", "damageP": "damagedP"}, [2]api.Errno{api.ErrState, api.ErrFull}},
		{"cancel", 4, map[string]string{"ring": "abortS abortP undo1", "queryS": "abortsS", "queryP": "abortsP"}, [2]api.Errno{api.ErrState, api.ErrState}},
		{"cancel damageS", 5, map[string]string{"ring": "abortP undo1", "queryS": "abortsS", "queryP": "abortsP", "damageS": "damagedS"}, [2]api.Errno{api.ErrState, api.ErrFull}},
	} {
		for _, word := range append(works, "ring") {
			n, o := chief.New(1, c.room, 1), made(7, 2)
			for _, w := range strings.Fields("begin " + c.words) {
				taken(o, w).on(n)
			}
			before := nodeText(n)
			what := fmt.Sprint(c.words, ", room ", c.room)
			holdStep(t, what, n, taken(o, word), sends(o, c.told[word]), api.OK)
			holdStep(t, what, n, taken(o, "cancel"), nil, c.no[0])
			holdStep(t, what, n, taken(o, "accept"), nil, c.no[1])
			if nodeText(n) != before {
				t.Errorf("%s, %s: it was %s, and is %s", what, word, before, nodeText(n))
			}
		}
	}
}

// P22.1, P22.2: the last step is done, and there is no room for asked: it is
// done, and nothing is sent, till a crash makes room for it.
func TestNoRoomToAsk(t *testing.T) {
	n, o := chief.New(2, 4, 3), made(7, 1)
	n.Begin(o)
	n.Begin(made(8, 0))
	// Three lines are sure; the fourth, that 8 is asked, is not.
	holdStep(t, "full", n, taken(o, "done0"), nil, api.OK)
	holdOrder(t, "full", n, o, api.SForward, "-/-/")
	n.Crash(0, 0)
	n.Start()
	holdStep(t, "room for done", n, taken(o, "done0"), nil, api.OK)
	holdOrder(t, "room for done", n, o, api.SForward, "x/-/")
	n.Crash(0, 0)
	n.Start()
	holdStep(t, "room for asked", n, taken(made(8, 0), "ring"), sends(made(8, 0), "askS askP"), api.OK)
	holdOrder(t, "room for asked", n, made(8, 0), api.SPreparing, "// asked")
	n = chief.New(2, 3, 3)
	n.Begin(o)
	holdStep(t, "no room for asked", n, taken(o, "done0"), nil, api.OK)
	holdOrder(t, "no room for asked", n, o, api.SForward, "x/-/")
	for range 5 {
		holdStep(t, "no room for asked", n, taken(o, "ring"), nil, api.OK)
		for _, word := range []string{"yesS", "yesP", "noS", "done0", "fail0"} {
			holdStep(t, "no room for asked", n, taken(o, word), nil, api.OK)
		}
	}
	n.Crash(1, 0)
	n.Start()
	holdOrder(t, "it is done", n, o, api.SForward, "x/-/")
	n.Crash(0, 0)
	n.Start()
	holdOrder(t, "it is sure", n, o, api.SForward, "x/-/")
}

// P22.3: a bell that notes asked asks for it; both keepers are asked, and can
// decide.
func TestRingAsks(t *testing.T) {
	for _, end := range []string{"yesS yesP", "yesP yesS"} {
		w, o := at(t, "done0 done1 crash2 start", 50, 3), made(7, 2)
		holdOrder(t, end, w.n, o, api.SForward, "xx/--/")
		holdStep(t, end, w.n, taken(o, "ring"), sends(o, "askS askP"), api.OK)
		holdOrder(t, end, w.n, o, api.SPreparing, "xx/--/ asked")
		l := strings.Fields(end)
		holdStep(t, end, w.n, taken(o, l[0]), nil, api.OK)
		// Rung once more it is asked again, and what was said stays said.
		holdStep(t, end, w.n, taken(o, "ring"), sends(o, "askS askP"), api.OK)
		holdStep(t, end, w.n, taken(o, l[1]), sends(o, "commitS commitP ship"), api.OK)
	}
}

// P22.1: room of 1: an order without steps begins, and stays there.
func TestRoomOfOne(t *testing.T) {
	n, o := chief.New(64, 1, 1), made(999, 0)
	holdStep(t, "one", n, taken(o, "begin"), nil, api.OK)
	holdStep(t, "another", n, taken(made(1, 0), "begin"), nil, api.ErrFull)
	for range 3 {
		for _, word := range []string{"ring", "ring", "yesS", "yesP", "noS", "ackS", "damageP", "shipped", "queryS"} {
			holdStep(t, "one", n, taken(o, word), nil, api.OK)
		}
		holdStep(t, "one", n, taken(o, "cancel"), nil, api.ErrFull)
		holdStep(t, "one", n, taken(o, "accept"), nil, api.ErrState)
		holdOrder(t, "one", n, o, api.SForward, "//")
		n.Crash(9, 9)
		n.Start()
	}
}

// P22.1 to P22.4: every story with every room that is too small for it goes by
// what there is room for.
func TestEveryRoom(t *testing.T) {
	for _, s := range stories {
		for room := 1; room <= 20; room++ {
			for stay := range 3 {
				w, o := newPair(1, room, 2), made(7, s.steps)
				what := fmt.Sprintf("%s, room %d", s.name, room)
				for _, x := range s.tales {
					w.holdStep(t, what, taken(o, x.word))
					w.holdStep(t, what, taken(o, "ring"))
				}
				w.holdStep(t, what, step{kind: goesDown, crash: crash{stay: stay}})
				w.holdStep(t, what, step{kind: starts})
				w.holdBells(t, what, 7)
			}
		}
	}
}
