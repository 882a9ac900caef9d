package chief_test

import (
	"fmt"
	"math"
	"strings"
	"testing"

	"wharfinger/api"
	"wharfinger/chief"
)

// crash is what is handed in to Crash.
type crash struct{ stay, torn int }

// crashes are with every number of lines that stay and every tear, of a journal
// of so many lines; and some far off.
func crashes(lines int) []crash {
	var l []crash
	far := []int{math.MinInt, -1 << 32, -1, most, 1 << 32, math.MaxInt}
	for stay := range lines + 2 {
		for torn := range 30 {
			l = append(l, crash{stay, torn})
		}
		for _, torn := range append([]int{api.MaxLine, api.MaxLine + 1}, far...) {
			l = append(l, crash{stay, torn}, crash{torn, stay})
		}
	}
	for _, stay := range far {
		for _, torn := range far {
			l = append(l, crash{stay, torn})
		}
	}
	return l
}

// holdDown holds that a node is down, and knows nothing.
func holdDown(t *testing.T, what any, n *chief.Node) {
	t.Helper()
	if !n.Down() {
		t.Errorf("%v: it is up", what)
	}
	holdIds(t, what, n)
	for _, id := range []int{-1, 0, 1, 6, 7, 8, 998, 999, 1000} {
		holdNone(t, what, n, id)
		holdStep(t, what, n, step{kind: rings, id: id}, nil, api.OK)
	}
}

// upTo is a pair behind so much of a story.
func upTo(t *testing.T, s story, tales, room int) pair {
	t.Helper()
	w := newPair(2, room, 2)
	for _, x := range s.tales[:tales] {
		w.quietly(made(7, s.steps), x.word)
	}
	w.hold(t, s.name)
	return w
}

// P22.4, P22.5: behind each step of each story each crash takes the node down
// and makes it forget; orders and facts are what the lines that stayed say.
func TestCrashBehindEach(t *testing.T) {
	for _, s := range stories {
		for i := range s.tales {
			for _, c := range crashes(min(i+1, 4)) {
				what := fmt.Sprintf("%s, %d, crash %v", s.name, i, c)
				w := upTo(t, s, i+1, 50)
				w.holdStep(t, what, step{kind: goesDown, crash: c})
				holdDown(t, what, w.n)
				w.holdStep(t, what, step{kind: starts})
				w.holdBells(t, what, 7)
				if t.Failed() {
					t.FailNow()
				}
			}
		}
	}
}

// P22.4: the way goes on behind a crash and a start, whatever was lost.
func TestGoesOn(t *testing.T) {
	for _, s := range stories {
		o := made(7, s.steps)
		for i := range s.tales {
			for stay := range 6 {
				what := fmt.Sprintf("%s, %d, %d stay", s.name, i, stay)
				w := upTo(t, s, i+1, 50)
				for range 2 {
					w.holdStep(t, what, step{kind: goesDown, crash: crash{stay, 3}})
					w.holdStep(t, what, step{kind: starts})
					for _, x := range s.tales[:i+1] {
						w.holdStep(t, what, taken(o, x.word))
					}
				}
				for _, x := range s.tales[i+1:] {
					w.holdStep(t, what, taken(o, x.word))
				}
				w.holdBells(t, what, 7)
			}
		}
	}
}

// P22.4: once more while it is down, and started twice; Start while it is up
// does nothing.
func TestCrashTwice(t *testing.T) {
	for _, s := range stories {
		for i := range s.tales {
			for _, c := range []crash{{0, 0}, {0, 5}, {1, 0}, {1, 5}, {99, 99}, {-1, -1}} {
				what := fmt.Sprintf("%s, %d, crash %v", s.name, i, c)
				w := upTo(t, s, i+1, 50)
				for range 2 {
					w.holdStep(t, what, step{kind: starts})
				}
				w.holdStep(t, what, step{kind: goesDown, crash: crash{1, 4}})
				w.holdStep(t, what, step{kind: goesDown, crash: c})
				holdDown(t, what, w.n)
				for range 3 {
					w.holdStep(t, what, step{kind: starts})
				}
				// All that stayed is sure now.
				w.holdStep(t, what, step{kind: goesDown, crash: c})
				w.holdStep(t, what, step{kind: starts})
				w.holdBells(t, what, 7)
			}
		}
	}
}

// P22.4: Start while it is up gives no tries back, and turns nothing.
func TestStartUp(t *testing.T) {
	n, o := chief.New(1, 50, 1), made(7, 0)
	n.Start()
	n.Begin(o)
	n.Handle(heard(o, "yesS"))
	holdStep(t, "up", n, taken(o, "ring"), sends(o, "askS askP"), api.OK)
	n.Start()
	holdOrder(t, "up", n, o, api.SPreparing, "// asked")
	holdStep(t, "up", n, taken(o, "yesP"), sends(o, "commitS commitP ship"), api.OK)
	n, o = chief.New(1, 50, 1), made(7, 1)
	n.Begin(o)
	n.Ring(7)
	n.Start()
	holdStep(t, "up", n, taken(o, "ring"), sends(o, "abortS abortP undo0"), api.OK)
}

// P22.4: what is sure, and what a crash may lose, said by hand: by how many lines
// stay, the facts behind Start.
func TestWhatStays(t *testing.T) {
	for words, facts := range map[string][]string{
		"begin":                                 {"--/--/", "--/--/"},
		"begin done0":                           {"--/--/", "x-/--/", "x-/--/"},
		"begin done0 done1":                     {"--/--/", "x-/--/", "xx/--/", "xx/--/ asked turned", "xx/--/ asked turned"},
		"begin done0 done1 yesS":                {"--/--/", "x-/--/", "xx/--/", "xx/--/ asked turned"},
		"begin done0 done1 yesS yesP":           {"xx/--/ asked yes", "xx/--/ asked yes"},
		"begin done0 done1 yesS yesP ackP":      {"xx/--/ asked yes", "xx/--/ asked yes ackP"},
		"begin done0 done1 yesS yesP shipped":   {"xx/--/ asked yes", "xx/--/ asked yes shipped"},
		"begin done0 done1 yesS yesP damageS":   {"xx/--/ asked yes ackS damageS", "xx/--/ asked yes ackS damageS"},
		"begin done0 done1 noS":                 {"xx/--/ asked turned", "xx/--/ asked turned"},
		"begin done0 done1 cancel":              {"xx/--/ asked turned"},
		"begin done0 fail1":                     {"x-/--/ turned", "x-/--/ turned"},
		"begin done0 fail1 undone1":             {"x-/--/ turned", "x-/-x/ turned"},
		"begin cancel ackS undone1 ackP":        {"--/--/ turned", "--/--/ turned ackS", "--/-x/ turned ackS", "--/-x/ turned ackS ackP"},
		"begin cancel undone1 ackS damageP":     {"--/-x/ turned ackS ackP damageP"},
		"begin cancel damageP undone1":          {"--/--/ turned ackP damageP", "--/-x/ turned ackP damageP"},
		"begin cancel damageP undone1 accept":   {"--/-x/ turned ackP damageP accepted"},
		"begin done0 ring ring ring":            {"x-/--/ turned"},
		"begin done0 ring ring":                 {"--/--/", "x-/--/"},
		"begin done0 crash0 start done0":        {"--/--/", "x-/--/"},
		"begin done0 crash1 start done1":        {"x-/--/", "xx/--/", "xx/--/ asked turned"},
		"begin done0 done1 crash2 start ring":   {"xx/--/", "xx/--/ asked turned"},
		"begin done0 done1 crash9 start ackS":   {"xx/--/ asked turned", "xx/--/ asked turned ackS"},
		"begin done0 done1 yesS crash9 start":   {"xx/--/ asked turned"},
		"begin done0 done1 yesS yesP ackS ring": {"xx/--/ asked yes", "xx/--/ asked yes ackS"},
	} {
		for stay, want := range facts {
			for _, torn := range []int{0, 1, 5, 99} {
				n, o := chief.New(1, 50, 2), made(7, 2)
				for _, word := range strings.Fields(words) {
					taken(o, word).on(n)
				}
				n.Crash(stay, torn)
				n.Start()
				if _, f, ok := n.Facts(7); factsText(f) != want || !ok {
					t.Errorf("%s, %d stay: %q, %t; want %q", words, stay, factsText(f), ok, want)
				}
			}
		}
	}
}

// P22.4: an order that begins makes sure what was noted of others ahead of it.
func TestBeginIsSure(t *testing.T) {
	n, o := chief.New(2, 50, 2), made(7, 2)
	n.Begin(o)
	n.Handle(heard(o, "done0"))
	n.Begin(made(8, 3))
	n.Crash(0, 0)
	n.Start()
	holdOrder(t, "7", n, o, api.SForward, "x-/--/")
	holdOrder(t, "8", n, made(8, 3), api.SForward, "---/---/")
	holdIds(t, "both", n, 7, 8)
}

// P22.1 to P22.4: while it is down nothing is handled; nothing of it is known
// behind the start, and no line was written.
func TestCallsDown(t *testing.T) {
	for _, place := range places {
		w, o := at(t, place, 50, 3), made(7, 2)
		for round := range 2 {
			w.holdStep(t, place, step{kind: goesDown, crash: crash{round, 4}})
			for _, word := range works {
				holdStep(t, place, w.n, taken(o, word), nil, api.OK)
			}
			for _, m := range strange(o) {
				holdStep(t, place, w.n, step{m: m}, nil, api.OK)
			}
			for _, id := range append([]int{7, 8, 999}, noIds...) {
				holdStep(t, place, w.n, step{kind: cancels, id: id}, nil, api.ErrDown)
				holdStep(t, place, w.n, step{kind: accepts, id: id}, nil, api.ErrDown)
				holdStep(t, place, w.n, step{m: api.Msg{Kind: api.MAsk, From: api.Stock, Id: id}}, nil, api.OK)
			}
			for _, o := range append(wrongOrders(), made(7, 2), made(8, 0)) {
				holdStep(t, place, w.n, step{kind: begins, o: o}, nil, api.ErrDown)
			}
			holdDown(t, place, w.n)
			w.holdStep(t, place, step{kind: starts})
		}
		w.holdBells(t, place, 7)
	}
}

// P22.4: a chief that leads nothing goes down and up too.
func TestCrashNew(t *testing.T) {
	for _, c := range crashes(1) {
		n := chief.New(1, 1, 1)
		n.Crash(c.stay, c.torn)
		holdDown(t, c, n)
		n.Start()
		if n.Down() {
			t.Errorf("%v: it is down", c)
		}
		holdIds(t, c, n)
		holdStep(t, c, n, taken(made(7, 0), "begin"), nil, api.OK)
	}
}

// P22.4: who is Asked and not decided turns at Start, by id, as far as there is
// room; it sends nothing; who does not turn goes on being asked.
func TestStartTurns(t *testing.T) {
	ids := []int{500, 3, 999, 41}
	rising := []int{3, 41, 500, 999}
	for free := range 6 {
		// Two lines for each order that is asked; one for one that is not.
		n := chief.New(9, 8+2+free, 1)
		for _, id := range ids {
			holdStep(t, free, n, taken(made(id, 0), "begin"), sends(made(id, 0), "askS askP"), api.OK)
			holdStep(t, free, n, taken(made(id, 0), "yesS"), nil, api.OK)
		}
		n.Begin(made(40, 1))
		n.Crash(0, 0)
		n.Start()
		holdOrder(t, free, n, made(40, 1), api.SForward, "-/-/")
		for i, id := range rising {
			what := fmt.Sprint("order ", id, ", free ", free)
			o := made(id, 0)
			if i < free {
				holdOrder(t, what, n, o, api.SUndoing, "// asked turned")
				holdStep(t, what, n, taken(o, "yesP"), nil, api.OK)
				holdStep(t, what, n, taken(o, "queryP"), sends(o, "abortsP"), api.OK)
				holdStep(t, what, n, taken(o, "ring"), sends(o, "abortS abortP"), api.OK)
				continue
			}
			holdOrder(t, what, n, o, api.SPreparing, "// asked")
			holdStep(t, what, n, taken(o, "yesP"), nil, api.OK)
			holdStep(t, what, n, taken(o, "yesS"), nil, api.OK)
			holdStep(t, what, n, taken(o, "noS"), nil, api.OK)
			holdStep(t, what, n, taken(o, "queryP"), nil, api.OK)
			holdStep(t, what, n, taken(o, "ring"), sends(o, "askS askP"), api.OK)
			holdStep(t, what, n, taken(o, "ring"), nil, api.OK)
			holdOrder(t, what, n, o, api.SPreparing, "// asked")
		}
	}
}

// P22.4: bells are hung for all that are not Over, with all their tries.
func TestBellsBehindStart(t *testing.T) {
	for _, place := range places {
		for _, before := range []int{0, 1, 2} {
			w, o := newPair(2, 50, 2), made(7, 2)
			w.lead(t, o, "begin "+place)
			for range before {
				w.lead(t, o, "ring")
			}
			w.lead(t, made(9, 1), "begin")
			w.holdStep(t, place, step{kind: goesDown, crash: crash{stay: 99}})
			w.holdStep(t, place, step{kind: starts})
			w.holdBells(t, place, 7, 8, 9)
		}
	}
}
