package chief_test

import (
	"fmt"
	"slices"
	"testing"

	"wharfinger/api"
	"wharfinger/chief"
	"wharfinger/saga"
)

// holdRuns holds every run of so many of the words, from a place on, against a
// plain chief.
func holdRuns(t *testing.T, place string, length, room, tries int, words []string) {
	t.Helper()
	runs, o := 1, made(7, 2)
	for range length {
		runs *= len(words)
	}
	for i := range runs {
		w := newPair(2, room, tries)
		w.quietly(o, "begin "+place)
		what := place
		for k, rest := 0, i; k < length; k, rest = k+1, rest/len(words) {
			word := words[rest%len(words)]
			what += " " + word
			want, no := taken(o, word).onPlain(w.p)
			holdStep(t, what, w.n, taken(o, word), want, no)
		}
		w.hold(t, what)
		if t.Failed() {
			t.Fatalf("room %d, tries %d", room, tries)
		}
	}
}

// P22.2 to P22.4: every run of two steps from each place on, and of three from
// some, held against a plain chief.
func TestAllRuns(t *testing.T) {
	words := append([]string{"ring", "cancel", "accept", "crash0", "crash1", "crash2", "start"}, works...)
	for _, place := range places {
		holdRuns(t, place, 2, 50, 1, words)
	}
	some := []string{"done0", "done1", "fail1", "undone1", "yesS", "yesP", "noP", "ackS", "ackP", "damageS", "shipped", "ring", "accept", "crash0", "crash1", "start"}
	for _, place := range []string{"", "done0 done1", "done0 done1 yesP yesS", "cancel undone1"} {
		holdRuns(t, place, 3, 8, 1, some)
	}
}

// draws is a row of numbers that look like no rule.
type draws int

func (d *draws) next(n int) int {
	*d = (*d*1103515245 + 12345) % (1 << 31)
	return int(*d>>8) % n
}

// ofId is the order of an id: how many steps it has hangs on that.
func ofId(id int) api.Order { return made(id, id%4) }

// draw is some step about one of the orders; few are crashes, and most messages
// come from whom they should.
func (d *draws) draw(ids int) step {
	o := ofId(1 + (d.next(ids)*377+1)%api.MaxId)
	switch d.next(30) {
	case 0:
		return step{kind: goesDown, crash: crash{d.next(6) - 1, d.next(20) - 1}}
	case 1, 2, 3:
		return step{kind: starts}
	case 4, 5, 6, 7:
		return step{kind: begins, o: o}
	case 8:
		return step{kind: cancels, id: o.Id}
	case 9, 10:
		return step{kind: accepts, id: o.Id}
	case 11, 12:
		return step{kind: rings, id: o.Id}
	case 13:
		l := strange(made(o.Id, 2))
		return step{m: l[d.next(len(l))]}
	case 14:
		return step{m: api.Msg{Kind: d.next(20), From: d.next(8), Id: o.Id, Step: d.next(4)}}
	}
	word := works[d.next(len(works))]
	if (word[len(word)-1] == '0' || word[len(word)-1] == '1') && len(o.Steps) == 0 {
		word = "yesS"
	}
	if len(o.Steps) > 0 && d.next(3) > 0 {
		word = []string{"done", "done", "done", "undone", "undone", "fail"}[d.next(6)] + string(rune('0'+d.next(len(o.Steps))))
	}
	if len(o.Steps) == 1 && word[len(word)-1] == '1' {
		word = "yesP"
	}
	return step{m: heard(o, word)}
}

// P22.1 to P22.4: long runs, of few orders and of many, held against a plain
// chief.
func TestLongRuns(t *testing.T) {
	for seed, c := range []struct{ most, room, tries, ids int }{
		{1, 4096, 1, 1}, {1, 4096, 3, 3}, {2, 4096, 20, 4}, {3, 40, 2, 5}, {5, 100, 1, 12}, {64, 300, 3, 40},
		{64, 4096, 2, 100}, {8, 20, 1, 20}, {64, 4096, 5, 999}, {4, 7, 1, 6}, {3, 300, 4, 300},
	} {
		w, d := newPair(c.most, c.room, c.tries), draws(seed)
		for i := range 1500 {
			s := d.draw(c.ids)
			w.holdStep(t, fmt.Sprint("run ", seed, ", step ", i), s)
			if t.Failed() {
				t.FailNow()
			}
		}
		w.holdStep(t, seed, step{kind: starts})
		for id := range api.MaxId + 2 {
			if _, _, ok := w.p.facts(id); !ok {
				holdNone(t, seed, w.n, id)
			}
		}
		w.holdBells(t, seed, slices.Collect(w.n.Ids())...)
	}
}

// follow is what is seen of a chief from outside.
type follow struct {
	said    map[int][2]bool // by id: who said yes since it was asked, and no crash
	decided map[int]int     // by id: MCommit or MAbort, as it was first told or seen
}

// see holds P22.5 of a step, where there is room for all: what is sent is what
// saga tells; nobody is told another decision than the first one; it is decided
// for it just behind both's yes.
func (f *follow) see(t *testing.T, what any, n *chief.Node, s step) {
	t.Helper()
	if s.kind == goesDown && !n.Down() {
		f.said = map[int][2]bool{}
	}
	id := max(s.id, s.m.Id, s.o.Id)
	_, was, _ := n.Facts(id)
	if s.kind == handles && s.m.To == api.Chief && s.m.Kind == api.MYes && was.Asked && (s.m.From == 1 || s.m.From == 2) {
		said := f.said[id]
		said[s.m.From-1] = true
		f.said[id] = said
	}
	told, _ := s.on(n)
	o, now, _ := n.Facts(id)
	rest := told
	for len(rest) > 0 && slices.Contains([]int{api.MDamaged, api.MCommits, api.MAborts}, rest[0].Kind) {
		rest = rest[1:]
	}
	if len(rest) > 0 && !slices.Equal(rest, saga.Next(o, now)) {
		t.Errorf("%v: %v sends %+v; saga tells %+v", what, s, rest, saga.Next(o, now))
	}
	for _, m := range told {
		f.decision(t, what, m)
	}
	if now.Yes && !was.Yes && s.kind != starts && f.said[id] != [2]bool{true, true} {
		t.Errorf("%v: %v: decided for %d; yes said %v", what, s, id, f.said[id])
	}
	if !now.Yes && !now.Turned && was.Asked && f.said[id] == [2]bool{true, true} && s.kind == handles && s.m.Kind == api.MYes && !n.Down() {
		t.Errorf("%v: %v: not decided for %d, though both said yes", what, s, id)
	}
	f.holdDecided(t, what, n)
}

// decision holds that a message tells no other decision than was told.
func (f *follow) decision(t *testing.T, what any, m api.Msg) {
	t.Helper()
	kind := map[int]int{api.MCommit: api.MCommit, api.MCommits: api.MCommit, api.MShip: api.MCommit, api.MAbort: api.MAbort, api.MAborts: api.MAbort, api.MUndo: api.MAbort}[m.Kind]
	if kind == 0 {
		return
	}
	if first := f.decided[m.Id]; first != 0 && first != kind {
		t.Errorf("%v: %+v is told; it was %d first", what, m, first)
	}
	f.decided[m.Id] = kind
}

// holdDecided holds that all that was decided is so.
func (f *follow) holdDecided(t *testing.T, what any, n *chief.Node) {
	t.Helper()
	if n.Down() {
		return
	}
	for id, kind := range f.decided {
		_, now, ok := n.Facts(id)
		if ok && (now.Yes != (kind == api.MCommit) || now.Turned != (kind == api.MAbort)) {
			t.Errorf("%v: %d was told %d, and is %q", what, id, kind, factsText(now))
		}
	}
	for id := range n.Ids() {
		_, now, _ := n.Facts(id)
		switch {
		case now.Yes:
			f.decided[id] = api.MCommit
		case now.Turned:
			f.decided[id] = api.MAbort
		}
	}
}

// P22.5: whatever comes, whatever crashes, what is decided stays; it is decided
// for it just if both keepers said yes; what is sent goes by saga.
func TestWhatFollows(t *testing.T) {
	for seed := range 30 {
		n, d := chief.New(5, 4096, 3), draws(seed+500)
		f := &follow{map[int][2]bool{}, map[int]int{}}
		for i := range 800 {
			s := d.draw(3 + seed)
			if s.m.Kind == api.MAsk {
				continue // of what is no order it is told that it is given up
			}
			f.see(t, fmt.Sprint("run ", seed, ", step ", i), n, s)
			if t.Failed() {
				t.FailNow()
			}
		}
	}
}

// P22.5: what a keeper that asks was told of an order that is led stays so.
func TestToldStays(t *testing.T) {
	for seed := range 12 {
		n, d := chief.New(5, 60+50*seed, 3), draws(seed+900)
		told := map[int]int{}
		for i := range 600 {
			s := d.draw(6)
			s.on(n)
			for id := range n.Ids() {
				for _, m := range n.Handle(api.Msg{Kind: api.MAsk, From: api.Purse, Id: id}) {
					if told[id] != 0 && told[id] != m.Kind {
						t.Fatalf("run %d, step %d: %d was told to be %d, and now %d", seed, i, id, told[id], m.Kind)
					}
					told[id] = m.Kind
				}
			}
		}
		if len(told) == 0 {
			t.Errorf("run %d: nothing was decided", seed)
		}
	}
}

// R6: two chiefs that are treated alike tell alike.
func TestSameAgain(t *testing.T) {
	tell := func() string {
		n, d, s := chief.New(10, 500, 2), draws(77), ""
		for range 1000 {
			l, e := d.draw(30).on(n)
			s += fmt.Sprint(l, e, nodeText(n))
		}
		return s
	}
	if tell() != tell() {
		t.Error("they tell otherwise")
	}
}
