package saga_test

import (
	"slices"
	"testing"

	"wharfinger/api"
	"wharfinger/flow"
	"wharfinger/saga"
)

// What became of a step at its service.
const (
	untouched = iota
	did
	cant
	undid
)

// world is an order, led by saga alone: what is known of it where it is led,
// what became of it elsewhere, what was ever sent, and what happened. It is
// made of arrays, so that worlds can be held against each other.
type world struct {
	steps        int
	done, undone [api.MaxSteps]bool
	asked        bool
	yes, turned  bool
	said, acks   [2]bool
	shipped      bool
	at           [api.MaxSteps]int
	went         bool
	sent         [api.MDamaged + 1][api.Nodes]bool // by kind, to whom
	row          [2*api.MaxSteps + 2]api.Act
	happened     int
}

func (w world) facts() saga.Facts {
	return saga.Facts{Done: slices.Clone(w.done[:w.steps]), Undone: slices.Clone(w.undone[:w.steps]), Asked: w.asked, Yes: w.yes, Turned: w.turned, Acks: w.acks, Shipped: w.shipped}
}

// goesOn sends what is needed.
func (w world) goesOn() world {
	for _, m := range saga.Next(made(w.steps), w.facts()) {
		w.sent[m.Kind][m.To] = true
		w.asked = w.asked || m.Kind == api.MPrepare
	}
	return w
}

func (w world) happens(kind, step int) world {
	w.row[w.happened] = api.Act{Kind: kind, Step: step}
	w.happened++
	return w
}

// turns is decided against, if nothing is decided.
func (w world) turns() world {
	if w.yes || w.turned {
		return w
	}
	w.turned = true
	return w.happens(api.MAborts, 0)
}

// reached are the worlds that may come of a message of that kind to that node:
// it does what it is asked or, where it may, says no; what it answers is heard,
// or lost.
func (w world) reached(kind, to int) []world {
	switch kind {
	case api.MDo, api.MUndo:
		step := slices.IndexFunc(made(w.steps).Steps, func(s api.Step) bool { return s.Service == to })
		if kind == api.MDo {
			return w.asksToDo(step)
		}
		return w.asksToUndo(step)
	case api.MPrepare:
		return []world{w.hearsYes(to - api.Stock), w.turns()}
	case api.MCommit, api.MAbort:
		w.acks[to-api.Stock] = true
		return []world{w}
	case api.MShip:
		if !w.went {
			w.went = true
			w = w.happens(api.MShipped, 0)
		}
		heard := w
		heard.shipped = true
		return []world{w, heard}
	}
	return nil
}

func (w world) asksToDo(step int) []world {
	var all []world
	if w.at[step] == untouched {
		no := w
		no.at[step] = cant
		all = append(all, no, no.turns())
		w.at[step] = did
		w = w.happens(api.MDone, step)
	}
	if w.at[step] != did {
		return append(all, w, w.turns())
	}
	heard := w
	if !w.asked && !w.turned && !slices.Contains(w.done[:step], false) {
		heard.done[step] = true
	}
	return append(all, w, heard)
}

func (w world) asksToUndo(step int) []world {
	switch w.at[step] {
	case did:
		w = w.happens(api.MUndone, step)
		w.at[step] = undid
	case untouched:
		w.at[step] = undid
	}
	heard := w
	if !slices.Contains(w.undone[step+1:w.steps], false) {
		heard.undone[step] = true
	}
	return []world{w, heard}
}

func (w world) hearsYes(keeper int) world {
	w.said[keeper] = true
	if w.said == both && !w.yes && !w.turned {
		w.yes = true
		return w.happens(api.MCommits, 0)
	}
	return w
}

// follow are all worlds that may come next: any message that was ever sent
// comes, now for the first time or again, or somebody cancels.
func (w world) follow() []world {
	all := []world{w.turns().goesOn()}
	for kind, nodes := range w.sent {
		for to, sent := range nodes {
			if !sent {
				continue
			}
			for _, next := range w.reached(kind, to) {
				all = append(all, next.goesOn())
			}
		}
	}
	return all
}

// settled is what comes of w, where all that is needed is heard and nobody
// says no, and in how many rounds.
func (w world) settled() (world, int) {
	rounds := 0
	for ; rounds < 100; rounds++ {
		need := saga.Next(made(w.steps), w.facts())
		if len(need) == 0 {
			break
		}
		for _, m := range need {
			all := w.reached(m.Kind, m.To)
			if m.Kind == api.MPrepare {
				w = all[0]
			} else {
				w = all[len(all)-1]
			}
		}
		w = w.goesOn()
	}
	return w, rounds
}

// holdWorld holds that what is known may be, and what happened is legal.
func holdWorld(t *testing.T, w world) {
	t.Helper()
	o, f := made(w.steps), w.facts()
	row := w.row[:w.happened]
	if !saga.May(o, f) {
		t.Fatalf("%d steps, %v: %+v may not be", w.steps, row, f)
	}
	if got := flow.Legal(o, row); got != len(row) {
		t.Fatalf("%d steps: of %v %d may happen", w.steps, row, got)
	}
	if saga.Over(o, f) {
		holdEnd(t, w)
	}
}

// holdEnd holds of one that is over that it is filled whole or not at all.
func holdEnd(t *testing.T, w world) {
	t.Helper()
	for step, at := range w.at[:w.steps] {
		if w.turned == (at == did) {
			t.Fatalf("%+v: over, turned %t, and of step %d is %d", w, w.turned, step, at)
		}
	}
	if w.went != w.yes {
		t.Fatalf("%+v: over, for it %t, and its parcel went %t", w, w.yes, w.went)
	}
}

// P16.4 (T2): whatever is answered, lost, late or there again: what happens to
// an order goes by flow, what is known of it may be, and from wherever it came
// it ends, whole or not at all, where nothing is lost any more.
func TestWorldsGoByFlow(t *testing.T) {
	for steps := range api.MaxSteps + 1 {
		first := world{steps: steps}.goesOn()
		seen := map[world]struct{}{first: {}}
		ends := map[int]int{}
		for todo := []world{first}; len(todo) > 0; todo = todo[1:] {
			holdWorld(t, todo[0])
			end, rounds := todo[0].settled()
			holdWorld(t, end)
			state := saga.State(made(steps), end.facts())
			if rounds > 2*steps+3 || !saga.Over(made(steps), end.facts()) {
				t.Fatalf("%+v: %d rounds, then state %d", todo[0], rounds, state)
			}
			ends[state]++
			for _, next := range todo[0].follow() {
				if _, ok := seen[next]; !ok {
					seen[next] = struct{}{}
					todo = append(todo, next)
				}
			}
		}
		t.Logf("%d steps: %d worlds, %v", steps, len(seen), ends)
		if ends[api.SShipped] == 0 || ends[api.SAborted] == 0 {
			t.Errorf("%d steps: of %d worlds ended by state: %v", steps, len(seen), ends)
		}
	}
}
