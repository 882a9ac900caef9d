package model_test

import (
	"math"
	"slices"
	"testing"

	"wharfinger/api"
	"wharfinger/flow"
	"wharfinger/model"
)

// universe is acts of all kinds, and of none, with all steps, and none.
func universe() []api.Act {
	kinds := []int{-1, -api.MDone, 99, 1<<32 + api.MDone, 1<<32 + api.MShipped, math.MinInt, math.MaxInt}
	for kind := range api.MDamaged + 2 {
		kinds = append(kinds, kind)
	}
	steps := []int{-1, 0, 1, 2, 3, 4, -1 << 32, 1 << 32, math.MinInt, math.MaxInt}
	var all []api.Act
	for _, kind := range kinds {
		for _, step := range steps {
			all = append(all, api.Act{Kind: kind, Step: step})
		}
	}
	return all
}

// places are all rows that may happen to o, the empty one first.
func places(o api.Order) []plain {
	all := []plain{plainOf(o)}
	for i := 0; i < len(all); i++ {
		for _, a := range acts(len(o.Steps)) {
			if all[i].may(a) {
				all = append(all, all[i].see(a))
			}
		}
	}
	return all
}

// acts are all that may happen to an order of so many steps.
func acts(steps int) []api.Act {
	all := row(commits, aborts, shipped)
	for i := range steps {
		all = append(all, done(i), undone(i))
	}
	return all
}

// P23.1, P23.2, P23.3: at each place that there is, each act that there is: it
// is told as flow tells it and as the chapter's words do, and what is told
// behind it is what it comes to.
func TestEachActAtEachPlace(t *testing.T) {
	all := universe()
	for steps := range api.MaxSteps + 1 {
		o := made(steps)
		for _, p := range places(o) {
			for _, a := range all {
				m := behind(t, o, p.seen)
				hold(t, m, p)
				l := append(slices.Clone(p.seen), a)
				got := m.See(a)
				if got != (flow.Legal(o, l) == len(l)) || got != p.may(a) {
					t.Fatalf("%d steps, behind %v: See(%v) = %v", steps, p.seen, a, got)
				}
				hold(t, m, p.see(a))
				holdWhatFollows(t, o, m)
			}
		}
	}
}

// P23.1: how many places there are, lest the walk above go over too few. Ahead
// of MAborts there are 0 to all steps done, MCommits and MShipped; behind it, of
// j steps done, MAborts stands at one of j + 1 places, and 0 to j are undone.
func TestPlaces(t *testing.T) {
	for steps := range api.MaxSteps + 1 {
		want := steps + 3
		for j := range steps + 1 {
			want += (j + 1) * (j + 1)
		}
		if got := len(places(made(steps))); got != want {
			t.Errorf("%d steps: %d places; want %d", steps, got, want)
		}
	}
}

// P23.3: what follows, whatever was seen.
func holdWhatFollows(t *testing.T, o api.Order, m *model.Model) {
	t.Helper()
	seen := m.Seen()
	if m.Sent() && !m.Sold() {
		t.Errorf("behind %v: Sent, not Sold", seen)
	}
	if m.Sold() && m.Clean() {
		t.Errorf("behind %v: Sold, and Clean", seen)
	}
	if got := flow.Legal(o, seen); got != len(seen) {
		t.Errorf("of %v %d are Legal", seen, got)
	}
}

// P23.1, P23.2, P23.3: every run of so many acts, those that may not happen
// among them; what is Sold or Sent stays so, and is never Clean.
func TestRuns(t *testing.T) {
	for steps, long := range []int{7, 6, 5, 5} {
		o := made(steps)
		all := append(acts(steps), api.Act{}, done(steps), undone(-1))
		run := make([]api.Act, 0, long)
		var runs func()
		runs = func() {
			if len(run) == long {
				holdRun(t, o, run)
				return
			}
			for _, a := range all {
				run = append(run, a)
				runs()
				run = run[:len(run)-1]
			}
		}
		runs()
	}
}

func holdRun(t *testing.T, o api.Order, run []api.Act) {
	t.Helper()
	m, p := model.New(o), plainOf(o)
	for _, a := range run {
		sold, sent := m.Sold(), m.Sent()
		if got := m.See(a); got != p.may(a) {
			t.Fatalf("%d steps, %v: behind %v: See(%v) = %v", len(o.Steps), run, p.seen, a, got)
		}
		if sold && !m.Sold() || sent && !m.Sent() {
			t.Fatalf("%d steps, %v: no more Sold, or Sent, behind %v", len(o.Steps), run, a)
		}
		p = p.see(a)
		holdWhatFollows(t, o, m)
	}
	hold(t, m, p)
}

// P23.1, P23.3: what was seen stays as it is, however much may not happen
// behind it; and where an order comes to its end nothing may.
func TestEnds(t *testing.T) {
	for steps := range api.MaxSteps + 1 {
		o := made(steps)
		for _, p := range places(o) {
			m := behind(t, o, p.seen)
			for range 20 {
				for _, a := range universe() {
					if p.may(a) {
						continue
					}
					if m.See(a) {
						t.Fatalf("%d steps, behind %v: See(%v) = true", steps, p.seen, a)
					}
				}
			}
			hold(t, m, p)
			if m.Sent() && slices.ContainsFunc(universe(), p.may) {
				t.Errorf("%d steps, behind %v: more may happen", steps, p.seen)
			}
		}
	}
}
