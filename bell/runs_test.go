package bell_test

import (
	"fmt"
	"slices"
	"testing"

	"wharfinger/api"
	"wharfinger/bell"
)

// Kinds of calls.
const (
	hangs = iota
	cuts
	rings
	agains
	kinds
)

// call is one of these kinds for id.
type call struct{ kind, id int }

func (c call) String() string {
	return fmt.Sprintf("%s(%d)", []string{"Hang", "Cut", "Ring", "Again"}[c.kind], c.id)
}

// on makes the call; what Hang, Cut and Again tell stands as rings.
func (c call) on(b *bell.Tower) ring {
	switch c.kind {
	case hangs:
		return ring{b.Hang(c.id), false}
	case cuts:
		return ring{b.Cut(c.id), false}
	case agains:
		return ring{b.Again(c.id), false}
	}
	does, often := b.Ring(c.id)
	return ring{does, often}
}

// plain is a tower that keeps all calls that were not refused, and goes through
// them at each call.
type plain struct {
	tries int
	calls []call
}

// rung is how often id's bell was rung since it had all its tries; -1: it has
// no bell.
func (p *plain) rung(id int) int {
	n := -1
	for _, c := range p.calls {
		if c.id != id {
			continue
		}
		switch c.kind {
		case hangs, agains:
			n = 0
		case cuts:
			n = -1
		case rings:
			n++
		}
	}
	return n
}

func (p *plain) do(c call) ring {
	rung := p.rung(c.id)
	may := rung >= 0
	if c.kind == hangs {
		may = rung < 0 && 1 <= c.id && c.id <= 999
	}
	if !may {
		return none
	}
	p.calls = append(p.calls, c)
	return ring{true, c.kind == rings && rung >= p.tries}
}

// ids is who of these has a bell, rising.
func (p *plain) ids(of []int) []int {
	var l []int
	for _, id := range of {
		if p.rung(id) >= 0 {
			l = append(l, id)
		}
	}
	slices.Sort(l)
	return l
}

// holdCall makes the call on both.
func holdCall(t *testing.T, what any, b *bell.Tower, p *plain, c call) {
	t.Helper()
	if got, want := c.on(b), p.do(c); got != want {
		t.Errorf("%v: %v tells %v; want %v", what, c, got, want)
	}
}

// holdAll holds all that is to be seen of b against a plain tower; it leaves no
// tries.
func holdAll(t *testing.T, what any, b *bell.Tower, p *plain, of []int) {
	t.Helper()
	holdIds(t, what, b, p.ids(of)...)
	for _, id := range of {
		if rung := p.rung(id); rung < 0 {
			holdNone(t, what, b, id)
		} else {
			holdLeft(t, what, b, id, max(p.tries-rung, 0))
		}
	}
}

// P18.1: every run of five calls, held against a plain tower, for some tries.
func TestAllRuns(t *testing.T) {
	const length = 5
	of := []int{5, 999, 1000}
	var calls []call
	for kind := range kinds {
		for _, id := range of {
			calls = append(calls, call{kind, id})
		}
	}
	runs := 1
	for range length {
		runs *= len(calls)
	}
	for tries := 1; tries <= 3; tries++ {
		for n := range runs {
			b, p := bell.New(tries), &plain{tries: tries}
			var run [length]call
			for i, rest := 0, n; i < length; i, rest = i+1, rest/len(calls) {
				run[i] = calls[rest%len(calls)]
				holdCall(t, run, b, p, run[i])
			}
			holdAll(t, run, b, p, of)
			if t.Failed() {
				t.Fatalf("tries %d", tries)
			}
		}
	}
}

// draws is a row of numbers that look like no rule.
type draws int

func (d *draws) next(n int) int {
	*d = (*d*1103515245 + 12345) % (1 << 31)
	return int(*d>>8) % n
}

// P18.1: long runs, of few ids and of many, held against a plain tower.
func TestLongRuns(t *testing.T) {
	for seed, c := range []struct{ tries, ids int }{{1, 1}, {2, 3}, {3, 10}, {5, 4}, {19, 2}, {20, 1}, {20, 100}} {
		b, p, d := bell.New(c.tries), &plain{tries: c.tries}, draws(seed)
		var of []int
		for i := range c.ids {
			of = append(of, 1+(i*377+998)%api.MaxId)
		}
		of = append(of, 0, 1000)
		for range 1500 {
			kind := []int{rings, rings, rings, rings, rings, hangs, hangs, cuts, agains}[d.next(9)]
			holdCall(t, seed, b, p, call{kind, of[d.next(len(of))]})
			holdIds(t, seed, b, p.ids(of)...)
			if t.Failed() {
				t.FailNow()
			}
		}
		holdAll(t, seed, b, p, of)
	}
}

// bother does something to bells of other ids than the one that is looked at,
// and goes over them.
func bother(b *bell.Tower, d *draws, but int) {
	id := d.next(1003) - 1
	if id == but {
		id = but%api.MaxId + 1
	}
	call{d.next(kinds), id}.on(b)
	for id := range b.Ids() {
		if id >= 500 {
			break
		}
	}
}

// P18.2: a bell that is rung, and not given its tries back, comes to too often
// behind so many and not sooner, whatever is done with others meanwhile; and it
// stays so.
func TestComesToTooOften(t *testing.T) {
	for tries := 1; tries <= maxTries; tries++ {
		for _, id := range []int{1, 2, 500, 998, 999} {
			d := draws(1000*tries + id)
			b := bell.New(tries)
			for range 50 {
				bother(b, &d, id)
			}
			holdTrue(t, id, b.Hang(id))
			for round := range 3 {
				for n := range tries + 10 {
					for range d.next(8) {
						bother(b, &d, id)
					}
					want := rang
					if n >= tries {
						want = tooMany
					}
					holdRing(t, fmt.Sprintf("tries %d, round %d, behind %d", tries, round, n), b, id, want)
				}
				holdTrue(t, id, b.Again(id))
			}
		}
	}
}

// P18.2: what is refused of a bell, and what looks like it, gives no tries back
// and takes none.
func TestNothingElseCounts(t *testing.T) {
	for tries := 1; tries <= maxTries; tries++ {
		b := hung(t, tries, 5)
		for n := range tries + 5 {
			holdFalse(t, "Hang", b.Hang(5))
			for _, id := range noIds {
				for kind := range kinds {
					if got := (call{kind, id}).on(b); got != none {
						t.Errorf("%v tells %v", call{kind, id}, got)
					}
				}
			}
			holdIds(t, n, b, 5)
			want := rang
			if n >= tries {
				want = tooMany
			}
			holdRing(t, n, b, 5, want)
		}
	}
}

// P18.2: rung together, round by round, all bells come to too often in the same
// round; one that was hung later comes to it so much later.
func TestAllComeToTooOften(t *testing.T) {
	const tries = 4
	b := bell.New(tries)
	hungAt := map[int]int{}
	for round := range 12 {
		for _, id := range []int{999 - round, 1 + round} {
			holdTrue(t, id, b.Hang(id))
			hungAt[id] = round
		}
		for id := range b.Ids() {
			want := rang
			if round-hungAt[id] >= tries {
				want = tooMany
			}
			holdRing(t, round, b, id, want)
		}
	}
}

// R6: two towers that are treated alike tell alike.
func TestSameAgain(t *testing.T) {
	tell := func() string {
		b, d, s := bell.New(2), draws(77), ""
		for range 2000 {
			c := call{d.next(kinds), d.next(30)}
			s += fmt.Sprint(c, c.on(b))
		}
		return s + fmt.Sprint(slices.Collect(b.Ids()))
	}
	if tell() != tell() {
		t.Error("they tell otherwise")
	}
}
