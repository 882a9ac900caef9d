package model_test

import (
	"slices"
	"testing"

	"wharfinger/api"
	"wharfinger/model"
)

var (
	commits = api.Act{Kind: api.MCommits}
	aborts  = api.Act{Kind: api.MAborts}
	shipped = api.Act{Kind: api.MShipped}
)

func done(step int) api.Act   { return api.Act{Kind: api.MDone, Step: step} }
func undone(step int) api.Act { return api.Act{Kind: api.MUndone, Step: step} }

func row(acts ...api.Act) []api.Act { return acts }

// made is an order of so many steps, whose services do not rise.
func made(steps int) api.Order {
	all := []api.Step{{Service: api.Fraud, N: 3}, {Service: api.Coupon, N: 1}, {Service: api.Credit, N: api.MaxAmount}}
	return api.Order{Id: 7, Item: 2, Qty: 5, Client: 3, Price: 100, Steps: all[:steps]}
}

// plain is a model that keeps what there is at each step, and whether each of
// the others happened.
type plain struct {
	steps                  []api.Step
	done, undone           [api.MaxSteps]bool
	commits, aborts, ships bool
	seen                   []api.Act
}

func plainOf(o api.Order) plain { return plain{steps: slices.Clone(o.Steps)} }

// may tells whether a may happen now, by the words of chapter 6.
func (p plain) may(a api.Act) bool {
	ofStep := a.Step >= 0 && a.Step < len(p.steps)
	back := p.undone != [api.MaxSteps]bool{}
	switch a.Kind {
	case api.MDone:
		return ofStep && !p.done[a.Step] && (a.Step == 0 || p.done[a.Step-1]) && !p.commits && !back
	case api.MCommits:
		return a.Step == 0 && !slices.Contains(p.done[:len(p.steps)], false) && !p.commits && !p.aborts && !back
	case api.MAborts:
		return a.Step == 0 && !p.aborts && !p.commits
	case api.MUndone:
		return ofStep && p.aborts && p.done[a.Step] && !p.undone[a.Step] && p.laterAreUndone(a.Step)
	case api.MShipped:
		return a.Step == 0 && p.commits && !p.ships
	}
	return false
}

func (p plain) laterAreUndone(step int) bool {
	for later := step + 1; later < len(p.steps); later++ {
		if p.done[later] && !p.undone[later] {
			return false
		}
	}
	return true
}

// see is what becomes of it; of what may not happen nothing does.
func (p plain) see(a api.Act) plain {
	if !p.may(a) {
		return p
	}
	switch a.Kind {
	case api.MDone:
		p.done[a.Step] = true
	case api.MUndone:
		p.undone[a.Step] = true
	case api.MCommits:
		p.commits = true
	case api.MAborts:
		p.aborts = true
	case api.MShipped:
		p.ships = true
	}
	p.seen = append(slices.Clone(p.seen), a)
	return p
}

func (p plain) held(service int) int {
	for i, s := range p.steps {
		if s.Service == service && p.done[i] && !p.undone[i] {
			return s.N
		}
	}
	return 0
}

func (p plain) clean() bool { return p.aborts && p.done == p.undone }

// services are those that there are, and numbers of none: of other nodes, and
// such as end in the bits of a service.
var services = []int{api.Coupon, api.Credit, api.Fraud, api.Chief, api.Stock, api.Purse, api.Shipper, api.Nodes, -1, -4, 99, 1<<32 + api.Coupon, 1<<32 + api.Fraud, -1 << 63, 1<<63 - 1}

// hold holds all that m tells against p.
func hold(t *testing.T, m *model.Model, p plain) {
	t.Helper()
	if got := m.Seen(); !slices.Equal(got, p.seen) {
		t.Errorf("Seen = %v; want %v", got, p.seen)
	}
	for _, service := range services {
		if got, want := m.Held(service), p.held(service); got != want {
			t.Errorf("behind %v: Held(%d) = %d; want %d", p.seen, service, got, want)
		}
	}
	if m.Sold() != p.commits || m.Sent() != p.ships || m.Clean() != p.clean() {
		t.Errorf("behind %v: Sold, Sent, Clean = %v, %v, %v; want %v, %v, %v", p.seen, m.Sold(), m.Sent(), m.Clean(), p.commits, p.ships, p.clean())
	}
}

// behind is a model of o that saw l, all of which may happen.
func behind(t *testing.T, o api.Order, l []api.Act) *model.Model {
	t.Helper()
	m := model.New(o)
	for i, a := range l {
		if !m.See(a) {
			t.Fatalf("behind %v: See(%v) = false", l[:i], a)
		}
	}
	return m
}
