package model_test

import (
	"math"
	"slices"
	"testing"

	"wharfinger/api"
	"wharfinger/flow"
	"wharfinger/model"
)

// told is what is to be seen of a model, but for Seen.
type told struct {
	fraud, coupon, credit int
	sold, sent, clean     bool
}

func tell(m *model.Model) told {
	return told{m.Held(api.Fraud), m.Held(api.Coupon), m.Held(api.Credit), m.Sold(), m.Sent(), m.Clean()}
}

// tale is one act, and what is told behind it.
type tale struct {
	a    api.Act
	ok   bool
	want told
}

const most = api.MaxAmount

// tales are ways of orders, written out, by how many steps they have.
var tales = []struct {
	what  string
	steps int
	l     []tale
}{
	{"the plan of no steps", 0, []tale{
		{commits, true, told{sold: true}},
		{shipped, true, told{sold: true, sent: true}},
	}},
	{"the plan of one step", 1, []tale{
		{done(0), true, told{fraud: 3}},
		{commits, true, told{fraud: 3, sold: true}},
		{shipped, true, told{fraud: 3, sold: true, sent: true}},
	}},
	{"the plan of three steps", 3, []tale{
		{done(0), true, told{fraud: 3}},
		{done(1), true, told{fraud: 3, coupon: 1}},
		{done(2), true, told{fraud: 3, coupon: 1, credit: most}},
		{commits, true, told{fraud: 3, coupon: 1, credit: most, sold: true}},
		{shipped, true, told{fraud: 3, coupon: 1, credit: most, sold: true, sent: true}},
	}},
	{"the way back with no steps", 0, []tale{
		{aborts, true, told{clean: true}},
	}},
	{"the way back from the beginning", 3, []tale{
		{aborts, true, told{clean: true}},
	}},
	{"the way back from one step that is done", 3, []tale{
		{done(0), true, told{fraud: 3}},
		{aborts, true, told{fraud: 3}},
		{undone(0), true, told{clean: true}},
	}},
	{"the way back from two steps that are done", 3, []tale{
		{done(0), true, told{fraud: 3}},
		{done(1), true, told{fraud: 3, coupon: 1}},
		{aborts, true, told{fraud: 3, coupon: 1}},
		{undone(1), true, told{fraud: 3}},
		{undone(0), true, told{clean: true}},
	}},
	{"the way back from the end of the steps", 3, []tale{
		{done(0), true, told{fraud: 3}},
		{done(1), true, told{fraud: 3, coupon: 1}},
		{done(2), true, told{fraud: 3, coupon: 1, credit: most}},
		{aborts, true, told{fraud: 3, coupon: 1, credit: most}},
		{undone(2), true, told{fraud: 3, coupon: 1}},
		{undone(1), true, told{fraud: 3}},
		{undone(0), true, told{clean: true}},
	}},
	{"a step that is done late", 2, []tale{
		{done(0), true, told{fraud: 3}},
		{aborts, true, told{fraud: 3}},
		{done(1), true, told{fraud: 3, coupon: 1}},
		{undone(0), false, told{fraud: 3, coupon: 1}},
		{undone(1), true, told{fraud: 3}},
		{undone(0), true, told{clean: true}},
	}},
	{"the first step done late, where it was clean", 1, []tale{
		{aborts, true, told{clean: true}},
		{done(0), true, told{fraud: 3}},
		{undone(0), true, told{clean: true}},
		{done(0), false, told{clean: true}},
	}},
	{"what may not happen, all along", 2, []tale{
		{undone(0), false, told{}},
		{done(1), false, told{}},
		{commits, false, told{}},
		{shipped, false, told{}},
		{done(0), true, told{fraud: 3}},
		{done(0), false, told{fraud: 3}},
		{undone(0), false, told{fraud: 3}},
		{commits, false, told{fraud: 3}},
		{done(1), true, told{fraud: 3, coupon: 1}},
		{done(2), false, told{fraud: 3, coupon: 1}},
		{done(-1), false, told{fraud: 3, coupon: 1}},
		{shipped, false, told{fraud: 3, coupon: 1}},
		{commits, true, told{fraud: 3, coupon: 1, sold: true}},
		{commits, false, told{fraud: 3, coupon: 1, sold: true}},
		{aborts, false, told{fraud: 3, coupon: 1, sold: true}},
		{undone(1), false, told{fraud: 3, coupon: 1, sold: true}},
		{shipped, true, told{fraud: 3, coupon: 1, sold: true, sent: true}},
		{shipped, false, told{fraud: 3, coupon: 1, sold: true, sent: true}},
		{aborts, false, told{fraud: 3, coupon: 1, sold: true, sent: true}},
	}},
	{"what may not happen on the way back", 2, []tale{
		{done(0), true, told{fraud: 3}},
		{done(1), true, told{fraud: 3, coupon: 1}},
		{aborts, true, told{fraud: 3, coupon: 1}},
		{aborts, false, told{fraud: 3, coupon: 1}},
		{commits, false, told{fraud: 3, coupon: 1}},
		{shipped, false, told{fraud: 3, coupon: 1}},
		{undone(2), false, told{fraud: 3, coupon: 1}},
		{undone(-1), false, told{fraud: 3, coupon: 1}},
		{undone(0), false, told{fraud: 3, coupon: 1}},
		{undone(1), true, told{fraud: 3}},
		{undone(1), false, told{fraud: 3}},
		{done(1), false, told{fraud: 3}},
		{undone(0), true, told{clean: true}},
		{undone(0), false, told{clean: true}},
		{aborts, false, told{clean: true}},
		{commits, false, told{clean: true}},
	}},
	{"acts of a kind that there is not, or of a step that they have not", 1, []tale{
		{api.Act{}, false, told{}},
		{api.Act{Kind: api.MDo}, false, told{}},
		{api.Act{Kind: -api.MDone}, false, told{}},
		{api.Act{Kind: 1<<32 + api.MDone}, false, told{}},
		{api.Act{Kind: api.MDone, Step: 1 << 32}, false, told{}},
		{api.Act{Kind: math.MaxInt, Step: math.MaxInt}, false, told{}},
		{api.Act{Kind: math.MinInt, Step: math.MinInt}, false, told{}},
		{api.Act{Kind: api.MAborts, Step: 1}, false, told{}},
		{done(0), true, told{fraud: 3}},
		{api.Act{Kind: api.MCommits, Step: 1}, false, told{fraud: 3}},
		{api.Act{Kind: api.MCommit}, false, told{fraud: 3}},
		{api.Act{Kind: api.MAbort}, false, told{fraud: 3}},
		{commits, true, told{fraud: 3, sold: true}},
		{api.Act{Kind: api.MShipped, Step: -1}, false, told{fraud: 3, sold: true}},
		{api.Act{Kind: api.MShip}, false, told{fraud: 3, sold: true}},
	}},
}

// P23.1, P23.2: ways of orders, with what is told behind each act.
func TestTales(t *testing.T) {
	for _, c := range tales {
		t.Run(c.what, func(t *testing.T) {
			m := model.New(made(c.steps))
			if got := tell(m); got != (told{}) || len(m.Seen()) != 0 {
				t.Errorf("at first: %+v, %v", got, m.Seen())
			}
			var seen []api.Act
			for i, x := range c.l {
				if got := m.See(x.a); got != x.ok {
					t.Errorf("%d: See(%v) = %v", i, x.a, got)
				}
				if x.ok {
					seen = append(seen, x.a)
				}
				if got := tell(m); got != x.want {
					t.Errorf("%d: behind %v: %+v; want %+v", i, seen, got, x.want)
				}
				if got := m.Seen(); !slices.Equal(got, seen) {
					t.Errorf("%d: Seen = %v; want %v", i, got, seen)
				}
			}
		})
	}
}

// P23.1, P23.2: what flow plans for an order, and what undoes it from each
// place of the steps on, is seen.
func TestWays(t *testing.T) {
	for steps := range api.MaxSteps + 1 {
		o := made(steps)
		m := model.New(o)
		for a := range flow.Plan(o) {
			if kind := happens(a.Kind); kind != 0 && !m.See(api.Act{Kind: kind, Step: a.Step}) {
				t.Errorf("%d steps: %v is planned, but not seen behind %v", steps, a, m.Seen())
			}
		}
		if !m.Sold() || !m.Sent() || m.Clean() || len(m.Seen()) != steps+2 {
			t.Errorf("%d steps, the plan: %v, %+v", steps, m.Seen(), tell(m))
		}
		for n := range steps + 1 {
			m := model.New(o)
			for i := range n {
				m.See(done(i))
			}
			for a := range flow.Back(o) {
				if kind := happens(a.Kind); m.See(api.Act{Kind: kind, Step: a.Step}) != (kind == api.MAborts || a.Step < n) {
					t.Errorf("%d steps, %d done: %v behind %v", steps, n, a, m.Seen())
				}
			}
			if tell(m) != (told{clean: true}) || len(m.Seen()) != 2*n+1 {
				t.Errorf("%d steps, %d done, the way back: %v, %+v", steps, n, m.Seen(), tell(m))
			}
		}
	}
}

// happens is the kind of what happens where that is done; 0: nothing does.
func happens(kind int) int {
	return map[int]int{api.MDo: api.MDone, api.MUndo: api.MUndone, api.MCommit: api.MCommits, api.MAbort: api.MAborts, api.MShip: api.MShipped}[kind]
}

// The chapter's example.
func TestExample(t *testing.T) {
	m := behind(t, made(1), row(done(0)))
	if got := m.Held(api.Fraud); got != 3 {
		t.Errorf("Held = %d", got)
	}
}

// P23.2: each service holds the N of its own step, whatever place that has; nor
// is an order Clean that holds but 1.
func TestHeldOfEachService(t *testing.T) {
	for _, order := range [][]int{{4, 5, 6}, {4, 6, 5}, {5, 4, 6}, {5, 6, 4}, {6, 4, 5}, {6, 5, 4}} {
		o := made(0)
		for i, service := range order {
			o.Steps = append(o.Steps, api.Step{Service: service, N: 1 + i})
		}
		m := model.New(o)
		p := plainOf(o)
		for _, a := range row(done(0), done(1), aborts, done(2), undone(2), undone(1), undone(0)) {
			if !m.See(a) {
				t.Errorf("%v: See(%v) = false", order, a)
			}
			p = p.see(a)
			hold(t, m, p)
		}
	}
}

// P23.2: of a service that the order has no step of, and of what is no service,
// nothing is held.
func TestHeldOfNoStep(t *testing.T) {
	m := behind(t, made(1), row(done(0)))
	for _, service := range []int{api.Coupon, api.Credit, api.Chief, api.Stock, api.Purse, api.Shipper, api.Nodes, -1, -api.Fraud, 1<<32 + api.Fraud, math.MinInt, math.MaxInt} {
		if got := m.Held(service); got != 0 {
			t.Errorf("Held(%d) = %d", service, got)
		}
	}
}

// P23.1: an order that may not be has no model.
func TestNewMayNot(t *testing.T) {
	for _, o := range bad() {
		if m := model.New(o); m != nil {
			t.Errorf("New(%v) = %v", o, m)
		}
	}
}

// P23.1: orders at the edges of what may be have one.
func TestNewMay(t *testing.T) {
	edges := []api.Order{
		{Id: 1, Qty: 1, Price: 1},
		{Id: api.MaxId, Item: api.MaxItems - 1, Qty: most, Client: api.MaxItems - 1, Price: most},
		{Id: 1, Qty: 1, Price: 1, Steps: []api.Step{}},
		{Id: 1, Qty: 1, Price: 1, Steps: []api.Step{{Service: api.Fraud, N: most}}},
	}
	for steps := range api.MaxSteps + 1 {
		edges = append(edges, made(steps))
	}
	for _, o := range edges {
		m := model.New(o)
		if m == nil {
			t.Fatalf("New(%v) = nil", o)
		}
		hold(t, m, plainOf(o))
	}
}

// bad are orders that may not be, each for one cause.
func bad() []api.Order {
	var all []api.Order
	add := func(change func(o *api.Order)) {
		o := made(2)
		change(&o)
		all = append(all, o)
	}
	add(func(o *api.Order) { o.Id = 0 })
	add(func(o *api.Order) { o.Id = -7 })
	add(func(o *api.Order) { o.Id = api.MaxId + 1 })
	add(func(o *api.Order) { o.Item = -1 })
	add(func(o *api.Order) { o.Item = api.MaxItems })
	add(func(o *api.Order) { o.Client = -1 })
	add(func(o *api.Order) { o.Client = api.MaxItems })
	add(func(o *api.Order) { o.Qty = 0 })
	add(func(o *api.Order) { o.Qty = most + 1 })
	add(func(o *api.Order) { o.Price = 0 })
	add(func(o *api.Order) { o.Price = math.MinInt })
	add(func(o *api.Order) { o.Steps[0].Service = api.Shipper })
	add(func(o *api.Order) { o.Steps[1].Service = api.Nodes })
	add(func(o *api.Order) { o.Steps[1].N = 0 })
	add(func(o *api.Order) { o.Steps[0].N = most + 1 })
	add(func(o *api.Order) { o.Steps[1] = o.Steps[0] })
	add(func(o *api.Order) { o.Steps = append(made(3).Steps, api.Step{Service: api.Coupon, N: 1}) })
	add(func(o *api.Order) { o.Steps = make([]api.Step, 1000) })
	return append(all, api.Order{}, api.Order{Steps: made(3).Steps})
}

// P23.2, R3: a nil model, and one that New did not make, tell zero values.
func TestNoModel(t *testing.T) {
	for what, m := range map[string]*model.Model{"nil": nil, "not of New": {}} {
		for _, a := range row(done(0), undone(0), commits, aborts, shipped, api.Act{}) {
			if m.See(a) {
				t.Errorf("%s: See(%v) = true", what, a)
			}
		}
		if m.Seen() != nil || m.Sold() || m.Sent() || m.Clean() {
			t.Errorf("%s: %v, %+v", what, m.Seen(), tell(m))
		}
		for _, service := range services {
			if got := m.Held(service); got != 0 {
				t.Errorf("%s: Held(%d) = %d", what, service, got)
			}
		}
	}
}

// R2: what becomes of the order's steps behind New is not seen, and New changes
// neither them nor what lies behind their end.
func TestOrderMemory(t *testing.T) {
	o := made(3)
	all := o.Steps
	o.Steps = all[:2]
	all[2] = api.Step{Service: -1, N: -1}
	p := plainOf(o)
	m := model.New(o)
	if want := []api.Step{{Service: api.Fraud, N: 3}, {Service: api.Coupon, N: 1}, {Service: -1, N: -1}}; !slices.Equal(all, want) {
		t.Errorf("New left the steps as %v", all)
	}
	for i, a := range row(done(0), done(1), aborts, undone(1), undone(0)) {
		// Each time otherwise: other amounts, other services, steps that may not be.
		for k := range all {
			all[k] = api.Step{Service: api.Coupon + (k+i)%4, N: 50*i - 1}
		}
		before := slices.Clone(all)
		if !m.See(a) {
			t.Errorf("with the steps changed: See(%v) = false", a)
		}
		p = p.see(a)
		hold(t, m, p)
		if !slices.Equal(all, before) {
			t.Errorf("See(%v) left the steps as %v", a, all)
		}
	}
	all[0] = api.Step{Service: api.Shipper}
	if wrong := model.New(o); wrong != nil {
		t.Errorf("New of steps that may not be = %v", wrong)
	}
}

// R2: what becomes of the caller's row behind See is not seen.
func TestActsMemory(t *testing.T) {
	l := row(done(0), done(1), commits)
	m := behind(t, made(2), l)
	for i := range l {
		l[i] = aborts
	}
	if got := m.Seen(); !slices.Equal(got, row(done(0), done(1), commits)) {
		t.Errorf("Seen = %v", got)
	}
}

// R2: what Seen tells is the caller's own, with all that he puts behind it.
func TestSeenMemory(t *testing.T) {
	l := row(done(0), done(1), aborts, undone(1), undone(0))
	m, p := model.New(made(2)), plainOf(made(2))
	var before []api.Act
	for _, a := range l {
		m.See(a)
		p = p.see(a)
		mine, other := m.Seen(), m.Seen()
		_ = append(mine, shipped, shipped)
		for i := range mine {
			mine[i] = api.Act{Kind: 99, Step: 99}
		}
		if !slices.Equal(other, p.seen) {
			t.Errorf("what else Seen told = %v; want %v", other, p.seen)
		}
		if len(before) > 0 && !slices.Equal(before, p.seen[:len(before)]) {
			t.Errorf("what Seen told ahead of See = %v; want %v", before, p.seen[:len(before)])
		}
		hold(t, m, p)
		before = other
	}
}

// R2: models of one order know nothing of one another.
func TestModelsApart(t *testing.T) {
	o := made(2)
	one, other := model.New(o), model.New(o)
	p, q := plainOf(o), plainOf(o)
	for i, a := range row(done(0), done(1), commits, shipped) {
		if !one.See(a) {
			t.Errorf("See(%v) = false", a)
		}
		b := row(aborts, done(0), undone(0))[min(i, 2)]
		if other.See(b) != (i < 3) {
			t.Errorf("the other's See(%v), %d", b, i)
		}
		p, q = p.see(a), q.see(b)
		hold(t, one, p)
		hold(t, other, q)
	}
}
