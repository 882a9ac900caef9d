package harbour_test

import (
	"fmt"
	"maps"
	"slices"
	"testing"

	"wharfinger/api"
	"wharfinger/desk"
	"wharfinger/harbour"
	"wharfinger/keeper"
	"wharfinger/order"
	"wharfinger/saga"
	"wharfinger/service"
	"wharfinger/shipper"
)

// plain is a harbour that keeps its messages in a row, and works out what
// happened by looking at each order ahead of each command, and behind it.
type plain struct {
	desk     *desk.Desk
	keepers  map[int]*keeper.Node
	services map[int]*service.Node
	shipper  *shipper.Node
	way      []api.Msg
	lost     int
	orders   map[int]api.Order // by id: those that began
	ends     map[int]int       // by id: what the chief came to
	traces   map[int][]api.Act
	forces   map[int]bool
}

// standing is how an order stands, ahead of a command or behind it.
type standing struct {
	steps [api.MaxSteps]int // its states at the services of its steps
	went  bool
}

func newPlain(s api.Setup) *plain {
	p := &plain{
		desk: desk.New(s.Orders, s.Room, s.Tries), shipper: shipper.New(s.Room),
		keepers:  map[int]*keeper.Node{api.Stock: keeper.New(api.Stock, s.Stock, s.Room), api.Purse: keeper.New(api.Purse, s.Money, s.Room)},
		services: map[int]*service.Node{}, orders: map[int]api.Order{}, ends: map[int]int{}, traces: map[int][]api.Act{}, forces: map[int]bool{},
	}
	holds := append(slices.Clone(s.Holds), 0, 0, 0)
	for node := api.Coupon; node <= api.Fraud; node++ {
		p.services[node] = service.New(node, holds[node-api.Coupon], s.Room)
	}
	return p
}

func (p *plain) view() view {
	return view{
		p.desk, func(node int) *keeper.Node { return p.keepers[node] }, func(node int) *service.Node { return p.services[node] },
		p.shipper, p.way, p.lost, func(id int) []api.Act { return p.traces[id] }, func(id int) bool { return p.forces[id] },
	}
}

// put puts messages on their way, as many as there is room for.
func (p *plain) put(l []api.Msg) {
	p.way = append(p.way, l...)
	if over := len(p.way) - 256; over > 0 {
		p.way, p.lost = p.way[over:], p.lost+over
	}
}

func (p *plain) stands(id int) standing {
	var s standing
	for i, step := range p.orders[id].Steps {
		s.steps[i] = p.services[step.Service].State(id)
	}
	_, _, s.went = p.shipper.Parcels().Has(id)
	return s
}

// do does a command, and writes down what happened.
func (p *plain) do(c api.Cmd) api.Errno {
	was := map[int]standing{}
	for id := range p.orders {
		was[id] = p.stands(id)
	}
	e := p.act(c)
	if c.Kind == api.CDeliver {
		for id := range p.orders {
			p.compare(id, was[id], p.stands(id))
		}
	}
	for id := range p.desk.Chief().Ids() {
		_, f, _ := p.desk.Chief().Facts(id)
		if (f.Yes || f.Turned) && p.ends[id] == 0 {
			p.ends[id] = map[bool]int{true: api.MCommits, false: api.MAborts}[f.Yes]
			p.traces[id] = append(p.traces[id], api.Act{Kind: p.ends[id]})
		}
	}
	return e
}

// compare writes down what came of an order at services and at the shipper.
func (p *plain) compare(id int, was, now standing) {
	for i := range p.orders[id].Steps {
		switch {
		case was.steps[i] != service.Did && now.steps[i] == service.Did:
			p.traces[id] = append(p.traces[id], api.Act{Kind: api.MDone, Step: i})
		case was.steps[i] == service.Did && now.steps[i] == service.Undid:
			p.traces[id] = append(p.traces[id], api.Act{Kind: api.MUndone, Step: i})
		}
	}
	if now.went && !was.went {
		p.traces[id] = append(p.traces[id], api.Act{Kind: api.MShipped})
	}
}

// act does a command, as the chapter has it.
func (p *plain) act(c api.Cmd) api.Errno {
	switch c.Kind {
	case api.CSubmit:
		l, e := p.desk.Submit(c.Order)
		if e == api.OK {
			o, _ := order.Parse(order.Text(c.Order))
			p.orders[o.Id] = o
		}
		p.put(l)
		return e
	case api.CCancel:
		l, e := p.desk.Chief().Cancel(c.Id)
		p.put(l)
		return e
	case api.CAccept:
		return p.desk.Chief().Accept(c.Id)
	case api.CForce:
		k := p.keepers[c.Node]
		if k == nil {
			return api.ErrArg
		}
		e := k.Force(c.Id, c.Yes)
		p.forces[c.Id] = p.forces[c.Id] || e == api.OK
		return e
	case api.CDeliver, api.CDrop, api.CDouble:
		if c.I < 0 || c.I >= len(p.way) {
			return api.ErrNone
		}
		return p.mail(c)
	}
	return p.nodes(c)
}

// mail does a command about a message that is there.
func (p *plain) mail(c api.Cmd) api.Errno {
	m := p.way[c.I]
	if c.Kind == api.CDouble {
		p.put([]api.Msg{m})
		return api.OK
	}
	p.way = slices.Concat(p.way[:c.I], p.way[c.I+1:])
	if c.Kind == api.CDeliver {
		p.put(p.handle(m))
	}
	return api.OK
}

func (p *plain) handle(m api.Msg) []api.Msg {
	switch {
	case m.To == api.Chief:
		return p.desk.Chief().Handle(m)
	case m.To == api.Shipper:
		return p.shipper.Handle(m)
	case p.keepers[m.To] != nil:
		return p.keepers[m.To].Handle(m)
	}
	return p.services[m.To].Handle(m)
}

// nodes does a command about a node: its bell, a crash, a start.
func (p *plain) nodes(c api.Cmd) api.Errno {
	if c.Kind < api.CRing || c.Kind > api.CStart || c.Node < 0 || c.Node > 6 || c.Kind == api.CRing && c.Node > 2 {
		return api.ErrArg
	}
	down := has(p.view().down(), names[c.Node])
	switch {
	case c.Kind == api.CRing && down:
		return api.ErrDown
	case c.Kind == api.CRing && c.Node == api.Chief:
		p.put(p.desk.Chief().Ring(c.Id))
	case c.Kind == api.CRing:
		p.put(p.keepers[c.Node].Ring(c.Id))
	case down == (c.Kind == api.CCrash):
		return api.ErrState
	case c.Kind == api.CCrash:
		p.crash(c.Node, c.I, c.Id)
	case c.Node == api.Chief:
		p.desk.Chief().Start()
	case c.Node == api.Shipper:
		p.shipper.Start()
	case p.keepers[c.Node] != nil:
		p.keepers[c.Node].Start()
	default:
		p.services[c.Node].Start()
	}
	return api.OK
}

func (p *plain) crash(node, stay, torn int) {
	switch {
	case node == api.Chief:
		p.desk.Chief().Crash(stay, torn)
	case node == api.Shipper:
		p.shipper.Crash(stay, torn)
	case p.keepers[node] != nil:
		p.keepers[node].Crash(stay, torn)
	default:
		p.services[node].Crash(stay, torn)
	}
}

// settle does rounds, till there is nothing to be done.
func (p *plain) settle(rounds int) int {
	n := 0
	for ; n < rounds && n < 1000; n++ {
		var l []api.Cmd // what a round begins with
		for number, name := range names {
			if has(p.view().down(), name) {
				l = append(l, start(number))
			}
		}
		for range p.way {
			l = append(l, deliver(0))
		}
		if len(l) == 0 && len(p.bells()) == 0 {
			return n
		}
		for _, c := range l {
			p.do(c)
		}
		for _, c := range p.bells() {
			p.do(c)
		}
	}
	return n
}

// bells are the commands that ring the bells of all that are not over, and of
// all that wait.
func (p *plain) bells() []api.Cmd {
	var l []api.Cmd
	for id := range p.desk.Chief().Ids() {
		if o, f, _ := p.desk.Chief().Facts(id); !saga.Over(o, f) {
			l = append(l, ring(api.Chief, id))
		}
	}
	for _, node := range []int{api.Stock, api.Purse} {
		for id := range p.keepers[node].Ids() {
			if p.keepers[node].State(id) == api.VPrepared {
				l = append(l, ring(node, id))
			}
		}
	}
	return l
}

// pair is a harbour, and a plain one that is treated alike.
type pair struct {
	s   api.Setup
	h   *harbour.Harbour
	p   *plain
	ids []int // what is looked at
}

func newPair(t *testing.T, s api.Setup, ids ...int) pair {
	t.Helper()
	return pair{s, made(t, s), newPlain(s), ids}
}

// hold holds all that is to be seen against the plain one.
func (w pair) hold(t *testing.T, what any) {
	t.Helper()
	got, want := viewOf(w.h).text(w.ids), w.p.view().text(w.ids)
	if got != want {
		t.Fatalf("%v: there is seen\n%s; want\n%s", what, got, want)
	}
}

// do does a command with both.
func (w pair) do(t *testing.T, what any, c api.Cmd) api.Errno {
	t.Helper()
	got, want := w.h.Do(c), w.p.do(c)
	if got != want {
		t.Fatalf("%v: %+v: %d; want %d", what, c, got, want)
	}
	w.hold(t, fmt.Sprintf("%v: behind %+v", what, c))
	return got
}

// dos does commands with both.
func (w pair) dos(t *testing.T, what any, l ...api.Cmd) {
	t.Helper()
	for i, c := range l {
		w.do(t, fmt.Sprint(what, ", ", i), c)
	}
}

// settle settles both.
func (w pair) settle(t *testing.T, what any, rounds int) int {
	t.Helper()
	got, want := w.h.Settle(rounds), w.p.settle(rounds)
	if got != want {
		t.Fatalf("%v: Settle(%d): %d rounds; want %d", what, rounds, got, want)
	}
	w.hold(t, fmt.Sprintf("%v: behind Settle(%d)", what, rounds))
	return got
}

// holdEnd holds that all orders have come to an end, and nothing is on its way.
func (w pair) holdEnd(t *testing.T, what any) {
	t.Helper()
	holdWay(t, what, w.h, "")
	for id, status := range w.h.Desk().All() {
		ended := []int{api.SShipped, api.SAborted, api.SRejected}
		if w.h.Forced(id) {
			ended = append(ended, api.SDamaged)
		}
		if !slices.Contains(ended, status) {
			t.Errorf("%v: at the end %s", what, w.h.Desk().Tell(id))
		}
	}
	w.holdCounted(t, what)
}

// holdCounted holds that the books say what was shipped, and no more, where
// nobody was forced.
func (w pair) holdCounted(t *testing.T, what any) {
	t.Helper()
	books := map[string]int{}
	for _, id := range slices.Sorted(maps.Keys(w.p.orders)) {
		if w.h.Forced(id) {
			return
		}
		if o := w.p.orders[id]; w.h.Desk().Status(id) == api.SShipped {
			books[fmt.Sprint("goods ", o.Item)] += o.Qty
			books[fmt.Sprint("money ", o.Client)] += o.Price
			books["till"] += o.Price
			for _, step := range o.Steps {
				books[names[step.Service]] += step.N
			}
		}
	}
	first, v := viewOf(made(t, w.s)), viewOf(w.h)
	for i := range api.MaxItems {
		goods := books[fmt.Sprint("goods ", i)]
		if v.keeper(1).Goods().OnHand(i) != first.keeper(1).Goods().OnHand(i)-goods || v.keeper(1).Goods().Free(i) != v.keeper(1).Goods().OnHand(i) || v.shipper.Parcels().Went(i) != goods {
			t.Errorf("%v: of item %d %d are gone by the orders; %s", what, i, goods, v.ofBooks())
		}
		money := books[fmt.Sprint("money ", i)]
		if v.keeper(2).Money().Money(i) != first.keeper(2).Money().Money(i)-money || v.keeper(2).Money().Allowed(i) != 0 {
			t.Errorf("%v: of client %d %d is gone by the orders; %s", what, i, money, v.ofBooks())
		}
	}
	for node := api.Coupon; node <= api.Fraud; node++ {
		if v.service(node).Left() != first.service(node).Left()-books[names[node]] {
			t.Errorf("%v: of %s %d are gone by the orders; %s", what, names[node], books[names[node]], v.ofBooks())
		}
	}
	if v.keeper(2).Money().Till() != books["till"] {
		t.Errorf("%v: the till should have %d; %s", what, books["till"], v.ofBooks())
	}
}
