package service_test

import (
	"fmt"
	"slices"
	"testing"

	"wharfinger/api"
	"wharfinger/service"
)

// noted is a line: an order came to a state, and has so much.
type noted struct{ id, state, n int }

// plain is a service that keeps what was noted alone, and goes through all of
// it at each call.
type plain struct {
	node, hold, room int
	lines            []noted
	down             bool
}

func (p *plain) state(id int) int {
	state := service.None
	for _, l := range p.lines {
		if l.id == id && !p.down {
			state = l.state
		}
	}
	return state
}

// left is what there was less what orders that are Did have.
func (p *plain) left() int {
	left := p.hold
	for _, l := range p.lines {
		if l.state == service.Did && p.state(l.id) == service.Did {
			left -= l.n
		}
	}
	return left
}

// goes tells the state that m takes its order to, and the kind of the answer.
func (p *plain) goes(m api.Msg) (int, int) {
	now := p.state(m.Id)
	if m.Kind == api.MUndo {
		return []int{service.Undid, service.Undid, service.Cant, service.Undid}[now], api.MUndone
	}
	if now == service.None && 1 <= m.A && m.A <= p.left() {
		return service.Did, api.MDone
	}
	return []int{service.Cant, service.Did, service.Cant, service.Undid}[now], []int{api.MFail, api.MDone, api.MFail, api.MFail}[now]
}

func (p *plain) handle(m api.Msg) []api.Msg {
	if p.down || m.To != p.node || m.From != api.Chief || m.Id < 1 || m.Id > 999 || m.Kind != api.MDo && m.Kind != api.MUndo {
		return nil
	}
	state, kind := p.goes(m)
	if state != p.state(m.Id) {
		if len(p.lines) == p.room {
			return nil
		}
		p.lines = append(p.lines, noted{m.Id, state, m.A})
	}
	return back(m, kind)
}

// step is a message, or a crash, or a start.
type step struct {
	m     api.Msg
	crash crash
	kind  int
}

const (
	handles = iota
	goesDown
	starts
)

func (s step) String() string {
	switch s.kind {
	case goesDown:
		return fmt.Sprintf("Crash(%d, %d)", s.crash.stay, s.crash.torn)
	case starts:
		return "Start"
	}
	return fmt.Sprintf("kind %d of %d (%d)", s.m.Kind, s.m.Id, s.m.A)
}

// holdStep takes the step with both.
func holdStep(t *testing.T, what any, n *service.Node, p *plain, s step) {
	t.Helper()
	switch s.kind {
	case goesDown:
		n.Crash(s.crash.stay, s.crash.torn)
		p.down = true
	case starts:
		n.Start()
		p.down = false
	default:
		if got, want := n.Handle(s.m), p.handle(s.m); !slices.Equal(got, want) {
			t.Errorf("%v: %v tells %+v; want %+v", what, s, got, want)
		}
	}
}

// holdPlain holds all that is to be seen of n against a plain service.
func holdPlain(t *testing.T, what any, n *service.Node, p *plain, ids ...int) {
	t.Helper()
	if n.Down() != p.down {
		t.Errorf("%v: down is %t", what, n.Down())
	}
	holdLeft(t, what, n, p.left())
	for _, id := range ids {
		holdState(t, what, n, id, p.state(id))
	}
}

// P19.2, P19.3: every run of five steps, held against a plain service, for some
// holds and rooms.
func TestAllRuns(t *testing.T) {
	const length = 5
	steps := []step{
		{m: do(api.Coupon, 1, 1)}, {m: do(api.Coupon, 1, 2)}, {m: do(api.Coupon, 2, 2)}, {m: do(api.Coupon, 3, 0)},
		{m: undo(api.Coupon, 1)}, {m: undo(api.Coupon, 2)},
		{kind: goesDown, crash: crash{0, 5}}, {kind: starts},
	}
	runs := 1
	for range length {
		runs *= len(steps)
	}
	for _, hold := range []int{1, 2, 3} {
		for _, room := range []int{1, 2, 3, 10} {
			for i := range runs {
				n, p := service.New(api.Coupon, hold, room), &plain{node: api.Coupon, hold: hold, room: room}
				var run [length]step
				for k, rest := 0, i; k < length; k, rest = k+1, rest/len(steps) {
					run[k] = steps[rest%len(steps)]
					holdStep(t, &run, n, p, run[k])
					holdPlain(t, &run, n, p, 1, 2, 3)
				}
				if t.Failed() {
					t.Fatalf("hold %d, room %d", hold, room)
				}
			}
		}
	}
}

// draws is a row of numbers that look like no rule.
type draws int

func (d *draws) next(n int) int {
	*d = (*d*1103515245 + 12345) % (1 << 31)
	return int(*d>>8) % n
}

// draw is some step about one of the orders; few are crashes.
func (d *draws) draw(node, ids, amount int) step {
	id := 1 + d.next(ids)*377%api.MaxId
	switch d.next(20) {
	case 0:
		return step{kind: goesDown, crash: crash{d.next(5) - 1, d.next(20) - 1}}
	case 1, 2, 3:
		return step{kind: starts}
	case 4:
		l := strange(node, id)
		return step{m: l[d.next(len(l))]}
	case 5, 6, 7, 8, 9:
		return step{m: undo(node, id)}
	}
	return step{m: do(node, id, d.next(amount+2)-1)}
}

// P19.2, P19.3, P19.4: long runs, of few orders and of many, held against a
// plain service; and what was told stays so.
func TestLongRuns(t *testing.T) {
	for seed, c := range []struct{ hold, room, ids, amount int }{
		{5, 4096, 1, 3}, {5, 4096, 3, 5}, {20, 30, 40, 10}, {100, 100, 100, 20}, {100, 4096, 200, 30},
		{most, 4096, 300, most}, {0, 50, 60, 2}, {1, 7, 10, 1}, {1000, 4096, 999, 10},
	} {
		for _, node := range services {
			n, p, d := service.New(node, c.hold, c.room), &plain{node: node, hold: c.hold, room: c.room}, draws(seed*10+node)
			over := map[int]int{}
			for i := range 1500 {
				s := d.draw(node, c.ids, c.amount)
				holdStep(t, seed, n, p, s)
				holdPlain(t, fmt.Sprint("run ", seed, ", step ", i, ", ", s), n, p, s.m.Id, 1+d.next(c.ids)*377%api.MaxId)
				holdOver(t, n, over, s.m.Id)
				if t.Failed() {
					t.FailNow()
				}
			}
			n.Start()
			p.down = false
			for id := range api.MaxId + 2 {
				holdPlain(t, seed, n, p, id)
				holdOver(t, n, over, id)
			}
		}
	}
}

// holdOver holds P19.4 of an order: in which of Undid and Cant it was once it
// stays, if the node is up.
func holdOver(t *testing.T, n *service.Node, over map[int]int, id int) {
	t.Helper()
	if n.Down() {
		return
	}
	if was, ok := over[id]; ok {
		holdState(t, "it was over", n, id, was)
	}
	if state := n.State(id); state == service.Undid || state == service.Cant {
		over[id] = state
	}
}

// P19.4: what was told of each order is so behind each crash and start, by the
// answers alone: MDone, till MUndone: Did; MUndone, MFail: never Did again; and
// what is left is what there was less what is Did.
func TestToldStays(t *testing.T) {
	for seed := range 20 {
		node, hold := services[seed%3], 40+seed
		n, d := service.New(node, hold, 10+10*seed), draws(seed)
		last, has := map[int]int{}, map[int]int{}
		for range 400 {
			m := do(node, 1+d.next(60), 1+d.next(9))
			if d.next(3) == 0 {
				m = undo(node, m.Id)
			}
			for _, a := range n.Handle(m) {
				holdAfter(t, last[a.Id], a)
				if last[a.Id] == 0 && a.Kind == api.MDone {
					has[a.Id] = m.A
				}
				last[a.Id] = a.Kind
			}
			if d.next(4) == 0 {
				n.Crash(d.next(3), d.next(15))
				n.Start()
			}
			left := hold
			for id, kind := range last {
				if (kind == api.MDone) != (n.State(id) == service.Did) || n.State(id) == service.None {
					t.Fatalf("run %d: order %d was told %d, and is %d", seed, id, kind, n.State(id))
				}
				if kind == api.MDone {
					left -= has[id]
				}
			}
			holdLeft(t, seed, n, left)
		}
	}
}

// holdAfter holds that an answer may come behind the last one of its order.
func holdAfter(t *testing.T, last int, a api.Msg) {
	t.Helper()
	if (last == api.MFail || last == api.MUndone) && a.Kind == api.MDone {
		t.Errorf("order %d was told %d, and then that it is done", a.Id, last)
	}
}

// R6: two nodes that are treated alike tell alike.
func TestSameAgain(t *testing.T) {
	tell := func() string {
		n, d, s := service.New(api.Credit, 50, 100), draws(77), ""
		for range 1000 {
			x := d.draw(api.Credit, 60, 10)
			switch x.kind {
			case goesDown:
				n.Crash(x.crash.stay, x.crash.torn)
			case starts:
				n.Start()
			default:
				s += fmt.Sprint(n.Handle(x.m))
			}
			s += fmt.Sprint(n.Left(), n.Down())
		}
		return s
	}
	if tell() != tell() {
		t.Error("they tell otherwise")
	}
}
