package keeper_test

import (
	"fmt"
	"slices"
	"testing"

	"wharfinger/api"
	"wharfinger/keeper"
	"wharfinger/vote"
)

// noted is a line: an order came to a state, and it is about b of item or
// client a.
type noted struct{ id, state, a, b int }

// plain is a keeper that keeps what was noted alone, and goes through all of it
// at each call.
type plain struct {
	node  int
	first row
	room  int
	lines []noted
	down  bool
}

// now is the last line of each order.
func (p *plain) now() map[int]noted {
	last := map[int]noted{}
	if p.down {
		return last
	}
	for _, l := range p.lines {
		last[l.id] = l
	}
	return last
}

// rows are what is there, what of it is free, and what was ever sold.
func (p *plain) rows() (row, row, int) {
	there, free, sold := p.first, p.first, 0
	for _, l := range p.now() {
		switch l.state {
		case api.VPrepared:
			free[l.a] -= l.b
		case api.VCommitted, api.VForcedYes:
			there[l.a] -= l.b
			free[l.a] -= l.b
			sold += l.b
		}
	}
	return there, free, sold
}

// can tells whether there is so much, and, of money, whether the till has room
// for it beside all that may come into it.
func (p *plain) can(a, b int) bool {
	if a < 0 || a > 7 || b < 1 || b > most {
		return false
	}
	_, free, _ := p.rows()
	room := most
	for i := range free {
		room -= p.first[i] - free[i]
	}
	return b <= free[a] && (p.node == api.Stock || b <= room)
}

// write is a line behind all others; false: no room.
func (p *plain) write(l noted) bool {
	if len(p.lines) == p.room {
		return false
	}
	p.lines = append(p.lines, l)
	return true
}

func (p *plain) handle(m api.Msg) []api.Msg {
	all, ok := ways[m.Kind]
	if !ok || p.down || m.To != p.node || m.From != api.Chief && m.From != other(p.node) || m.Id < 1 || m.Id > 999 {
		return nil
	}
	was := p.now()[m.Id]
	way, next := all[was.state], was
	if m.Kind == api.MPrepare && was.state == api.VNone {
		if p.can(m.A, m.B) {
			next = noted{a: m.A, b: m.B}
		} else {
			way = goes{api.VAborted, api.MNo}
		}
	}
	next.id, next.state = m.Id, way.state
	if way.state != was.state && !p.write(next) {
		return nil
	}
	return back(m, way.kind)
}

func (p *plain) force(id int, yes bool) api.Errno {
	was := p.now()[id]
	switch {
	case p.down:
		return api.ErrDown
	case id < 1 || id > 999:
		return api.ErrArg
	case was.state != api.VPrepared:
		return api.ErrState
	}
	was.state = api.VForcedNo
	if yes {
		was.state = api.VForcedYes
	}
	if !p.write(was) {
		return api.ErrFull
	}
	return api.OK
}

func (p *plain) ring(id int) []api.Msg {
	if p.now()[id].state != api.VPrepared {
		return nil
	}
	return asks(p.node, id)
}

// step is a message, an operator, a bell, a crash or a start.
type step struct {
	kind  int
	m     api.Msg
	id    int
	crash crash
}

const (
	handles = iota
	forcesYes
	forcesNo
	rings
	goesDown
	starts
)

func (s step) String() string {
	switch s.kind {
	case forcesYes:
		return fmt.Sprintf("Force(%d, true)", s.id)
	case forcesNo:
		return fmt.Sprintf("Force(%d, false)", s.id)
	case rings:
		return fmt.Sprintf("Ring(%d)", s.id)
	case goesDown:
		return fmt.Sprintf("Crash(%d, %d)", s.crash.stay, s.crash.torn)
	case starts:
		return "Start"
	}
	return fmt.Sprintf("%+v", s.m)
}

// holdStep takes the step with both.
func holdStep(t *testing.T, what any, n *keeper.Node, p *plain, s step) {
	t.Helper()
	switch s.kind {
	case forcesYes, forcesNo:
		holdForce(t, what, n, s.id, s.kind == forcesYes, p.force(s.id, s.kind == forcesYes))
	case rings:
		holdRing(t, what, n, s.id, p.ring(s.id))
	case goesDown:
		n.Crash(s.crash.stay, s.crash.torn)
		p.down = true
	case starts:
		n.Start()
		p.down = false
	default:
		if got, want := n.Handle(s.m), p.handle(s.m); !slices.Equal(got, want) {
			t.Errorf("%v: %v tells %+v; want %+v", what, s, got, want)
		}
	}
}

// holdPlain holds all that is to be seen of n against a plain keeper.
func holdPlain(t *testing.T, what any, n *keeper.Node, p *plain) {
	t.Helper()
	if n.Down() != p.down {
		t.Errorf("%v: down is %t", what, n.Down())
	}
	wantThere, wantFree, sold := p.rows()
	if there(n) != wantThere || free(n) != wantFree {
		t.Errorf("%v: there are %v, %v of them free; want %v, %v", what, there(n), free(n), wantThere, wantFree)
	}
	if n.Money() != nil && n.Money().Till() != sold {
		t.Errorf("%v: the till has %d; want %d", what, n.Money().Till(), sold)
	}
	count, last := 0, p.now()
	for id := range n.Ids() {
		if _, ok := last[id]; !ok {
			t.Errorf("%v: it knows of %d", what, id)
		}
		count++
	}
	if count != len(last) {
		t.Errorf("%v: it knows of %d; want %d", what, count, len(last))
	}
	for id, l := range last {
		holdState(t, what, n, id, l.state)
		holdLot(t, what, n, id, l)
	}
}

// holdLot holds what the book tells of one order.
func holdLot(t *testing.T, what any, n *keeper.Node, id int, l noted) {
	t.Helper()
	yes, _ := vote.Decided(l.state)
	waits := l.state == api.VPrepared
	item, qty, ok := n.Goods().Has(id)
	if n.Goods() != nil && (ok != waits || ok && (item != l.a || qty != l.b)) {
		t.Errorf("%v: %d has reserved %d of %d, %t; want %+v", what, id, qty, item, ok, l)
	}
	paid, ok := n.Money().Paid(id)
	if n.Money() != nil && (ok != yes || ok && paid != l.b) {
		t.Errorf("%v: %d has paid %d, %t; want %+v", what, id, paid, ok, l)
	}
}

// holdRuns holds every run of so many of the steps against a plain keeper.
func holdRuns(t *testing.T, node, length, room int, first row, steps []step) {
	t.Helper()
	runs := 1
	for range length {
		runs *= len(steps)
	}
	for i := range runs {
		n, p := keeper.New(node, first[:], room), &plain{node: node, first: first, room: room}
		run := make([]step, length)
		for k, rest := 0, i; k < length; k, rest = k+1, rest/len(steps) {
			run[k] = steps[rest%len(steps)]
			holdStep(t, run, n, p, run[k])
		}
		holdPlain(t, run, n, p)
		if t.Failed() {
			t.Fatalf("node %d, first %v, room %d", node, first, room)
		}
	}
}

// P20.2 to P20.4: every run of four steps, for some books and rooms, and of five
// steps, for one of each, held against a plain keeper.
func TestAllRuns(t *testing.T) {
	for _, node := range keepers {
		steps := []step{
			{m: prepare(node, 1, 0, 1)}, {m: from(other(node), prepare(node, 2, 0, 2))},
			{m: msg(node, api.MCommit, 1)}, {m: from(other(node), msg(node, api.MAborts, 1))}, {m: msg(node, api.MAsk, 2)},
			{kind: forcesYes, id: 2}, {kind: forcesNo, id: 1},
			{kind: goesDown, crash: crash{0, 5}}, {kind: starts},
		}
		for _, first := range []row{{2}, {3}} {
			for _, room := range []int{1, 2, 3, 10} {
				holdRuns(t, node, 4, room, first, steps)
			}
		}
		holdRuns(t, node, 5, 3, row{2}, steps)
	}
}

// draws is a row of numbers that look like no rule.
type draws int

func (d *draws) next(n int) int {
	*d = (*d*1103515245 + 12345) % (1 << 31)
	return int(*d>>8) % n
}

// draw is some step about one of the orders; few are crashes.
func (d *draws) draw(node, ids, much int) step {
	id := 1 + d.next(ids)*377%api.MaxId
	sender := []int{api.Chief, other(node)}[d.next(2)]
	switch d.next(24) {
	case 0:
		return step{kind: goesDown, crash: crash{d.next(5) - 1, d.next(20) - 1}}
	case 1, 2, 3:
		return step{kind: starts}
	case 4:
		l := strange(node, id)
		return step{m: l[d.next(len(l))]}
	case 5:
		return step{kind: forcesYes, id: id}
	case 6:
		return step{kind: forcesNo, id: id}
	case 7:
		return step{kind: rings, id: id}
	case 8, 9, 10, 11, 12:
		return step{m: from(sender, msg(node, known[1+d.next(4)], id))}
	case 13:
		return step{m: from(sender, msg(node, api.MAsk, id))}
	}
	return step{m: from(sender, prepare(node, id, d.next(10)-1, d.next(much+2)-1))}
}

// P20.2 to P20.4: long runs, of few orders and of many, held against a plain
// keeper.
func TestLongRuns(t *testing.T) {
	for seed, c := range []struct {
		first           row
		room, ids, much int
	}{
		{row{5, 5, 5, 5, 5, 5, 5, 5}, 4096, 1, 3}, {row{5, 5, 5, 5, 5, 5, 5, 5}, 4096, 3, 5},
		{row{20, 10, 0, 7, 9, 3, 1, 30}, 30, 40, 10}, {row{100, 100, 100, 100}, 100, 100, 20},
		{row{100, 90, 80, 70, 60, 50, 40, 30}, 4096, 200, 30}, {row{most, most, most, most, most, most, most, most}, 4096, 300, most},
		{row{}, 50, 60, 2}, {row{1, 1, 1, 1, 1, 1, 1, 1}, 7, 10, 1}, {row{999, 999, 999, 999, 999, 999, 999, 999}, 4096, 999, 30},
		{row{most, 5, most, 5, most, 5, most, 5}, 4096, 400, most / 5},
	} {
		for _, node := range keepers {
			n, p, d := keeper.New(node, c.first[:], c.room), &plain{node: node, first: c.first, room: c.room}, draws(seed*10+node)
			for i := range 1200 {
				s := d.draw(node, c.ids, c.much)
				what := fmt.Sprint("run ", seed, ", step ", i, ", ", s)
				holdStep(t, what, n, p, s)
				holdPlain(t, what, n, p)
				if t.Failed() {
					t.FailNow()
				}
			}
			n.Start()
			p.down = false
			holdPlain(t, seed, n, p)
			for id := range api.MaxId + 2 {
				holdState(t, seed, n, id, p.now()[id].state)
			}
		}
	}
}

// follow is what is seen of the orders of one node from outside: the states that
// each went through, and what it was about when it came to be ready.
type follow struct {
	went map[int][]int
	lots map[int]noted
}

// see notes the state of an order, if it is another one than it was.
func (f *follow) see(n *keeper.Node, s step) {
	id := max(s.id, s.m.Id)
	l := f.went[id]
	if l == nil {
		l = []int{api.VNone}
	}
	state := n.State(id)
	if state == api.VPrepared && l[len(l)-1] != state {
		f.lots[id] = noted{a: s.m.A, b: s.m.B}
	}
	if l[len(l)-1] != state {
		l = append(l, state)
	}
	f.went[id] = l
}

// holdFollowed holds P20.5 of all orders: they went by vote.Legal, so that what
// is Final stayed; they are as they were seen last; the book is what the states
// say.
func (f *follow) holdFollowed(t *testing.T, what any, n *keeper.Node, first row) {
	t.Helper()
	wantThere, wantFree := first, first
	for id, l := range f.went {
		if vote.Legal(l) != len(l) {
			t.Errorf("%v: order %d went by %v", what, id, l)
		}
		holdState(t, what, n, id, l[len(l)-1])
		lot := f.lots[id]
		if yes, decided := vote.Decided(n.State(id)); yes {
			wantThere[lot.a] -= lot.b
			wantFree[lot.a] -= lot.b
		} else if !decided {
			wantFree[lot.a] -= lot.b
		}
	}
	holdBook(t, what, n, first, wantThere, wantFree)
}

// P20.5: whatever comes, whatever crashes, each order goes by vote.Legal, what
// is Final stays, and the book is what the states say.
func TestWhatFollows(t *testing.T) {
	for seed := range 24 {
		node, first := keepers[seed%2], row{40, 30, 20, 10, 5, 4, 3, 2}
		n, d := keeper.New(node, first[:], 20+15*seed), draws(seed)
		f := &follow{went: map[int][]int{}, lots: map[int]noted{}}
		for i := range 500 {
			what := fmt.Sprint("run ", seed, ", step ", i)
			s := d.draw(node, 60, 9)
			switch s.kind {
			case handles:
				n.Handle(s.m)
			case forcesYes, forcesNo:
				n.Force(s.id, s.kind == forcesYes)
			case rings:
				n.Ring(s.id)
			case goesDown:
				n.Crash(s.crash.stay, s.crash.torn)
				n.Start()
			}
			if id := max(s.id, s.m.Id); 1 <= id && id <= api.MaxId {
				f.see(n, s)
			}
			f.holdFollowed(t, what, n, first)
			if t.Failed() {
				t.FailNow()
			}
		}
	}
}

// P20.5: what was told of an order is so behind each crash and start, by what
// was told alone: who said yes waits till it hears a decision or is forced; who
// decided, or was forced, tells nothing else from then on.
func TestToldStays(t *testing.T) {
	for seed := range 24 {
		node := keepers[seed%2]
		n, d := keeper.New(node, []int{40, 30, 20, 10, 5, 4, 3, 2}, 15+15*seed), draws(seed+100)
		told := map[int]int{} // by id: the state that was told
		for i := range 600 {
			s := d.draw(node, 50, 9)
			switch s.kind {
			case handles:
				for _, a := range n.Handle(s.m) {
					says := tells(told[a.Id], s.m.Kind, a.Kind)
					if was := told[a.Id]; vote.Final(was) && says != was {
						t.Errorf("run %d, step %d: order %d was told to be %d, and now %d", seed, i, a.Id, was, says)
					}
					told[a.Id] = says
				}
			case forcesYes, forcesNo:
				if n.Force(s.id, s.kind == forcesYes) == api.OK {
					told[s.id] = map[int]int{forcesYes: api.VForcedYes, forcesNo: api.VForcedNo}[s.kind]
				}
			case goesDown:
				n.Crash(s.crash.stay, s.crash.torn)
				n.Start()
			}
			for id, state := range told {
				holdState(t, fmt.Sprint("run ", seed, ", step ", i), n, id, state)
			}
			if t.Failed() {
				t.FailNow()
			}
		}
	}
}

// tells is the state that an answer to a message of a kind tells, of an order of
// which was was told ahead of it.
func tells(was, kind, answer int) int {
	switch {
	case was == api.VForcedYes || was == api.VForcedNo:
		return was
	case answer == api.MYes:
		return api.VPrepared
	case answer == api.MNo, answer == api.MAborts:
		return api.VAborted
	case answer == api.MCommits:
		return api.VCommitted
	case kind == api.MCommit || kind == api.MCommits:
		return api.VCommitted
	}
	return api.VAborted
}

// R6: two nodes that are treated alike tell alike.
func TestSameAgain(t *testing.T) {
	tell := func(node int) string {
		n, d, s := keeper.New(node, []int{50, 40, 30}, 100), draws(77), ""
		for range 1000 {
			x := d.draw(node, 60, 10)
			switch x.kind {
			case goesDown:
				n.Crash(x.crash.stay, x.crash.torn)
			case starts:
				n.Start()
			case rings:
				s += fmt.Sprint(n.Ring(x.id))
			case forcesYes, forcesNo:
				s += fmt.Sprint(n.Force(x.id, x.kind == forcesYes))
			default:
				s += fmt.Sprint(n.Handle(x.m))
			}
			s += fmt.Sprint(there(n), free(n), n.Down(), slices.Collect(n.Ids()))
		}
		return s
	}
	for _, node := range keepers {
		if tell(node) != tell(node) {
			t.Errorf("node %d: they tell otherwise", node)
		}
	}
}
