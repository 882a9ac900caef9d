package shipper_test

import (
	"fmt"
	"slices"
	"testing"

	"wharfinger/api"
	"wharfinger/shipper"
)

// plain is a shipper that keeps what was noted alone, and goes through all of it
// at each call.
type plain struct {
	room  int
	lines []sent
	down  bool
}

func (p *plain) went() []sent {
	if p.down {
		return nil
	}
	return p.lines
}

func (p *plain) handle(m api.Msg) []api.Msg {
	ours := !p.down && m.Kind == 15 && m.From == 0 && m.To == 3
	goods := 1 <= m.Id && m.Id <= 999 && 0 <= m.A && m.A <= 7 && 1 <= m.B && m.B <= most
	if !ours || !goods {
		return nil
	}
	if !slices.ContainsFunc(p.lines, func(l sent) bool { return l.id == m.Id }) {
		if len(p.lines) == p.room {
			return nil
		}
		p.lines = append(p.lines, sent{m.Id, m.A, m.B})
	}
	return []api.Msg{{Kind: 16, From: 3, To: 0, Id: m.Id}}
}

// step is a message, or a crash, or a start.
type step struct {
	m     api.Msg
	crash crash
	kind  int
}

const (
	handles = iota
	goesDown
	starts
)

func (s step) String() string {
	switch s.kind {
	case goesDown:
		return fmt.Sprintf("Crash(%d, %d)", s.crash.stay, s.crash.torn)
	case starts:
		return "Start"
	}
	return fmt.Sprintf("kind %d of %d (%d, %d)", s.m.Kind, s.m.Id, s.m.A, s.m.B)
}

// holdStep takes the step with both.
func holdStep(t *testing.T, what any, n *shipper.Node, p *plain, s step) {
	t.Helper()
	switch s.kind {
	case goesDown:
		n.Crash(s.crash.stay, s.crash.torn)
		p.down = true
	case starts:
		n.Start()
		p.down = false
	default:
		if got, want := n.Handle(s.m), p.handle(s.m); !slices.Equal(got, want) {
			t.Errorf("%v: %v tells %+v; want %+v", what, s, got, want)
		}
	}
	if n.Down() != p.down {
		t.Errorf("%v: %v: down is %t", what, s, n.Down())
	}
}

// P21.2, P21.3: every run of five steps, held against a plain shipper, for some
// rooms.
func TestAllRuns(t *testing.T) {
	const length = 5
	steps := []step{
		{m: ship(1, 0, 1)}, {m: ship(1, 1, 2)}, {m: ship(2, 0, 2)}, {m: ship(999, 7, most)}, {m: ship(1, 0, 0)},
		{kind: goesDown, crash: crash{0, 5}}, {kind: starts},
	}
	runs := 1
	for range length {
		runs *= len(steps)
	}
	for _, room := range []int{1, 2, 3, 10} {
		for i := range runs {
			n, p := shipper.New(room), &plain{room: room}
			var run [length]step
			for k, rest := 0, i; k < length; k, rest = k+1, rest/len(steps) {
				run[k] = steps[rest%len(steps)]
				holdStep(t, &run, n, p, run[k])
				holdBook(t, &run, n, p.went()...)
			}
			if t.Failed() {
				t.Fatalf("room %d", room)
			}
		}
	}
}

// draws is a row of numbers that look like no rule.
type draws int

func (d *draws) next(n int) int {
	*d = (*d*1103515245 + 12345) % (1 << 31)
	return int(*d>>8) % n
}

// draw is some step about one of the orders; few are crashes.
func (d *draws) draw(ids int) step {
	id := 1 + d.next(ids)*377%api.MaxId
	switch d.next(20) {
	case 0:
		return step{kind: goesDown, crash: crash{d.next(5) - 1, d.next(20) - 1}}
	case 1, 2, 3:
		return step{kind: starts}
	case 4:
		l := strange(id)
		return step{m: l[d.next(len(l))]}
	case 5:
		return step{m: ship(noIds[d.next(len(noIds))], 1, 1)}
	}
	return step{m: ship(id, d.next(10)-1, d.next(12)-1)}
}

// P21.2, P21.3: long runs, of few orders and of many, held against a plain
// shipper.
func TestLongRuns(t *testing.T) {
	for seed, c := range []struct{ room, ids int }{{4096, 1}, {4096, 3}, {30, 40}, {100, 100}, {4096, 200}, {50, 60}, {7, 10}, {4096, 999}, {1, 5}} {
		n, p, d := shipper.New(c.room), &plain{room: c.room}, draws(seed)
		for i := range 2000 {
			s := d.draw(c.ids)
			what := fmt.Sprint("run ", seed, ", step ", i, ", ", s)
			holdStep(t, what, n, p, s)
			holdBook(t, what, n, p.went()...)
			if t.Failed() {
				t.FailNow()
			}
		}
		n.Start()
		p.down = false
		holdBook(t, seed, n, p.went()...)
	}
}

// P21.4: however often it is told, whatever crashes, each order's parcel goes
// once: by the answers alone. What was told once is told each time, with the
// goods it had first, and the sums are of one parcel an order.
func TestOnce(t *testing.T) {
	for seed := range 20 {
		n, d := shipper.New(10+10*seed), draws(seed)
		first := map[int]sent{}
		for range 500 {
			s := sent{1 + d.next(100), d.next(api.MaxItems), 1 + d.next(9)}
			told := len(n.Handle(shipOf(s))) > 0
			if _, went := first[s.id]; went && !told && !n.Down() {
				t.Fatalf("run %d: order %d went, and it is told no more", seed, s.id)
			} else if told && !went {
				first[s.id] = s
			}
			if d.next(4) == 0 {
				n.Crash(d.next(3), d.next(15))
			}
			if d.next(2) == 0 {
				n.Start()
			}
			if !n.Down() {
				holdOnce(t, seed, n, first)
			}
		}
	}
}

// holdOnce holds that just those went, once each.
func holdOnce(t *testing.T, what any, n *shipper.Node, first map[int]sent) {
	t.Helper()
	ids := n.Parcels().Ids()
	if len(ids) != len(first) {
		t.Fatalf("%v: %d parcels of %d orders", what, len(ids), len(first))
	}
	var all []sent
	for _, id := range ids {
		all = append(all, first[id])
	}
	holdBook(t, what, n, all...)
}

// R6: two nodes that are treated alike tell alike.
func TestSameAgain(t *testing.T) {
	tell := func() string {
		n, d, s := shipper.New(100), draws(77), ""
		for range 1000 {
			x := d.draw(60)
			switch x.kind {
			case goesDown:
				n.Crash(x.crash.stay, x.crash.torn)
			case starts:
				n.Start()
			default:
				s += fmt.Sprint(n.Handle(x.m))
			}
			s += fmt.Sprint(n.Parcels().Ids(), n.Down())
		}
		return s
	}
	if tell() != tell() {
		t.Error("they tell otherwise")
	}
}
