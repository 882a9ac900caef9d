package audit_test

import (
	"fmt"
	"slices"
	"strings"
	"testing"

	"wharfinger/api"
	"wharfinger/audit"
)

// holdBoth holds that the books of a harbour say what a plain harbour works out,
// by its own setup and by others.
func holdBoth(t *testing.T, what string, p *plain, setups ...api.Setup) {
	t.Helper()
	if got, want := reportText(audit.Of(p.h)), p.report(); got != want {
		t.Fatalf("%s: Of tells\n%s; want\n%s", what, got, want)
	}
	for _, s := range setups {
		if got, want := linesText(audit.Even(s, p.h)), linesText(p.even(s)); got != want {
			t.Fatalf("%s: %+v: Even tells\n%s; want\n%s", what, s, got, want)
		}
	}
}

// holdAllEven holds that all is even, and that by one more or one less of each
// item or client it is not, if nobody is down.
func holdAllEven(t *testing.T, what string, p *plain, s api.Setup) {
	t.Helper()
	if l := audit.Even(s, p.h); len(l) != 0 {
		t.Fatalf("%s: Even tells %q", what, l)
	}
	other := s
	other.Stock, other.Money = with(s.Stock, 1, s.Stock[1]+1), with(s.Money, 0, s.Money[0]-1)
	want := "item 1: goods, client 0: money"
	if p.down() {
		want = ""
	}
	if l := audit.Even(other, p.h); linesText(l) != want {
		t.Fatalf("%s: by another setup Even tells %q", what, l)
	}
}

// P26.4 (T1, T2, T4): every run of three commands from some places on: all is
// even.
func TestAllRuns(t *testing.T) {
	words := []api.Cmd{
		submit(9, 1), cancel(7), accept(7), deliver(0), deliver(1), drop(0), double(0), force(api.Stock, 7, true), force(api.Purse, 7, false),
		ring(api.Chief, 7), ring(api.Purse, 7), crash(api.Chief, 1, 0), start(api.Chief), crash(api.Stock, 0, 0), start(api.Stock), crash(api.Credit, 0, 0),
	}
	for _, times := range []int{0, 3, 5, 8} {
		for i := range len(words) * len(words) * len(words) {
			p := newPlain(made(t, setup()))
			p.do(submit(7, 1))
			for range times {
				p.do(deliver(0))
			}
			a, b, c := words[i%len(words)], words[i/len(words)%len(words)], words[i/len(words)/len(words)]
			for _, c := range []api.Cmd{a, b, c} {
				p.do(c)
			}
			what := fmt.Sprintf("behind %d messages, %+v, %+v, %+v", times, a, b, c)
			holdAllEven(t, what, p, setup())
			for node := range api.Nodes {
				p.do(start(node))
			}
			holdAllEven(t, what+", all are up", p, setup())
		}
	}
}

// P26.4 (T1, T2, T4): long runs, of few orders and of many, of journals that come
// to be full and of such that do not: all is even at every moment; the books say
// what a plain harbour works out. Behind Settle, too.
func TestLongRuns(t *testing.T) {
	seed, met := 0, map[string]int{}
	for _, room := range []int{4, 30, 4096} {
		for _, m := range moods {
			for _, c := range []struct{ orders, tries, ids int }{{2, 1, 3}, {64, 3, 30}, {6, 2, 99}, {9, 4, 12}} {
				seed++
				s := api.Setup{Stock: []int{20, 50, 9}, Money: []int{300, 200}, Holds: []int{9, 20, 12}, Orders: c.orders, Room: room, Tries: c.tries}
				p, d := newPlain(made(t, s)), draws(seed)
				for i := range 400 {
					what := fmt.Sprintf("run %d, %+v, room %d, step %d", seed, m, room, i)
					p.do(d.draw(c.ids, p.h.Post().Len(), m))
					holdAllEven(t, what, p, s)
					if d.next(10) == 0 {
						holdBoth(t, what, p, s)
					}
					if d.next(100) == 0 {
						p.h.Settle(d.next(4))
						holdAllEven(t, what+", settled", p, s)
					}
				}
				for i := 0; i < 60 && p.h.Settle(1) == 1; i++ {
					holdAllEven(t, fmt.Sprintf("run %d, round %d", seed, i), p, s)
				}
				holdBoth(t, fmt.Sprint("run ", seed), p, s)
				for id := range p.orders {
					met[p.word(id)]++
				}
			}
		}
	}
	if met["shipped"] < 100 || met["aborted"] < 100 || met["damaged"] < 10 || met["open"] < 10 {
		t.Errorf("so many orders came to be: %v", met)
	}
}

// P26.4 (T4): when all orders have come to an end, and none was forced, the books
// are what they were at first, but for one sale of each that was shipped: as Sum
// tells of these.
func TestCounted(t *testing.T) {
	ends := 0
	for seed := range 60 {
		m := moods[seed%len(moods)]
		m.force = 0
		s := api.Setup{Stock: []int{20, 50, 30}, Money: []int{300, 200}, Holds: []int{30, 50, 30}, Orders: 1 + seed%40, Room: 4096, Tries: 1 + seed%6}
		p, d := newPlain(made(t, s)), draws(seed+700)
		for range 400 {
			c := d.draw(2+seed%30, p.h.Post().Len(), m)
			if c.Kind != api.CForce {
				p.do(c)
			}
		}
		p.h.Settle(300)
		r := audit.Of(p.h)
		if len(r.Open) != 0 || len(r.Damaged) != 0 {
			t.Errorf("run %d: it has come to no end: %s", seed, reportText(r))
		}
		var shipped []api.Order
		for _, id := range r.Shipped {
			shipped = append(shipped, p.orders[id])
		}
		ends += len(shipped)
		goods, money := audit.Sum(shipped)
		till := 0
		for i := range 8 {
			if r.OnHand[i]+goods[i] != at(s.Stock, i) || r.Went[i] != goods[i] || r.Money[i]+money[i] != at(s.Money, i) {
				t.Errorf("run %d: %d: %s; what is shipped asks for %v, %v", seed, i, reportText(r), goods, money)
			}
			till += money[i]
		}
		if r.Till != till || r.Left[0]+r.Left[1]+r.Left[2]+heldBy(shipped) != 110 {
			t.Errorf("run %d: %s; what is shipped asks for %v", seed, reportText(r), money)
		}
		holdAllEven(t, fmt.Sprint("run ", seed), p, s)
	}
	if ends < 200 {
		t.Errorf("%d orders were shipped", ends)
	}
}

// heldBy is how much of services orders ask for.
func heldBy(l []api.Order) int {
	n := 0
	for _, o := range l {
		for _, step := range o.Steps {
			n += step.N
		}
	}
	return n
}

// forged is some message that no node told, about orders 1 to ids: most of them
// come from one who might have told it.
func (d *draws) forged(ids int) api.Msg {
	id := 1 + d.next(ids)
	o := drawn(id)
	keeper, service := api.Stock+d.next(2), api.Coupon+d.next(3)
	switch d.next(8) {
	case 0:
		return msg(api.MDo+3*d.next(2), api.Chief, service, id, 1+d.next(3), 0, d.next(3))
	case 1:
		return msg([]int{api.MDone, api.MFail, api.MUndone, api.MUndone}[d.next(4)], service, api.Chief, id, 0, 0, d.next(3))
	case 2:
		return msg(api.MPrepare, api.Chief, api.Stock, id, o.Item, o.Qty+d.next(5)/4)
	case 3:
		return msg(api.MPrepare, api.Chief, api.Purse, id, d.next(2), o.Price+d.next(5)/4)
	case 4:
		return msg(api.MCommit+d.next(2), api.Chief, keeper, id)
	case 5, 6:
		return msg([]int{api.MYes, api.MNo, api.MAck, api.MAck, api.MDamage}[d.next(5)], keeper, api.Chief, id)
	}
	return msg(api.MShip, api.Chief, api.Shipper, id, o.Item, o.Qty)
}

// P26.1, P26.3: long runs in which messages are forged, some of them past the
// harbour, held against a plain harbour: by the setup, and by others. Each line
// is met often.
func TestForgedRuns(t *testing.T) {
	met := map[string]int{}
	for seed := range 150 {
		s := api.Setup{Stock: []int{20, 50, 9}, Money: []int{300, 200}, Holds: []int{9, 20, 12}, Orders: 1 + seed%50, Room: 4096, Tries: 2}
		p, d, ids := newPlain(made(t, s)), draws(seed+3000), 1+seed%20
		m := []mood{{0, 0, 0, 40}, {10, 1, 1, 20}, {0, 0, 5, 40}}[seed%3]
		for i := range 150 {
			switch d.next(4) {
			case 0:
				hears(p.h, d.forged(ids))
			case 1:
				gets(t, p.h, d.forged(ids))
			case 2:
				p.do(begin(drawn(1 + d.next(ids))))
			default:
				p.do(d.draw(ids, p.h.Post().Len(), m))
			}
			other := s
			other.Stock, other.Money = with(s.Stock, d.next(3), d.next(60)), with(s.Money, d.next(2), d.next(400))
			holdBoth(t, fmt.Sprintf("run %d, step %d", seed, i), p, s, other)
			for _, line := range audit.Even(s, p.h) {
				met[line[strings.LastIndex(line, " ")+1:]]++
			}
		}
	}
	for _, line := range []string{"keepers", "trace", "shipped", "held", "goods", "money", "till"} {
		if met[line] < 200 {
			t.Errorf("%s was met %d times", line, met[line])
		}
	}
}

// R6: what is told hangs on the harbour alone: asked again, it is the same.
func TestSameAgain(t *testing.T) {
	h := amissInAll(t)
	l, r := audit.Even(setup(), h), reportText(audit.Of(h))
	for range 50 {
		if again := audit.Even(setup(), h); !slices.Equal(again, l) || reportText(audit.Of(h)) != r {
			t.Fatalf("they tell %q; they told %q", again, l)
		}
	}
}
