package harbour_test

import (
	"fmt"
	"maps"
	"slices"
	"testing"

	"wharfinger/api"
	"wharfinger/flow"
	"wharfinger/harbour"
	"wharfinger/model"
	"wharfinger/peers"
	"wharfinger/vote"
)

// draws is a row of numbers that look like no rule.
type draws int

func (d *draws) next(n int) int {
	*d = (*d*1103515245 + 12345) % (1 << 31)
	return int(*d>>8) % n
}

// drawn is some order of an id: what it is hangs on that alone.
func drawn(id int) api.Order {
	o := sized(id, id%4)
	o.Item, o.Qty, o.Client, o.Price = id%3, 1+id%4, id%2, 10+id%7
	return o
}

// mood is how often things are drawn that are no delivery, in a hundred.
type mood struct{ loss, crash, force, cancel int }

// draw is some command where so many messages are on their way; few are not
// about orders 1 to ids, about a message on its way, or about a node.
func (d *draws) draw(ids, mail int, m mood) api.Cmd {
	id, node, n := 1+d.next(ids), d.next(api.Nodes), d.next(100)
	switch {
	case d.next(50) == 0:
		return api.Cmd{Kind: d.next(13) - 1, Node: d.next(10) - 1, Id: d.next(1002) - 1, I: d.next(300) - 1, Order: drawn(id)}
	case n < m.loss:
		return []api.Cmd{drop(d.next(mail + 1)), double(d.next(mail + 1))}[d.next(2)]
	case n < m.loss+m.crash:
		return crash(node, d.next(6)-1, d.next(30)-1)
	case n < m.loss+2*m.crash:
		return start(node)
	case n < m.loss+2*m.crash+m.force:
		return force(1+d.next(2), id, d.next(2) == 0)
	case n < m.loss+2*m.crash+m.force+m.cancel:
		return []api.Cmd{cancel(id), accept(id)}[d.next(2)]
	}
	switch d.next(8) {
	case 0:
		return api.Cmd{Kind: api.CSubmit, Order: drawn(id)}
	case 1:
		return ring(d.next(3), id)
	case 2, 3:
		return deliver(d.next(mail + 1))
	}
	return deliver(0)
}

// moods are those in which long runs are drawn.
var moods = []mood{{0, 0, 0, 0}, {10, 0, 0, 1}, {3, 3, 0, 2}, {5, 5, 3, 2}, {20, 8, 0, 0}, {1, 1, 30, 5}, {0, 15, 9, 1}}

// P25.1 to P25.4: every run of three commands from some places on, held against
// a plain harbour.
func TestAllRuns(t *testing.T) {
	words := []api.Cmd{
		submit(9, 1), cancel(7), accept(7), deliver(0), deliver(1), drop(0), double(0), force(api.Stock, 7, true), force(api.Purse, 7, false),
		ring(api.Chief, 7), ring(api.Purse, 7), crash(api.Chief, 1, 0), start(api.Chief), crash(api.Stock, 0, 0), start(api.Stock), crash(api.Credit, 0, 0),
	}
	for _, times := range []int{0, 3, 5, 8} {
		for i := range len(words) * len(words) * len(words) {
			w := newPair(t, setup(), 7, 9)
			w.quietly(submit(7, 1))
			for range times {
				w.quietly(deliver(0))
			}
			a, b, c := words[i%len(words)], words[i/len(words)%len(words)], words[i/len(words)/len(words)]
			w.quietly(a, b)
			w.do(t, fmt.Sprintf("behind %d messages, %+v, %+v", times, a, b), c)
		}
	}
}

// quietly does commands with both, and looks at neither.
func (w pair) quietly(l ...api.Cmd) {
	for _, c := range l {
		w.h.Do(c)
		w.p.do(c)
	}
}

// P25.1 to P25.4: long runs, of few orders and of many, of journals that come to
// be full and of such that do not, held against a plain harbour; Settle in
// between, and at the end.
func TestLongRuns(t *testing.T) {
	seed := 0
	for _, room := range []int{4, 30, 4096} {
		for _, m := range moods {
			for _, c := range []struct{ orders, tries, ids int }{{2, 1, 3}, {64, 3, 30}} {
				seed++
				s := api.Setup{Stock: []int{20, 50, 9}, Money: []int{300, 200}, Holds: []int{9, 20, 12}, Orders: c.orders, Room: room, Tries: c.tries}
				w, d := newPair(t, s, 0, 1, 2, 3, 9, 17, 30), draws(seed)
				for i := range 400 {
					what := fmt.Sprintf("run %d, %+v, room %d, step %d", seed, m, room, i)
					w.do(t, what, d.draw(c.ids, w.h.Post().Len(), m))
					if d.next(100) == 0 {
						w.settle(t, what, d.next(4))
					}
				}
				w.settle(t, fmt.Sprint("run ", seed), 60)
			}
		}
	}
}

// witness is what is seen of a harbour from outside, command by command.
type witness struct {
	h      *harbour.Harbour
	orders map[int]api.Order
	states map[[2]int]int    // by keeper and id: what it was last, while it was up
	traces map[int][]api.Act // as they were last
}

// see holds P25.5 behind a command.
func (w *witness) see(t *testing.T, what string, c api.Cmd) {
	t.Helper()
	if w.h.Do(c) == api.OK && c.Kind == api.CSubmit {
		w.orders[c.Order.Id] = c.Order
	}
	for _, id := range slices.Sorted(maps.Keys(w.orders)) {
		w.seeKeepers(t, what, id)
		w.seeTrace(t, what, id)
	}
}

// seeKeepers holds that keepers of an order are Safe, if it was not forced, and
// that what one has decided stays decided.
func (w *witness) seeKeepers(t *testing.T, what string, id int) {
	t.Helper()
	var both []int
	for node := api.Stock; node <= api.Purse; node++ {
		k := w.h.Keeper(node)
		if k.Down() {
			continue
		}
		was, now := w.states[[2]int{node, id}], k.State(id)
		if vote.Legal([]int{api.VNone, was, now}) != 3 && vote.Legal([]int{api.VNone, api.VPrepared, was, now}) != 4 {
			t.Fatalf("%s: %s came from %d to %d of order %d", what, names[node], was, now, id)
		}
		if now >= api.VForcedYes && !w.h.Forced(id) {
			t.Fatalf("%s: %s was forced of order %d, which Forced does not tell", what, names[node], id)
		}
		w.states[[2]int{node, id}] = now
		both = append(both, now)
	}
	if len(both) == 2 && !w.h.Forced(id) && !peers.Safe(both) {
		t.Fatalf("%s: the keepers of order %d are %v", what, id, both)
	}
}

// seeTrace holds that all of a trace is Legal, that it grows by its end alone,
// and that each act is what its node says.
func (w *witness) seeTrace(t *testing.T, what string, id int) {
	t.Helper()
	trace, was := w.h.Trace(id), w.traces[id]
	if n := flow.Legal(w.orders[id], trace); n != len(trace) {
		t.Fatalf("%s: of the trace of order %d %q so many are legal: %d", what, id, traceText(trace), n)
	}
	if len(trace) < len(was) || !slices.Equal(trace[:len(was)], was) {
		t.Fatalf("%s: the trace of order %d is %q; it was %q", what, id, traceText(trace), traceText(was))
	}
	w.traces[id] = trace
	ought := model.New(w.orders[id])
	for _, a := range trace {
		if !ought.See(a) {
			t.Fatalf("%s: order %d: the model does not see %+v", what, id, a)
		}
	}
	w.holdBooks(t, what, id, ought)
}

// holdBooks holds that nodes that are up say of an order what ought to be so by
// its trace.
func (w *witness) holdBooks(t *testing.T, what string, id int, ought *model.Model) {
	t.Helper()
	for i, step := range w.orders[id].Steps {
		if n := w.h.Service(step.Service); !n.Down() && (n.State(id) == 1) != (ought.Held(step.Service) > 0) {
			t.Fatalf("%s: of step %d of order %d %s says %d; it should hold %d", what, i, id, names[step.Service], n.State(id), ought.Held(step.Service))
		}
	}
	if _, _, went := w.h.Shipper().Parcels().Has(id); !w.h.Shipper().Down() && went != ought.Sent() {
		t.Fatalf("%s: that the parcel of order %d went is %t", what, id, went)
	}
	if _, f, ok := w.h.Desk().Chief().Facts(id); ok && (f.Yes != ought.Sold() || f.Turned != slices.Contains(ought.Seen(), api.Act{Kind: api.MAborts})) {
		t.Fatalf("%s: of order %d the chief knows %+v", what, id, f)
	}
}

// P25.5 (T1, T2, T3): whatever the script, keepers of an order that was not
// forced are Safe, each trace is Legal, what is decided stays decided; behind a
// Settle that is long enough each order has come to an end, and nothing is on
// its way.
func TestWhatFollows(t *testing.T) {
	met := map[int]int{}
	for seed := range 120 {
		m := moods[seed%len(moods)]
		s := api.Setup{Stock: []int{20, 50, 30}, Money: []int{300, 200}, Holds: []int{30, 50, 30}, Orders: 1 + seed%40, Room: 4096, Tries: 1 + seed%6}
		d := draws(seed + 900)
		w := &witness{made(t, s), map[int]api.Order{}, map[[2]int]int{}, map[int][]api.Act{}}
		for i := range 600 {
			c := d.draw(2+seed%30, w.h.Post().Len(), m)
			w.see(t, fmt.Sprintf("run %d, step %d, behind %+v", seed, i, c), c)
		}
		for i := 0; w.h.Settle(1) == 1; i++ {
			w.see(t, fmt.Sprintf("run %d, round %d", seed, i), api.Cmd{})
			if i == 300 {
				t.Fatalf("run %d: it comes to no end: %s", seed, msgsText(way(w.h)))
			}
		}
		w.holdEnd(t, fmt.Sprint("run ", seed), met)
	}
	if met[api.SShipped] < 500 || met[api.SAborted] < 300 || met[api.SDamaged] < 30 {
		t.Errorf("by status so many orders came to an end: %v", met)
	}
}

// holdEnd holds that all orders have come to an end, and counts to which; who is
// not forced is decided alike by both, as the trace has it, and holds nothing
// that was not sold.
func (w *witness) holdEnd(t *testing.T, what string, met map[int]int) {
	t.Helper()
	holdWay(t, what, w.h, "")
	if down := viewOf(w.h).down(); len(down) != 0 || w.h.Desk().Open() != 0 {
		t.Errorf("%s: down are %v, open are %d", what, down, w.h.Desk().Open())
	}
	for id, o := range w.orders {
		status, trace := w.h.Desk().Status(id), w.traces[id]
		met[status]++
		if status != api.SShipped && status != api.SAborted && (status != api.SDamaged || !w.h.Forced(id)) {
			t.Errorf("%s: %s; forced: %t", what, w.h.Desk().Tell(id), w.h.Forced(id))
		}
		ought := model.New(o)
		for _, a := range trace {
			ought.See(a)
		}
		if ought.Sent() == ought.Clean() || ought.Sent() != ought.Sold() || status == api.SShipped && !ought.Sent() || status == api.SAborted && !ought.Clean() {
			t.Errorf("%s: %s; the trace is %q", what, w.h.Desk().Tell(id), traceText(trace))
		}
		want := map[bool]int{true: api.VCommitted, false: api.VAborted}[ought.Sold()]
		if stock, purse := w.h.Keeper(1).State(id), w.h.Keeper(2).State(id); !w.h.Forced(id) && (stock != want || purse != want) {
			t.Errorf("%s: the keepers of order %d are %d, %d; want %d", what, id, stock, purse, want)
		}
	}
}

// R6: two harbours that are treated alike tell alike.
func TestSameAgain(t *testing.T) {
	tell := func() string {
		h, d, s := made(t, setup()), draws(77), ""
		for range 500 {
			s += fmt.Sprint(h.Do(d.draw(9, h.Post().Len(), moods[3])), viewOf(h).text([]int{1, 2, 3, 4, 5, 6, 7, 8, 9}), ";")
		}
		return fmt.Sprint(s, h.Settle(500), viewOf(h).text([]int{1, 2, 3, 4, 5, 6, 7, 8, 9}))
	}
	if tell() != tell() {
		t.Error("they tell otherwise")
	}
}
