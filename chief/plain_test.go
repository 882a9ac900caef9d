package chief_test

import (
	"fmt"
	"maps"
	"slices"
	"strings"
	"testing"

	"wharfinger/api"
	"wharfinger/chief"
	"wharfinger/order"
	"wharfinger/saga"
)

// noted is a line: what came of an order, and of which step or node.
type noted struct {
	what  string
	id, n int
	o     api.Order // of begin; each of its steps has a line of its own
}

// plain is a chief that keeps what was noted, and goes through all of it at each
// call; beside it, what a crash loses: the tries of bells, and who said yes.
type plain struct {
	most, room, tries int
	lines             []noted
	sure              int
	down              bool
	left              map[int]int
	said              map[int][2]bool
}

func newPlain(most, room, tries int) *plain {
	return &plain{most: most, room: room, tries: tries, left: map[int]int{}, said: map[int][2]bool{}}
}

// facts is what the lines say of an order.
func (p *plain) facts(id int) (api.Order, saga.Facts, bool) {
	var o api.Order
	var f saga.Facts
	known := false
	for _, l := range p.lines {
		if l.id != id || p.down {
			continue
		}
		switch l.what {
		case "begin":
			o, known = l.o, true
			f.Done, f.Undone = make([]bool, len(o.Steps)), make([]bool, len(o.Steps))
		case "done":
			f.Done[l.n] = true
		case "undone":
			f.Undone[l.n] = true
		case "ack":
			f.Acks[l.n-1] = true
		case "damage":
			f.Damage[l.n-1], f.Acks[l.n-1] = true, true
		}
		f.Asked = f.Asked || l.what == "asked"
		f.Yes = f.Yes || l.what == "yes"
		f.Turned = f.Turned || l.what == "turn"
		f.Shipped = f.Shipped || l.what == "shipped"
		f.Accepted = f.Accepted || l.what == "accept"
	}
	return o, f, known
}

// ids are all that the lines speak of, rising.
func (p *plain) ids() []int {
	all := map[int]int{}
	for _, l := range p.lines {
		if !p.down {
			all[l.id]++
		}
	}
	return slices.Sorted(maps.Keys(all))
}

// write is a line behind all others, or several of one order; false: no room.
func (p *plain) write(sure bool, l ...noted) bool {
	if len(p.lines)+len(l) > p.room {
		return false
	}
	p.lines = append(p.lines, l...)
	if sure {
		p.sure = len(p.lines)
	}
	return true
}

func (p *plain) begin(o api.Order) ([]api.Msg, api.Errno) {
	_, _, known := p.facts(o.Id)
	many := 0
	for _, id := range p.ids() {
		if o, f, _ := p.facts(id); !saga.Over(o, f) {
			many++
		}
	}
	// The lines of its steps say nothing that the first one does not say here.
	l := []noted{{what: "begin", id: o.Id, o: o}}
	for i := range o.Steps {
		l = append(l, noted{what: "step", id: o.Id, n: i})
	}
	switch {
	case p.down:
		return nil, api.ErrDown
	case !order.May(o):
		return nil, api.ErrArg
	case known:
		return nil, api.ErrTwice
	case many >= p.most || !p.write(true, l...):
		return nil, api.ErrFull
	}
	p.left[o.Id] = p.tries
	return p.goesOn(o.Id), api.OK
}

// goesOn is what is sent behind something new.
func (p *plain) goesOn(id int) []api.Msg {
	if o, f, _ := p.facts(id); saga.Over(o, f) {
		delete(p.left, id)
		return nil
	}
	p.left[id] = p.tries
	return p.sends(id)
}

func (p *plain) sends(id int) []api.Msg {
	o, f, _ := p.facts(id)
	l := saga.Next(o, f)
	if len(l) > 0 && l[0].Kind == api.MPrepare && !f.Asked {
		if !p.write(false, noted{what: "asked", id: id}) {
			return nil
		}
		p.said[id] = [2]bool{}
	}
	return l
}

// comes is a line, and what is sent behind it.
func (p *plain) comes(sure bool, l noted) []api.Msg {
	if !p.write(sure, l) {
		return nil
	}
	return p.goesOn(l.id)
}

func (p *plain) handle(m api.Msg) []api.Msg {
	o, f, known := p.facts(m.Id)
	keeper := m.From == api.Stock || m.From == api.Purse
	decided := f.Yes || f.Turned
	answer := func(kind int) []api.Msg { return []api.Msg{{Kind: kind, To: m.From, Id: m.Id}} }
	switch {
	case p.down || m.To != api.Chief:
		return nil
	case keeper && m.Kind == api.MAsk:
		switch {
		case f.Yes:
			return answer(api.MCommits)
		case f.Turned || !known:
			return answer(api.MAborts)
		}
		return nil
	case !known:
		return nil
	case order.At(o, m.From) >= 0 && order.At(o, m.From) == m.Step:
		return p.fromService(o, f, m)
	case m.From == api.Shipper && m.Kind == api.MShipped && f.Yes && !f.Shipped:
		return p.comes(false, noted{what: "shipped", id: m.Id})
	case keeper && !decided && f.Asked && m.Kind == api.MNo:
		return p.comes(true, noted{what: "turn", id: m.Id})
	case keeper && !decided && f.Asked && m.Kind == api.MYes:
		return p.yes(m)
	case keeper && decided && m.Kind == api.MAck && !f.Acks[m.From-1]:
		return p.comes(false, noted{what: "ack", id: m.Id, n: m.From})
	case keeper && decided && m.Kind == api.MDamage && f.Damage[m.From-1]:
		return answer(api.MDamaged)
	case keeper && decided && m.Kind == api.MDamage && p.write(true, noted{what: "damage", id: m.Id, n: m.From}):
		return append(answer(api.MDamaged), p.goesOn(m.Id)...)
	}
	return nil
}

func (p *plain) fromService(o api.Order, f saga.Facts, m api.Msg) []api.Msg {
	done, undone := 0, 0
	for i := range o.Steps {
		if f.Done[i] {
			done++
		}
		if f.Undone[i] {
			undone++
		}
	}
	switch {
	case m.Kind == api.MDone && !f.Asked && !f.Turned && m.Step == done:
		return p.comes(false, noted{what: "done", id: m.Id, n: m.Step})
	case m.Kind == api.MFail && !f.Yes && !f.Turned:
		return p.comes(true, noted{what: "turn", id: m.Id})
	case m.Kind == api.MUndone && f.Turned && m.Step == len(o.Steps)-1-undone:
		return p.comes(false, noted{what: "undone", id: m.Id, n: m.Step})
	}
	return nil
}

func (p *plain) yes(m api.Msg) []api.Msg {
	said := p.said[m.Id]
	said[m.From-1] = true
	if said == [2]bool{true, true} {
		return p.comes(true, noted{what: "yes", id: m.Id})
	}
	p.said[m.Id] = said
	return nil
}

func (p *plain) ring(id int) []api.Msg {
	left, hangs := p.left[id]
	_, f, _ := p.facts(id)
	switch {
	case !hangs:
		return nil
	case left == 0 && !f.Yes && !f.Turned:
		return p.comes(true, noted{what: "turn", id: id})
	case left == 0:
		p.left[id] = p.tries
	default:
		p.left[id]--
	}
	return p.sends(id)
}

func (p *plain) cancel(id int) ([]api.Msg, api.Errno) {
	_, f, known := p.facts(id)
	switch {
	case p.down:
		return nil, api.ErrDown
	case !known:
		return nil, api.ErrNone
	case f.Yes || f.Turned:
		return nil, api.ErrState
	case len(p.lines) >= p.room:
		return nil, api.ErrFull
	}
	return p.comes(true, noted{what: "turn", id: id}), api.OK
}

func (p *plain) accept(id int) api.Errno {
	o, f, known := p.facts(id)
	switch {
	case p.down:
		return api.ErrDown
	case !known:
		return api.ErrNone
	case saga.State(o, f) != api.SDamaged:
		return api.ErrState
	case !p.write(true, noted{what: "accept", id: id}):
		return api.ErrFull
	}
	return api.OK
}

func (p *plain) crash(c crash) {
	if p.down {
		return
	}
	p.down = true
	p.lines = p.lines[:p.sure+min(max(c.stay, 0), len(p.lines)-p.sure)]
	p.sure = len(p.lines)
	clear(p.left)
	clear(p.said)
}

func (p *plain) start() {
	if !p.down {
		return
	}
	p.down = false
	for _, id := range p.ids() {
		o, f, _ := p.facts(id)
		if !saga.Over(o, f) {
			p.left[id] = p.tries
		}
		if f.Asked && !f.Yes && !f.Turned {
			p.write(true, noted{what: "turn", id: id})
		}
	}
}

// text is all that is to be seen of a plain chief.
func (p *plain) text() string {
	s := fmt.Sprint("down ", p.down, "; ")
	for _, id := range p.ids() {
		o, f, _ := p.facts(id)
		s += fmt.Sprint(saga.State(o, f), " ", o, " ", factsText(f), "; ")
	}
	return s
}

// pair is a chief and a plain one, which are treated alike.
type pair struct {
	n *chief.Node
	p *plain
}

func newPair(most, room, tries int) pair {
	return pair{chief.New(most, room, tries), newPlain(most, room, tries)}
}

// holdStep takes a step with both, and holds what it tells, and all that is to
// be seen behind it.
func (w pair) holdStep(t *testing.T, what any, s step) {
	t.Helper()
	want, no := s.onPlain(w.p)
	holdStep(t, what, w.n, s, want, no)
	w.hold(t, what)
}

// hold holds all that is to be seen of n against the plain one.
func (w pair) hold(t *testing.T, what any) {
	t.Helper()
	if got, want := nodeText(w.n), w.p.text(); got != want {
		t.Errorf("%v: it is %s; want %s", what, got, want)
	}
}

// lead takes the steps that words name, about an order.
func (w pair) lead(t *testing.T, o api.Order, words string) {
	t.Helper()
	for _, word := range strings.Fields(words) {
		w.holdStep(t, words, taken(o, word))
	}
}

// quietly takes them without holding anything: that is much faster.
func (w pair) quietly(o api.Order, words string) {
	for _, word := range strings.Fields(words) {
		taken(o, word).on(w.n)
		taken(o, word).onPlain(w.p)
	}
}

// at is a pair whose order 7, of two steps, stands at a place.
func at(t *testing.T, place string, room, tries int) pair {
	t.Helper()
	w := newPair(2, room, tries)
	w.lead(t, made(7, 2), "begin "+place)
	return w
}

// holdBells holds, by ringing for all that may have one, that the same bells are
// there, and as many tries of each.
func (w pair) holdBells(t *testing.T, what any, ids ...int) {
	t.Helper()
	for _, id := range ids {
		for range w.p.tries + 2 {
			holdStep(t, what, w.n, step{kind: rings, id: id}, w.p.ring(id), api.OK)
		}
	}
	w.hold(t, what)
}
