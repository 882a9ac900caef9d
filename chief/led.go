package chief

import (
	"slices"

	"wharfinger/api"
	"wharfinger/saga"
	"wharfinger/tally"
)

// keepers is how many are asked, and decide together.
const keepers = 2

// led is an order, and what is known of it.
type led struct {
	order api.Order
	facts saga.Facts
	tally *tally.Tally // of one that waits; nil of all others
}

// state tells how it stands; api.SNone, if there is none.
func (l *led) state() int {
	if l == nil {
		return api.SNone
	}
	return saga.State(l.order, l.facts)
}

// over tells whether it has come to an end, and needs no bell any more.
func (l *led) over() bool { return saga.Over(l.order, l.facts) }

// decided tells whether it is decided, for it or against it.
func (l *led) decided() bool { return l.facts.Yes || l.facts.Turned }

// waits tells whether the keepers are asked, and it is not decided.
func (l *led) waits() bool { return l.facts.Asked && !l.decided() }

// serves tells whether m comes from the service of its step.
func (l *led) serves(m api.Msg) bool {
	return 0 <= m.Step && m.Step < len(l.order.Steps) && l.order.Steps[m.Step].Service == m.From
}

// doesNext tells whether step is the one to be done now.
func (l *led) doesNext(step int) bool {
	return !l.facts.Asked && !l.decided() && slices.Index(l.facts.Done, false) == step
}

// undoesNext tells whether step is the one to be undone now. All later ones are
// undone just when it is the last one that is not.
func (l *led) undoesNext(step int) bool {
	return l.facts.Turned && !l.facts.Undone[step] && !slices.Contains(l.facts.Undone[step+1:], false)
}

// with tells a tally of what was said, and of the yes of who. The one that there
// is stays as it is, for the journal may have no room for what comes of it.
func (l *led) with(who int) *tally.Tally {
	said, silent := tally.New(keepers), l.tally.Waits()
	for i := range keepers {
		if i == who || !slices.Contains(silent, i) {
			said.Say(i, true)
		}
	}
	return said
}

// follow makes of the facts what e, an entry behind the first one, says.
func (l *led) follow(e api.Entry) {
	f := &l.facts
	switch e.Kind {
	case kindStep:
		l.order.Steps = append(l.order.Steps, api.Step{Service: e.N[1], N: e.N[2]})
		f.Done, f.Undone = append(f.Done, false), append(f.Undone, false)
	case kindDone:
		f.Done[e.N[0]] = true
	case kindAsked:
		f.Asked, l.tally = true, tally.New(keepers)
	case kindYes:
		f.Yes, l.tally = true, nil
	case kindTurn:
		f.Turned, l.tally = true, nil
	case kindUndone:
		f.Undone[e.N[0]] = true
	case kindAck:
		f.Acks[placeOf(e.N[0])] = true
	case kindDamage:
		// Who tells of damage has heard the decision.
		f.Damage[placeOf(e.N[0])], f.Acks[placeOf(e.N[0])] = true, true
	case kindShipped:
		f.Shipped = true
	case kindAccept:
		f.Accepted = true
	}
}

// placeOf tells where a keeper stands in facts and tallies.
func placeOf(keeper int) int { return keeper - api.Stock }
