package chief

import (
	"wharfinger/api"
	"wharfinger/saga"
)

// Handle makes of the order what m tells of it, and tells what it needs then.
func (n *Node) Handle(m api.Msg) []api.Msg {
	if n == nil || n.Down() || m.To != api.Chief {
		return nil
	}
	l := n.orders[m.Id]
	switch {
	case m.Kind == api.MAsk && isKeeper(m.From):
		return answer(l, m)
	case l == nil:
		return nil
	case isKeeper(m.From):
		return n.hearKeeper(l, m)
	case m.From == api.Shipper:
		return n.hearShipper(l, m)
	case l.serves(m):
		return n.hearService(l, m)
	}
	return nil
}

// hearService takes what the service of a step tells.
func (n *Node) hearService(l *led, m api.Msg) []api.Msg {
	switch {
	case m.Kind == api.MDone && l.doesNext(m.Step):
		return n.noteAndGoOn(l, about(l, kindDone, m.Step))
	case m.Kind == api.MFail && !l.decided():
		return n.turns(l)
	case m.Kind == api.MUndone && l.undoesNext(m.Step):
		return n.noteAndGoOn(l, about(l, kindUndone, m.Step))
	}
	return nil
}

// hearKeeper takes what a keeper tells.
func (n *Node) hearKeeper(l *led, m api.Msg) []api.Msg {
	switch {
	case m.Kind == api.MYes && l.waits():
		return n.hearYes(l, placeOf(m.From))
	case m.Kind == api.MNo && l.waits():
		return n.turns(l)
	case m.Kind == api.MAck && l.decided() && !l.facts.Acks[placeOf(m.From)]:
		return n.noteAndGoOn(l, about(l, kindAck, m.From))
	case m.Kind == api.MDamage && l.decided():
		return n.hearDamage(l, m)
	}
	return nil
}

// hearShipper takes what the shipper tells.
func (n *Node) hearShipper(l *led, m api.Msg) []api.Msg {
	if m.Kind != api.MShipped || !l.facts.Yes || l.facts.Shipped {
		return nil
	}
	return n.noteAndGoOn(l, about(l, kindShipped))
}

// hearYes takes the yes of one that is asked; the last one decides.
func (n *Node) hearYes(l *led, who int) []api.Msg {
	said := l.with(who)
	if yes, _ := said.Outcome(); !yes {
		l.tally = said
		return nil
	}
	if n.makeSure(about(l, kindYes)) != api.OK {
		return nil
	}
	return n.goOn(l)
}

// hearDamage takes it that a keeper was forced the other way.
func (n *Node) hearDamage(l *led, m api.Msg) []api.Msg {
	told := back(m, api.MDamaged)
	if l.facts.Damage[placeOf(m.From)] {
		return told
	}
	if n.makeSure(about(l, kindDamage, m.From)) != api.OK {
		return nil
	}
	return append(told, n.goOn(l)...)
}

// answer tells a keeper that asks what was decided. Of an order that is not
// known here nothing was decided, and nothing will be: it may be given up.
func answer(l *led, m api.Msg) []api.Msg {
	switch {
	case l == nil || l.facts.Turned:
		return back(m, api.MAborts)
	case l.facts.Yes:
		return back(m, api.MCommits)
	}
	return nil
}

// noteAndGoOn goes on behind e, if there is room for it. A crash may lose e: it
// is told again then.
func (n *Node) noteAndGoOn(l *led, e api.Entry) []api.Msg {
	if n.note(e) != api.OK {
		return nil
	}
	return n.goOn(l)
}

// turn decides against the order, and tells what it needs then.
func (n *Node) turn(l *led) ([]api.Msg, api.Errno) {
	if no := n.makeSure(about(l, kindTurn)); no != api.OK {
		return nil, no
	}
	return n.goOn(l), api.OK
}

// turns is turn, where nobody asks why it does not.
func (n *Node) turns(l *led) []api.Msg {
	told, _ := n.turn(l)
	return told
}

// goOn tells what the order needs behind something new.
func (n *Node) goOn(l *led) []api.Msg {
	n.bells.Again(l.order.Id)
	if l.over() {
		n.bells.Cut(l.order.Id)
		return nil
	}
	return n.send(l)
}

// send tells what the order needs now. That the keepers are asked is noted ahead
// of it: behind a crash the chief has to know that one may wait for it.
func (n *Node) send(l *led) []api.Msg {
	var sent []api.Msg
sending:
	for _, m := range saga.Next(l.order, l.facts) {
		switch {
		case m.Kind != api.MPrepare, n.asks(l):
			sent = append(sent, m)
		default:
			break sending
		}
	}
	return sent
}

// asks tells whether it stands in the journal that the keepers are asked; it is
// noted now, if it does not and there is room.
func (n *Node) asks(l *led) bool {
	return l.facts.Asked || n.note(about(l, kindAsked)) == api.OK
}

// back tells an answer of a kind to who sent m.
func back(m api.Msg, kind int) []api.Msg {
	return []api.Msg{{Kind: kind, From: api.Chief, To: m.From, Id: m.Id}}
}

func isKeeper(node int) bool { return node == api.Stock || node == api.Purse }
