package chief

import "wharfinger/api"

// Kinds of entries.
const (
	kindBegin   = "begin" // Item, Qty, Client, Price
	kindStep    = "step"  // its number, its service, how much
	kindDone    = "done"  // the step
	kindAsked   = "asked"
	kindYes     = "yes"
	kindTurn    = "turn"
	kindUndone  = "undone" // the step
	kindAck     = "ack"    // the node
	kindDamage  = "damage" // the node
	kindShipped = "shipped"
	kindAccept  = "accept"
)

// entriesOf tells all entries of an order that begins.
func entriesOf(o api.Order) []api.Entry {
	l := []api.Entry{{Kind: kindBegin, Id: o.Id, N: []int{o.Item, o.Qty, o.Client, o.Price}}}
	for i, step := range o.Steps {
		l = append(l, api.Entry{Kind: kindStep, Id: o.Id, N: []int{i, step.Service, step.N}})
	}
	return l
}

// about tells an entry of an order.
func about(l *led, kind string, numbers ...int) api.Entry {
	return api.Entry{Kind: kind, Id: l.order.Id, N: numbers}
}

// note adds all of the entries, or none where there is no room for all, and
// follows them. A crash may lose them.
func (n *Node) note(l ...api.Entry) api.Errno {
	if len(n.journal.Lines())+len(l) > n.room {
		return api.ErrFull
	}
	for _, e := range l {
		if no := n.journal.Add(e); no != api.OK {
			return no
		}
		n.follow(e)
	}
	return api.OK
}

// makeSure notes the entries, and no crash loses them any more.
func (n *Node) makeSure(l ...api.Entry) api.Errno {
	if no := n.note(l...); no != api.OK {
		return no
	}
	return n.journal.Sync()
}

// follow makes of orders and facts what e says. Nothing else changes them, so
// that they are the same behind a crash.
func (n *Node) follow(e api.Entry) {
	if e.Kind == kindBegin {
		n.orders[e.Id] = &led{order: api.Order{Id: e.Id, Item: e.N[0], Qty: e.N[1], Client: e.N[2], Price: e.N[3]}}
		return
	}
	// The entry that an order begins with is ahead of all others of it.
	n.orders[e.Id].follow(e)
}
