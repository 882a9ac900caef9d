package harbour

import "wharfinger/api"

// Do does what c says; what nodes tell is put on its way.
func (h *Harbour) Do(c api.Cmd) api.Errno {
	// A harbour that New did not make has no nodes.
	if h.Desk() == nil {
		return api.ErrArg
	}
	switch c.Kind {
	case api.CSubmit:
		return h.put(h.desk.Submit(c.Order))
	case api.CCancel:
		return h.cancel(c.Id)
	case api.CForce:
		return h.force(c.Node, c.Id, c.Yes)
	case api.CAccept:
		return h.desk.Chief().Accept(c.Id)
	case api.CDeliver:
		return h.deliver(c.I)
	case api.CDrop:
		_, there := h.post.Take(c.I)
		return noneBut(there)
	case api.CDouble:
		return noneBut(h.post.Double(c.I))
	case api.CRing:
		return h.ring(c.Node, c.Id)
	case api.CCrash:
		return h.crash(c.Node, c.I, c.Id)
	case api.CStart:
		return h.start(c.Node)
	}
	return api.ErrArg
}

// cancel gives an order up.
func (h *Harbour) cancel(id int) api.Errno {
	no := h.put(h.desk.Chief().Cancel(id))
	h.noteDecision(id)
	return no
}

// force decides an order at a keeper that waits, as an operator wants it.
func (h *Harbour) force(number, id int, yes bool) api.Errno {
	if !isKeeper(number) {
		return api.ErrArg
	}
	no := h.Keeper(number).Force(id, yes)
	if no == api.OK {
		h.forced[id] = struct{}{}
	}
	return no
}

// deliver takes the ith message to its node. One that is down says nothing to
// it, so that it is lost.
func (h *Harbour) deliver(i int) api.Errno {
	m, there := h.post.Take(i)
	if !there {
		return api.ErrNone
	}
	// Nodes write to nodes alone; who changes the post may have put others.
	if n := h.node(m.To); n != nil {
		h.post.Put(n.Handle(m)...)
		h.noteBehind(m)
	}
	return api.OK
}

// ring rings a node's bell for an order. One that was rung for too often may be
// given up by that.
func (h *Harbour) ring(number, id int) api.Errno {
	n := h.ringer(number)
	switch {
	case n == nil:
		return api.ErrArg
	case n.Down():
		return api.ErrDown
	}
	h.post.Put(n.Ring(id)...)
	if number == api.Chief {
		h.noteDecision(id)
	}
	return api.OK
}

// crash takes a node down.
func (h *Harbour) crash(number, stay, torn int) api.Errno {
	n := h.node(number)
	switch {
	case n == nil:
		return api.ErrArg
	case n.Down():
		return api.ErrState
	}
	n.Crash(stay, torn)
	return api.OK
}

// start takes a node up again. The chief gives up then what it waited for.
func (h *Harbour) start(number int) api.Errno {
	n := h.node(number)
	switch {
	case n == nil:
		return api.ErrArg
	case !n.Down():
		return api.ErrState
	}
	n.Start()
	if number == api.Chief {
		for id := range h.desk.Chief().Ids() {
			h.noteDecision(id)
		}
	}
	return api.OK
}

// put puts what a node told on its way, and tells what it told beside that.
func (h *Harbour) put(told []api.Msg, no api.Errno) api.Errno {
	h.post.Put(told...)
	return no
}

// noneBut tells that there is none, unless it is there.
func noneBut(there bool) api.Errno {
	if !there {
		return api.ErrNone
	}
	return api.OK
}
