package service

import (
	"wharfinger/api"
	"wharfinger/hold"
)

// Kinds of entries.
const (
	kindDid   = "did" // with how much
	kindCant  = "cant"
	kindUndid = "undid"
)

// do holds a for id, if that was never tried, and tells the kind of the answer.
func (n *Node) do(id, a int) int {
	if n.State(id) == None && !n.note(n.tried(id, a)) {
		return nothing
	}
	if n.State(id) == Did {
		return api.MDone
	}
	return api.MFail
}

// undo gives back what id has, and tells the kind of the answer. One that was
// never done is Undid too, so that an MDo that comes late does nothing.
func (n *Node) undo(id int) int {
	state := n.State(id)
	if (state == None || state == Did) && !n.note(api.Entry{Kind: kindUndid, Id: id}) {
		return nothing
	}
	return api.MUndone
}

// tried tells the entry of what comes of it if a is to be held for id.
func (n *Node) tried(id, a int) api.Entry {
	if !n.can(id, a) {
		return api.Entry{Kind: kindCant, Id: id}
	}
	return api.Entry{Kind: kindDid, Id: id, N: []int{a}}
}

// can tells whether a can be held for id. What was taken for that is given back
// at once: the book holds nothing that no entry says, and if there is no room
// for the entry nothing has changed.
func (n *Node) can(id, a int) bool {
	return n.book.Take(id, a) == api.OK && n.book.Back(id) == api.OK
}

// note makes e sure, and only then follows it; it tells false where there is no
// room for it.
func (n *Node) note(e api.Entry) bool {
	if n.journal.Add(e) != api.OK || n.journal.Sync() != api.OK {
		return false
	}
	n.follow(e)
	return true
}

// follow makes of book and states what e says. Nothing else changes them, so
// that they are the same behind a crash.
func (n *Node) follow(e api.Entry) {
	switch e.Kind {
	case kindDid:
		n.book.Take(e.Id, e.N[0])
		n.states[e.Id] = Did
	case kindCant:
		n.states[e.Id] = Cant
	case kindUndid:
		// One that was never done holds nothing: the book refuses, as it should.
		n.book.Back(e.Id)
		n.states[e.Id] = Undid
	}
}

// forget makes of book and states what they are ahead of all entries.
func (n *Node) forget() {
	n.book, n.states = hold.New(n.hold), map[int]int{}
}
