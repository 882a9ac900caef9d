package keeper

import (
	"wharfinger/api"
	"wharfinger/vote"
)

// words are the kinds of entries, by the state that each says. There is none of
// VNone, for nothing comes back to it.
var words = [...]string{
	api.VPrepared:  "ready", // with what the book takes
	api.VCommitted: "yes",
	api.VAborted:   "no",
	api.VForcedYes: "fyes",
	api.VForcedNo:  "fno",
}

// numbersOf tells the numbers in the entry of a state that m leads to.
func numbersOf(state int, m api.Msg) []int {
	if state != api.VPrepared {
		return nil
	}
	return []int{m.A, m.B}
}

// note makes sure that id comes to state, and only then follows it. Where that
// finds no room it tells so, and nothing has changed.
func (n *Node) note(state, id int, numbers ...int) api.Errno {
	e := api.Entry{Kind: words[state], Id: id, N: numbers}
	if no := n.journal.Add(e); no != api.OK {
		return no
	}
	if no := n.journal.Sync(); no != api.OK {
		return no
	}
	n.follow(state, e)
	return api.OK
}

// follow makes of book and states what e, the entry of a state, says. Nothing
// else changes them, so that they are the same behind a crash.
func (n *Node) follow(state int, e api.Entry) {
	switch yes, decided := vote.Decided(state); {
	case !decided:
		n.take(e.Id, e.N[0], e.N[1])
	case yes:
		n.sell(e.Id)
	default:
		// One that was never ready took nothing: the book refuses, as it should.
		n.free(e.Id)
	}
	n.states[e.Id] = state
}
