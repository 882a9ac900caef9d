package harbour

import "wharfinger/api"

// mostRounds is where Settle ends, however many it is asked for.
const mostRounds = 1000

// Settle lets all go on by itself for so many rounds, or till nothing is left
// to be done, and tells how many there were.
func (h *Harbour) Settle(rounds int) int {
	if h == nil {
		return 0
	}
	did := 0
	for did < min(rounds, mostRounds) && !h.rests() {
		h.round()
		did++
	}
	return did
}

// round starts who is down, delivers what is on its way, and rings all bells.
func (h *Harbour) round() {
	for number := range api.Nodes {
		h.start(number)
	}
	// What is told in answer stays on its way, but for what the post has no room
	// for: so many are delivered, not those alone that are there now.
	for range h.post.Len() {
		h.deliver(0)
	}
	for _, number := range [...]int{api.Chief, api.Stock, api.Purse} {
		h.ringAll(number)
	}
}

// ringAll rings a node's bells for all orders that it knows of: those that have
// none, or wait no more, tell nothing.
func (h *Harbour) ringAll(number int) {
	for id := range h.ringer(number).Ids() {
		h.ring(number, id)
	}
}

// rests tells whether there is nothing that a round would do.
func (h *Harbour) rests() bool {
	return !h.anyDown() && h.post.Len() == 0 && h.desk.Open() == 0 && !h.anyWaits()
}

// anyDown tells whether some node is down.
func (h *Harbour) anyDown() bool {
	for number := range api.Nodes {
		if h.node(number).Down() {
			return true
		}
	}
	return false
}

// anyWaits tells whether some keeper waits for a decision.
func (h *Harbour) anyWaits() bool {
	for _, k := range h.keepers {
		for id := range k.Ids() {
			if k.State(id) == api.VPrepared {
				return true
			}
		}
	}
	return false
}
