package keeper

import (
	"wharfinger/api"
	"wharfinger/purse"
	"wharfinger/stock"
)

// couldNow tells whether the book could take what m asks for. What was taken
// for that is given back at once: the book has nothing that no entry says, and
// if there is no room for the entry nothing has changed.
func (n *Node) couldNow(m api.Msg) bool {
	if m.Kind != api.MPrepare || n.State(m.Id) != api.VNone {
		return false
	}
	return n.take(m.Id, m.A, m.B) == api.OK && n.free(m.Id) == api.OK
}

// take keeps so much of an item, or of a client's money, for id.
func (n *Node) take(id, of, much int) api.Errno {
	if n.node == api.Stock {
		return n.goods.Reserve(id, of, much)
	}
	return n.money.Allow(id, of, much)
}

// sell ends what is kept for id: it is gone, or paid.
func (n *Node) sell(id int) api.Errno {
	if n.node == api.Stock {
		return n.goods.Commit(id)
	}
	return n.money.Capture(id)
}

// free ends what is kept for id: it is as if it had never been.
func (n *Node) free(id int) api.Errno {
	if n.node == api.Stock {
		return n.goods.Release(id)
	}
	return n.money.Void(id)
}

// forget makes of book and states what they are ahead of all entries. The book
// stays where it is, so that who was told it goes on asking the node's own.
func (n *Node) forget() {
	switch n.node {
	case api.Stock:
		*n.goods = *stock.New(n.first[:])
	case api.Purse:
		*n.money = *purse.New(n.first[:])
	}
	n.states = map[int]int{}
}
