package audit

import (
	"iter"
	"slices"
	"strconv"

	"wharfinger/api"
	"wharfinger/flow"
	"wharfinger/harbour"
	"wharfinger/peers"
	"wharfinger/service"
	"wharfinger/vote"
)

// Even tells what is amiss in a harbour that was made of s, one line each.
func Even(s api.Setup, h *harbour.Harbour) []string {
	// Who is down has forgotten what its journal says: nothing can be told by it.
	if h == nil || !harbour.May(s) || anyDown(h) {
		return nil
	}
	return slices.Concat(ofOrders(h), ofGoods(s.Stock, h), ofMoney(s.Money, h))
}

// anyDown tells whether some node is down.
func anyDown(h *harbour.Harbour) bool {
	down := h.Desk().Chief().Down() || h.Shipper().Down()
	for node := range api.Nodes {
		down = down || h.Keeper(node).Down() || h.Service(node).Down()
	}
	return down
}

// ofOrders tells what is amiss with orders, as far as no operator forced them.
func ofOrders(h *harbour.Harbour) []string {
	var lines []string
orders:
	for id, status := range h.Desk().All() {
		if status == api.SRejected || h.Forced(id) {
			continue
		}
		for _, amiss := range ofOne(h, id) {
			lines = append(lines, line(id, amiss))
		}
		if status != api.SAborted {
			continue
		}
		// However many hold something of it, it is held once.
		for node := range api.Nodes {
			if holds(h, node, id) {
				lines = append(lines, line(id, "held"))
				continue orders
			}
		}
	}
	return lines
}

// ofOne tells what is amiss with an order, whatever its status is.
func ofOne(h *harbour.Harbour, id int) []string {
	var l []string
	if !peers.Safe([]int{h.Keeper(api.Stock).State(id), h.Keeper(api.Purse).State(id)}) {
		l = append(l, "keepers")
	}
	o, _, _ := h.Desk().Chief().Facts(id)
	trace := h.Trace(id)
	if flow.Legal(o, trace) != len(trace) {
		l = append(l, "trace")
	}
	_, _, went := h.Shipper().Parcels().Has(id)
	if went && !slices.Contains(trace, api.Act{Kind: api.MCommits}) {
		l = append(l, "shipped")
	}
	return l
}

func line(id int, amiss string) string { return strconv.Itoa(id) + ": " + amiss }

// holds tells whether a node, be it a service or a keeper, has something of the
// order that an end of it would have taken away.
func holds(h *harbour.Harbour, node, id int) bool {
	kept := h.Keeper(node).State(id)
	return h.Service(node).State(id) == service.Did || kept == api.VPrepared || kept == api.VCommitted
}

// ofGoods tells of which items there is not what there was at first, with what
// was sold.
func ofGoods(first []int, h *harbour.Harbour) []string {
	var there [api.MaxItems]int
	for i := range there {
		there[i] = h.Keeper(api.Stock).Goods().OnHand(i)
	}
	// Orders ask for an amount each, and there are no more than ids: added up they
	// are far from going round. Cut, as those of Sum are, they might seem even.
	for o := range sold(h, api.Stock) {
		there[o.Item] += o.Qty
	}
	return others(first, there, "item ", ": goods")
}

// ofMoney tells which clients have not what they had at first, with what they
// paid, and whether the till has not what was paid by all.
func ofMoney(first []int, h *harbour.Harbour) []string {
	var there [api.MaxItems]int
	money, paid := h.Keeper(api.Purse).Money(), 0
	for i := range there {
		there[i] = money.Money(i)
	}
	for o := range sold(h, api.Purse) {
		there[o.Client] += o.Price
		paid += o.Price
	}
	lines := others(first, there, "client ", ": money")
	if money.Till() != paid {
		lines = append(lines, "till")
	}
	return lines
}

// sold tells the orders that a keeper decided for, or was forced to, to range
// over. Of one that the chief does not know nobody knows what it asked for.
func sold(h *harbour.Harbour, node int) iter.Seq[api.Order] {
	return func(yield func(api.Order) bool) {
		k := h.Keeper(node)
		for id := range k.Ids() {
			yes, _ := vote.Decided(k.State(id))
			o, _, known := h.Desk().Chief().Facts(id)
			if yes && known && !yield(o) {
				return
			}
		}
	}
}

// others tells a line of each number of which there is not what there was at
// first: a number that first has not had nothing.
func others(first []int, there [api.MaxItems]int, ahead, behind string) []string {
	var lines []string
	var had [api.MaxItems]int
	copy(had[:], first)
	for i := range had {
		if had[i] != there[i] {
			lines = append(lines, ahead+strconv.Itoa(i)+behind)
		}
	}
	return lines
}
