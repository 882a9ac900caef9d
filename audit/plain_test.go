package audit_test

import (
	"fmt"
	"slices"

	"wharfinger/api"
	"wharfinger/harbour"
	"wharfinger/model"
)

// plain is a harbour, with what was handed in and what was forced written down
// beside it; what it says of the books is worked out order by order.
type plain struct {
	h      *harbour.Harbour
	orders map[int]api.Order // by id: those that began
	forced map[int]bool
}

func newPlain(h *harbour.Harbour) *plain {
	return &plain{h, map[int]api.Order{}, map[int]bool{}}
}

// do does a command, and writes down what came of it.
func (p *plain) do(c api.Cmd) api.Errno {
	e := p.h.Do(c)
	switch {
	case e != api.OK:
	case c.Kind == api.CSubmit:
		p.orders[c.Order.Id] = c.Order
	case c.Kind == api.CForce:
		p.forced[c.Id] = true
	}
	return e
}

// down tells whether some node is down.
func (p *plain) down() bool {
	h := p.h
	return h.Desk().Chief().Down() || h.Keeper(1).Down() || h.Keeper(2).Down() || h.Shipper().Down() ||
		h.Service(4).Down() || h.Service(5).Down() || h.Service(6).Down()
}

// even is what is amiss.
func (p *plain) even(s api.Setup) []string {
	if p.down() {
		return nil
	}
	var l []string
	for id := 1; id <= 999; id++ {
		if o, began := p.orders[id]; began && !p.forced[id] {
			l = append(l, p.ofOrder(o)...)
		}
	}
	return append(l, p.ofBooks(s)...)
}

// ofOrder is what is amiss with an order that began and was not forced.
func (p *plain) ofOrder(o api.Order) []string {
	var l []string
	stock, purse := p.h.Keeper(api.Stock).State(o.Id), p.h.Keeper(api.Purse).State(o.Id)
	if apart(stock, purse) {
		l = append(l, fmt.Sprint(o.Id, ": keepers"))
	}
	ought, sold := model.New(o), false
	legal := true
	for _, a := range p.h.Trace(o.Id) {
		legal = legal && ought.See(a)
		sold = sold || a.Kind == api.MCommits
	}
	if !legal {
		l = append(l, fmt.Sprint(o.Id, ": trace"))
	}
	if slices.Contains(p.h.Shipper().Parcels().Ids(), o.Id) && !sold {
		l = append(l, fmt.Sprint(o.Id, ": shipped"))
	}
	holds := p.h.Service(4).State(o.Id) == 1 || p.h.Service(5).State(o.Id) == 1 || p.h.Service(6).State(o.Id) == 1 ||
		stock == api.VPrepared || stock == api.VCommitted || purse == api.VPrepared || purse == api.VCommitted
	if holds && p.h.Desk().Tell(o.Id) == fmt.Sprint(o.Id, ": aborted") {
		l = append(l, fmt.Sprint(o.Id, ": held"))
	}
	return l
}

// ofBooks is what is amiss with the books.
func (p *plain) ofBooks(s api.Setup) []string {
	var l []string
	goods, money, till := p.h.Keeper(api.Stock).Goods(), p.h.Keeper(api.Purse).Money(), 0
	has := func(node int, o api.Order) bool {
		state := p.h.Keeper(node).State(o.Id)
		return state == api.VCommitted || state == api.VForcedYes
	}
	for i := range 8 {
		there := goods.OnHand(i)
		for _, o := range p.orders {
			if o.Item == i && has(api.Stock, o) {
				there += o.Qty
			}
		}
		if there != at(s.Stock, i) {
			l = append(l, fmt.Sprint("item ", i, ": goods"))
		}
	}
	for i := range 8 {
		there := money.Money(i)
		for _, o := range p.orders {
			if o.Client == i && has(api.Purse, o) {
				there, till = there+o.Price, till+o.Price
			}
		}
		if there != at(s.Money, i) {
			l = append(l, fmt.Sprint("client ", i, ": money"))
		}
	}
	if till != money.Till() {
		l = append(l, "till")
	}
	return l
}

// at is the number at a place; 0 of one that there is not.
func at(row []int, i int) int {
	if i >= len(row) {
		return 0
	}
	return row[i]
}

// report is what the books say, as reportText has it.
func (p *plain) report() string {
	h := p.h
	goods, money := h.Keeper(api.Stock).Goods(), h.Keeper(api.Purse).Money()
	var there, went, left [8]int
	for i := range 8 {
		there[i], left[i] = goods.OnHand(i), money.Money(i)
	}
	for _, id := range h.Shipper().Parcels().Ids() {
		item, qty, _ := h.Shipper().Parcels().Has(id)
		went[item] += qty
	}
	s := fmt.Sprint(rowText(there), "; ", rowText(went), "; ", rowText(left), "; ", money.Till(), "; ", h.Service(4).Left(), " ", h.Service(5).Left(), " ", h.Service(6).Left())
	for _, word := range []string{"shipped", "aborted", "damaged", "open"} {
		ids := ""
		for id := 1; id <= 999; id++ {
			if _, began := p.orders[id]; began && !h.Desk().Chief().Down() && p.word(id) == word {
				ids += fmt.Sprint(" ", id)
			}
		}
		if ids != "" {
			s += "; " + word + ids
		}
	}
	return s
}

// word is in which list an order is that began.
func (p *plain) word(id int) string {
	switch p.h.Desk().Status(id) {
	case api.SShipped:
		return "shipped"
	case api.SAborted:
		return "aborted"
	case api.SDamaged:
		return "damaged"
	}
	return "open"
}
