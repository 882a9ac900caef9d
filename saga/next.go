package saga

import (
	"wharfinger/api"
	"wharfinger/flow"
)

// forward tells what is to be sent for o, which is not turned: it goes along
// the plan to the first thing that has to be answered ahead of all behind it.
func forward(o api.Order, f Facts) []api.Msg {
	var need []api.Msg
plan:
	for a := range flow.Plan(o) {
		switch a.Kind {
		case api.MDo:
			if f.Done[a.Step] {
				continue plan
			}
			need = append(need, do(o, a.Step))
			break plan
		case api.MPrepare:
			if f.Yes {
				continue plan
			}
			need = append(need, prepare(o)...)
			break plan
		case api.MCommit:
			need = append(need, decision(o, f, api.MCommit)...)
		case api.MShip:
			if !f.Shipped {
				need = append(need, ship(o))
			}
		}
	}
	return need
}

// back tells what is to be sent for o, which is turned. One step at a time is
// undone, so that none is ahead of a later one.
func back(o api.Order, f Facts) []api.Msg {
	var need []api.Msg
way:
	for a := range flow.Back(o) {
		switch a.Kind {
		case api.MAbort:
			need = append(need, decision(o, f, api.MAbort)...)
		case api.MUndo:
			if f.Undone[a.Step] {
				continue way
			}
			need = append(need, undo(o, a.Step))
			break way
		}
	}
	return need
}

// decision tells the messages of what was decided, to each keeper that has not
// acked.
func decision(o api.Order, f Facts, kind int) []api.Msg {
	var need []api.Msg
	for i, acked := range f.Acks {
		if !acked {
			need = append(need, message(o, kind, api.Stock+i))
		}
	}
	return need
}

func prepare(o api.Order) []api.Msg {
	goods, money := message(o, api.MPrepare, api.Stock), message(o, api.MPrepare, api.Purse)
	goods.A, goods.B = o.Item, o.Qty
	money.A, money.B = o.Client, o.Price
	return []api.Msg{goods, money}
}

func ship(o api.Order) api.Msg {
	m := message(o, api.MShip, api.Shipper)
	m.A, m.B = o.Item, o.Qty
	return m
}

func do(o api.Order, step int) api.Msg {
	m := message(o, api.MDo, o.Steps[step].Service)
	m.Step, m.A = step, o.Steps[step].N
	return m
}

func undo(o api.Order, step int) api.Msg {
	m := message(o, api.MUndo, o.Steps[step].Service)
	m.Step = step
	return m
}

// message is one of the chief's of that order alone.
func message(o api.Order, kind, to int) api.Msg {
	return api.Msg{Kind: kind, From: api.Chief, To: to, Id: o.Id}
}
