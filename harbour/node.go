package harbour

import (
	"iter"

	"wharfinger/api"
)

// node is what all nodes have in common.
type node interface {
	Handle(m api.Msg) []api.Msg
	Crash(stay, torn int)
	Start()
	Down() bool
}

// ringer is a node that knows of orders, and has bells that ring for them.
type ringer interface {
	node
	Ids() iter.Seq[int]
	Ring(id int) []api.Msg
}

// node tells the one of that number; nil, if there is none.
func (h *Harbour) node(number int) node {
	switch {
	case number == api.Shipper:
		return h.shipper
	case isService(number):
		return h.Service(number)
	}
	return h.ringer(number)
}

// ringer tells the one of that number; nil, if that is none that rings.
func (h *Harbour) ringer(number int) ringer {
	switch {
	case number == api.Chief:
		return h.desk.Chief()
	case isKeeper(number):
		return h.Keeper(number)
	}
	return nil
}
