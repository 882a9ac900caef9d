package harbour

import (
	"slices"

	"wharfinger/api"
	"wharfinger/service"
)

// Trace tells what happened to the order, in order.
func (h *Harbour) Trace(id int) []api.Act {
	if h == nil {
		return nil
	}
	return slices.Clone(h.traces[id])
}

// Forced tells whether an operator forced a keeper of the order.
func (h *Harbour) Forced(id int) bool {
	if h == nil {
		return false
	}
	_, forced := h.forced[id]
	return forced
}

// noteBehind notes what happened at the node that m was delivered to.
func (h *Harbour) noteBehind(m api.Msg) {
	switch {
	case m.To == api.Chief:
		h.noteDecision(m.Id)
	case m.To == api.Shipper:
		h.noteParcel(m.Id)
	case isService(m.To):
		h.noteStep(m)
	}
}

// noteDecision notes what the chief has decided.
func (h *Harbour) noteDecision(id int) {
	switch _, known, _ := h.desk.Chief().Facts(id); {
	case known.Yes:
		h.note(id, api.MCommits, 0)
	case known.Turned:
		h.note(id, api.MAborts, 0)
	}
}

// noteParcel notes that what was sold was shipped.
func (h *Harbour) noteParcel(id int) {
	if _, _, went := h.shipper.Parcels().Has(id); went {
		h.note(id, api.MShipped, 0)
	}
}

// noteStep notes what became of the step that m speaks of.
func (h *Harbour) noteStep(m api.Msg) {
	switch h.Service(m.To).State(m.Id) {
	case service.Did:
		h.note(m.Id, api.MDone, m.Step)
	case service.Undid:
		// One that was never done is Undid too; nothing happened to it.
		if h.happened(m.Id, api.MDone, m.Step) {
			h.note(m.Id, api.MUndone, m.Step)
		}
	}
}

// note notes what a node says that happened. Each thing happens to an order but
// once, and stays so behind any crash: what is there is not new.
func (h *Harbour) note(id, kind, step int) {
	if !h.happened(id, kind, step) {
		h.traces[id] = append(h.traces[id], api.Act{Kind: kind, Step: step})
	}
}

func (h *Harbour) happened(id, kind, step int) bool {
	return slices.Contains(h.traces[id], api.Act{Kind: kind, Step: step})
}
