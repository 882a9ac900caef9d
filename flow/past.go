package flow

import "wharfinger/api"

// past is what happened to an order. Steps come to be done from the first one
// on, and undone from the last one that is done on back, so that it is enough
// to count both.
type past struct {
	steps   int
	done    int
	undone  int
	commits bool
	aborts  bool
	shipped bool
}

// mayBeDone need not ask for MCommits: no step is left to be done behind it.
func (p past) mayBeDone(a api.Act) bool {
	return a.Kind == api.MDone && a.Step == p.done && p.done < p.steps && p.undone == 0
}

func (p past) mayBeUndone(a api.Act) bool {
	return a.Kind == api.MUndone && a.Step == p.done-p.undone-1 && p.undone < p.done && p.aborts
}

// mayCommit need not ask for steps that are undone: they come behind MAborts.
func (p past) mayCommit(a api.Act) bool {
	return a == api.Act{Kind: api.MCommits} && p.done == p.steps && !p.commits && !p.aborts
}

func (p past) mayAbort(a api.Act) bool {
	return a == api.Act{Kind: api.MAborts} && !p.commits && !p.aborts
}

func (p past) mayBeShipped(a api.Act) bool {
	return a == api.Act{Kind: api.MShipped} && p.commits && !p.shipped
}
